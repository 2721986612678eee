/- A page's state, and what each call makes of it. -/
import Derived.Test.YtbncpfkoeahhpaaJX
namespace Go.Proofs.Ytbncpfkoeahhpaa
open Go.ChangeShapes Go.WideShapes Go.ChangeAt Go.RowKit Go.Maps
set_option linter.unusedVariables false
set_option linter.unusedSimpArgs false

/-- how many slots were used once, those that are used, the bytes, the slots given back -/
abbrev PS := Nat × List Int × List Int × List Nat
def PgS (W : World) (B p b s : Nat) (st : PS) : Prop := Pg W B p b s st.1 st.2.1 st.2.2.1 st.2.2.2
theorem PgS.later {W W' : World} {B p b s : Nat} {st : PS} (h : PgS W B p b s st) (hb : Below W.heap.size W W') : PgS W' B p b s st := Pg.later h hb
theorem PgS.base {W : World} {B B' p b s : Nat} {st : PS} (h : PgS W B p b s st) (hb : B' ≤ B) : PgS W B' p b s st := Pg.base h hb
def nextO (s : Nat) (st : PS) : Nat := match st.2.2.2 with | [] => st.1 * s | f :: _ => f
def alS (s : Nat) (st : PS) : PS := if st.2.1.length = 4096 / s then st else match st.2.2.2 with
  | [] => (st.1 + 1, putC st.2.1 ((st.1 * s : Nat) : Int), fillZ st.2.2.1 (st.1 * s) s, [])
  | f :: r => (st.1, putC st.2.1 (f : Int), fillZ st.2.2.1 f s, r)
def alO (s : Nat) (st : PS) : Int := if st.2.1.length = 4096 / s then 0 else ((nextO s st : Nat) : Int)
def alE (s : Nat) (st : PS) : Int := if st.2.1.length = 4096 / s then 41 else 0
def frS (x : Int) (st : PS) : PS := if isC st.2.1 x then (st.1, delC st.2.1 x, putI st.2.2.1 x.toNat 2 (hdF st.2.2.2), x.toNat :: st.2.2.2) else st
def frE (x : Int) (st : PS) : Int := if isC st.2.1 x then 0 else 5
def wrS (s : Nat) (x : Int) (S : ByteArray) (st : PS) : PS := if isC st.2.1 x ∧ S.size ≤ s then (st.1, st.2.1, fillZ (putS st.2.2.1 x.toNat S) (x.toNat + S.size) (s - S.size), st.2.2.2) else st
def wrE (s : Nat) (x : Int) (S : ByteArray) (st : PS) : Int := if isC st.2.1 x then (if S.size ≤ s then 0 else 40) else 5
def rdT (s : Nat) (x : Int) (st : PS) : ByteArray := if isC st.2.1 x then rdS st.2.2.1 x.toNat s else ByteArray.empty
def rdE (x : Int) (st : PS) : Int := if isC st.2.1 x then 0 else 5
section
variable (B p b s : Nat) (st : PS) (w : World) (h : PgS w B p b s st)
include h
theorem al_any (hs : s ≤ 4096) : Calls Try.prog 46 #[.pointer (some ⟨p, 0, none⟩)] w fun e w' => e = .returned (.tuple #[.int .u16 (alO s st), .int .i64 (alE s st)]) ∧ PgS w' B p b s (alS s st) ∧ Fr w w' p b := by
  obtain ⟨m, C, bs, F⟩ := st
  have h : Pg w B p b s m C bs F := h
  unfold alO alE alS
  simp only
  by_cases hr : C.length = 4096 / s
  · rw [if_pos hr, if_pos hr, if_pos hr]
    refine (pg_full B p b s m C bs F w h hs hr).mono ?_
    rintro e w' ⟨rfl, hb⟩
    exact ⟨rfl, h.later hb, Fr.of_below hb⟩
  · rw [if_neg hr, if_neg hr, if_neg hr]
    have hr2 : C.length < 4096 / s := by have := h.room.2; omega
    cases F with
    | nil =>
      have hct := h.inv.ct
      have hs2 := h.inv.s2
      have hm1 : (m + 1) * s ≤ 4096 := (Nat.le_div_iff_mul_le (by omega)).1 (by simp at hct; omega)
      have hms : m * s + s ≤ 4096 := by rw [Nat.add_mul, Nat.one_mul] at hm1; exact hm1
      have hr0 : ¬ 4096 / (s : Int) - (C.length : Nat) = 0 := by rw [h.room.1]; omega
      have hi := (h.inv.room hm1 rfl).2
      refine (alloc_of B p b s (m * s) ((m * s : Nat) : Int) 65535 (((m + 1) * s : Nat) : Int) 65535 C bs w h.at_ hs2 hms hr0 (fun W hW => ?_)).mono ?_
      · have e := next_fresh B p b (s : Int) ((m * s : Nat) : Int) C bs W hW (by omega) (by omega) (by omega) (by omega)
        rw [show ((m * s : Nat) : Int) + (s : Int) = (((m + 1) * s : Nat) : Int) from by rw [Nat.add_mul, Nat.one_mul]; omega] at e
        exact e
      · rintro e w' ⟨rfl, h1, h2⟩
        exact ⟨rfl, Pg.of h1 hi, h2⟩
    | cons f r =>
      have hr0 : ¬ 4096 / (s : Int) - (C.length : Nat) = 0 := by rw [h.room.1]; omega
      obtain ⟨hfs, hn, hi⟩ := h.inv.back
      refine (alloc_of B p b s f ((m * s : Nat) : Int) (f : Int) ((m * s : Nat) : Int) (getI bs f 2) C bs w h.at_ h.inv.s2 hfs hr0 (fun W hW => next_back B p b s f ((m * s : Nat) : Int) C bs W hW h.inv.by_ h.inv.s2 hfs)).mono ?_
      rintro e w' ⟨rfl, h1, h2⟩
      exact ⟨rfl, Pg.of h1 hi, h2⟩
theorem fr_any (x : Int) (hw : (Lit.int .u16 x).wf = true) : Calls Try.prog 56 #[.pointer (some ⟨p, 0, none⟩), .int .u16 x] w fun e w' => e = .returned (.int .i64 (frE x st)) ∧ PgS w' B p b s (frS x st) ∧ Fr w w' p b := by
  obtain ⟨m, C, bs, F⟩ := st
  have h : Pg w B p b s m C bs F := h
  unfold frS frE
  simp only
  by_cases hx : x ∈ C
  · rw [if_pos (is_mem.2 hx), if_pos (is_mem.2 hx)]
    obtain ⟨o, rfl, ho, _, _⟩ := h.inv.at_ hx
    refine (free_of B p b s o ((m * s : Nat) : Int) (hdF F) C bs w h.at_ h.inv.s2 ho (hdF_rg h.inv).1 (is_mem.2 hx)).mono ?_
    rintro e w' ⟨rfl, h1, h2⟩
    exact ⟨rfl, Pg.of h1 (h.inv.freed h.at_.ok.up hx), h2⟩
  · have hi : isC C x = false := by cases e : isC C x with | false => rfl | true => exact absurd (is_mem.1 e) hx
    rw [if_neg (by simp [hi]), if_neg (by simp [hi])]
    refine (pg_free_no B p b s m C bs F x w h hw hx).mono ?_
    rintro e w' ⟨rfl, hb⟩
    exact ⟨rfl, h.later hb, Fr.of_below hb⟩
theorem wr_any (hs : s ≤ 4096) (x : Int) (S : ByteArray) (hw : (Lit.int .u16 x).wf = true) : Calls Try.prog 49 #[.pointer (some ⟨p, 0, none⟩), .int .u16 x, .string S] w fun e w' => e = .returned (.int .i64 (wrE s x S st)) ∧ PgS w' B p b s (wrS s x S st) ∧ Fr w w' p b := by
  obtain ⟨m, C, bs, F⟩ := st
  have h : Pg w B p b s m C bs F := h
  unfold wrS wrE
  simp only
  by_cases hx : x ∈ C
  · obtain ⟨o, rfl, ho, _, _⟩ := h.inv.at_ hx
    rw [if_pos (is_mem.2 hx)]
    by_cases hS : S.size ≤ s
    · rw [if_pos hS, if_pos ⟨is_mem.2 hx, hS⟩]
      refine (write_of B p b s o _ _ C bs S w h.at_ h.inv.s2 ho (is_mem.2 hx) hS).mono ?_
      rintro e w' ⟨rfl, h1, h2⟩
      exact ⟨rfl, Pg.of h1 (h.inv.wrote hx hS), h2⟩
    · rw [if_neg hS, if_neg (fun e => hS e.2)]
      refine (write_long B p b s o _ _ C bs S w h.at_ (by have := h.inv.s2; omega) (is_mem.2 hx) (by omega)).mono ?_
      rintro e w' ⟨rfl, hb⟩
      exact ⟨rfl, h.later hb, Fr.of_below hb⟩
  · have hi : isC C x = false := by cases e : isC C x with | false => rfl | true => exact absurd (is_mem.1 e) hx
    rw [if_neg (by simp [hi]), if_neg (by simp [hi])]
    refine (write_no B p b (s : Int) _ _ C bs x S w h.at_ hw hi).mono ?_
    rintro e w' ⟨rfl, hb⟩
    exact ⟨rfl, h.later hb, Fr.of_below hb⟩
theorem rd_any (x : Int) (hw : (Lit.int .u16 x).wf = true) : Calls Try.prog 52 #[.pointer (some ⟨p, 0, none⟩), .int .u16 x] w fun e w' => e = .returned (.tuple #[.string (rdT s x st), .int .i64 (rdE x st)]) ∧ Below w.heap.size w w' := by
  obtain ⟨m, C, bs, F⟩ := st
  have h : Pg w B p b s m C bs F := h
  unfold rdT rdE
  simp only
  by_cases hx : x ∈ C
  · rw [if_pos (is_mem.2 hx), if_pos (is_mem.2 hx)]
    exact read_pg B p b s m C bs F x w h hx
  · have hi : isC C x = false := by cases e : isC C x with | false => rfl | true => exact absurd (is_mem.1 e) hx
    rw [if_neg (by simp [hi]), if_neg (by simp [hi])]
    exact read_pg_no B p b s m C bs F x w h hw hx
end
end Go.Proofs.Ytbncpfkoeahhpaa
