/- Alloc, Free, Write, Read of a page whose chain is right. -/
import Derived.Test.YtbnbhhmgfogjeaaJN
namespace Go.Proofs.Ytbnbhhmgfogjeaa
open Go.ChangeShapes Go.WideShapes Go.ChangeAt Go.RowKit Go.Maps
set_option linter.unusedVariables false
set_option linter.unusedSimpArgs false

/-- a page, and its chain -/
structure Pg (W : World) (B p b s m : Nat) (C bs : List Int) (F : List Nat) : Prop where
  at_ : PgAt W B p b (s : Int) ((m * s : Nat) : Int) (hdF F) C bs
  inv : Inv s m ((m * s : Nat) : Int) (hdF F) C bs F
section
variable {W W' : World} {B p b s m : Nat} {C bs : List Int} {F : List Nat}
theorem Pg.later (h : Pg W B p b s m C bs F) (hb : Below W.heap.size W W') : Pg W' B p b s m C bs F := ⟨h.at_.later hb, h.inv⟩
theorem Pg.base {B' : Nat} (h : Pg W B p b s m C bs F) (hb : B' ≤ B) : Pg W B' p b s m C bs F := ⟨h.at_.base hb, h.inv⟩
theorem Pg.of {fresh last : Int} (h : PgAt W B p b (s : Int) fresh last C bs) (i : Inv s m fresh last C bs F) : Pg W B p b s m C bs F := by
  have e1 := i.fr
  have e2 := i.ls
  subst e1 e2
  exact ⟨h, i⟩
theorem Pg.s4 (h : Pg W B p b s m C bs F) (hs : s ≤ 4096) : 2 ≤ (s : Int) ∧ (s : Int) ≤ 4096 := by have := h.inv.s2; omega
/-- is there no room? -/
theorem Pg.room (h : Pg W B p b s m C bs F) : 4096 / (s : Int) - (C.length : Nat) = ((4096 / s - C.length : Nat) : Int) ∧ C.length ≤ 4096 / s := by
  have h1 := h.inv.ct
  have h2 := h.inv.le
  have h3 := h.inv.s2
  have h4 : m ≤ 4096 / s := (Nat.le_div_iff_mul_le (by omega)).2 h2
  have h5 : (4096 : Int) / (s : Int) = ((4096 / s : Nat) : Int) := by rw [Int.natCast_ediv]; rfl
  rw [h5]
  omega
end
/-- what Alloc makes of a page -/
def allC (s m : Nat) (C : List Int) (F : List Nat) : Nat := match F with | [] => m * s | f :: _ => f
theorem pg_full (B p b s m : Nat) (C bs : List Int) (F : List Nat) (w : World) (h : Pg w B p b s m C bs F) (hs : s ≤ 4096) (hr : C.length = 4096 / s) : Calls Try.prog 36 #[.pointer (some ⟨p, 0, none⟩)] w fun e w' => e = .returned (.tuple #[.int .u16 0, .int .i64 41]) ∧ Below w.heap.size w w' :=
  alloc_full B p b (s : Int) _ _ C bs w h.at_ (h.s4 hs).1 (h.s4 hs).2 (by rw [h.room.1, hr, Nat.sub_self]; rfl)
theorem pg_alloc (B p b s m : Nat) (C bs : List Int) (F : List Nat) (w : World) (h : Pg w B p b s m C bs F) (hr : C.length < 4096 / s) : Calls Try.prog 36 #[.pointer (some ⟨p, 0, none⟩)] w fun e w' => e = .returned (.tuple #[.int .u16 ((allC s m C F : Nat) : Int), .int .i64 0]) ∧ ∃ m' F', Pg w' B p b s m' (putC C ((allC s m C F : Nat) : Int)) (fillZ bs (allC s m C F) s) F' ∧ Fr w w' p b := by
  have hr0 : ¬ 4096 / (s : Int) - (C.length : Nat) = 0 := by rw [h.room.1]; omega
  have hs2 := h.inv.s2
  cases F with
  | nil =>
    have hct := h.inv.ct
    have hm : (m + 1) * s ≤ 4096 := by
      have h1 : m + 1 ≤ 4096 / s := by simp at hct; omega
      exact (Nat.le_div_iff_mul_le (by omega)).1 h1
    have hms : m * s + s ≤ 4096 := by rw [Nat.add_mul, Nat.one_mul] at hm; exact hm
    have hi := (h.inv.room hm rfl).2
    refine (alloc_of B p b s (m * s) ((m * s : Nat) : Int) 65535 (((m + 1) * s : Nat) : Int) 65535 C bs w h.at_ hs2 hms hr0 (fun W hW => ?_)).mono ?_
    · have e := next_fresh B p b (s : Int) ((m * s : Nat) : Int) C bs W hW (by omega) (by omega) (by omega) (by omega)
      rw [show ((m * s : Nat) : Int) + (s : Int) = (((m + 1) * s : Nat) : Int) from by rw [Nat.add_mul, Nat.one_mul]; omega] at e
      exact e
    · rintro e w' ⟨rfl, h1, h2⟩
      exact ⟨rfl, m + 1, [], Pg.of h1 hi, h2⟩
  | cons f r =>
    obtain ⟨hfs, hn, hi⟩ := h.inv.back
    refine (alloc_of B p b s f ((m * s : Nat) : Int) (f : Int) ((m * s : Nat) : Int) (getI bs f 2) C bs w h.at_ hs2 hfs hr0 (fun W hW => next_back B p b s f ((m * s : Nat) : Int) C bs W hW h.inv.by_ hs2 hfs)).mono ?_
    rintro e w' ⟨rfl, h1, h2⟩
    exact ⟨rfl, m, r, Pg.of h1 hi, h2⟩
theorem pg_alloc_new {W : World} {B p b s m : Nat} {C bs : List Int} {F : List Nat} (h : Pg W B p b s m C bs F) (hr : C.length < 4096 / s) : ((allC s m C F : Nat) : Int) ∉ C ∧ allC s m C F + s ≤ 4096 := by
  have hs2 := h.inv.s2
  cases F with
  | nil =>
    have hct := h.inv.ct
    have hm : (m + 1) * s ≤ 4096 := by
      have h1 : m + 1 ≤ 4096 / s := by simp at hct; omega
      exact (Nat.le_div_iff_mul_le (by omega)).1 h1
    have hms : m * s + s ≤ 4096 := by rw [Nat.add_mul, Nat.one_mul] at hm; exact hm
    exact ⟨(h.inv.room hm rfl).1, hms⟩
  | cons f r => exact ⟨h.inv.back.2.1, h.inv.back.1⟩
theorem pg_free (B p b s m : Nat) (C bs : List Int) (F : List Nat) (x : Int) (w : World) (h : Pg w B p b s m C bs F) (hx : x ∈ C) : Calls Try.prog 39 #[.pointer (some ⟨p, 0, none⟩), .int .u16 x] w fun e w' => e = .returned (.int .i64 0) ∧ ∃ bs' F', Pg w' B p b s m (delC C x) bs' F' ∧ Fr w w' p b ∧ Out bs bs' x.toNat s := by
  obtain ⟨o, rfl, ho, _, _⟩ := h.inv.at_ hx
  refine (free_of B p b s o ((m * s : Nat) : Int) (hdF F) C bs w h.at_ h.inv.s2 ho (hdF_rg h.inv).1 (is_mem.2 hx)).mono ?_
  rintro e w' ⟨rfl, h1, h2⟩
  exact ⟨rfl, _, o :: F, Pg.of h1 (h.inv.freed h.at_.ok.up hx), h2, out_put _ h.inv.s2⟩
theorem pg_free_no (B p b s m : Nat) (C bs : List Int) (F : List Nat) (x : Int) (w : World) (h : Pg w B p b s m C bs F) (hw : (Lit.int .u16 x).wf = true) (hx : x ∉ C) : Calls Try.prog 39 #[.pointer (some ⟨p, 0, none⟩), .int .u16 x] w fun e w' => e = .returned (.int .i64 5) ∧ Below w.heap.size w w' :=
  free_no B p b (s : Int) _ _ C bs x w h.at_ hw (by cases e : isC C x with | false => rfl | true => exact absurd (is_mem.1 e) hx)
theorem pg_write (B p b s m : Nat) (C bs : List Int) (F : List Nat) (x : Int) (S : ByteArray) (w : World) (h : Pg w B p b s m C bs F) (hw : (Lit.int .u16 x).wf = true) (hs : s ≤ 4096) : Calls Try.prog 40 #[.pointer (some ⟨p, 0, none⟩), .int .u16 x, .string S] w fun e w' => (∃ r : Int, e = .returned (.int .i64 r)) ∧ ∃ bs', Pg w' B p b s m C bs' F ∧ Fr w w' p b ∧ (bs' = bs ∨ x ∈ C ∧ Out bs bs' x.toNat s) := by
  by_cases hx : x ∈ C
  · obtain ⟨o, rfl, ho, _, _⟩ := h.inv.at_ hx
    by_cases hS : S.size ≤ s
    · refine (write_of B p b s o _ _ C bs S w h.at_ h.inv.s2 ho (is_mem.2 hx) hS).mono ?_
      rintro e w' ⟨rfl, h1, h2⟩
      exact ⟨⟨_, rfl⟩, _, Pg.of h1 (h.inv.wrote hx hS), h2, .inr ⟨hx, out_write hS (by rw [h.inv.len]; exact ho)⟩⟩
    · refine (write_long B p b s o _ _ C bs S w h.at_ (by have := h.inv.s2; omega) (is_mem.2 hx) (by omega)).mono ?_
      rintro e w' ⟨rfl, hb⟩
      exact ⟨⟨_, rfl⟩, bs, h.later hb, Fr.of_below hb, .inl rfl⟩
  · refine (write_no B p b (s : Int) _ _ C bs x S w h.at_ hw (by cases e : isC C x with | false => rfl | true => exact absurd (is_mem.1 e) hx)).mono ?_
    rintro e w' ⟨rfl, hb⟩
    exact ⟨⟨_, rfl⟩, bs, h.later hb, Fr.of_below hb, .inl rfl⟩
theorem pg_new (s : Nat) (w : World) (h1 : 2 ≤ s) (h2 : s ≤ 4096) : Calls Try.prog 44 #[.int .i64 (s : Int)] w fun e w' => e = .returned (.tuple #[.pointer (some ⟨w.heap.size + 1, 0, none⟩), .int .i64 0]) ∧ Pg w' w.heap.size (w.heap.size + 1) w.heap.size s 0 [] (List.replicate 4096 0) [] ∧ Below w.heap.size w w' :=
  (new_any (s : Int) w (by omega) (by omega)).mono (fun _ _ h => ⟨h.1, Pg.of h.2.1 (Inv.new h1), h.2.2⟩)
end Go.Proofs.Ytbnbhhmgfogjeaa
