/- What slots read as; behind a step. -/
import Derived.Test.YtjkohdenmiljpaaV
namespace Go.Proofs.Ytjkohdenmiljpaa
open Go.ChangeShapes Go.WideShapes Go.ChangeAt Go.RowKit Go.Maps Go.Deep Go.Joins
set_option linter.unusedVariables false
set_option linter.unusedSimpArgs false

def sv (S : ByteArray) : Value := .string S
theorem elemS : Elem Try.prog 49 9 sv 16 where
  und := Try.underlying49
  info := by
    have h : (Try.prog.info? 9).map (fun i => (i.zero, i.size, i.bytes)) = some (some (.string ByteArray.empty), 1, 16) := by kernel_rfl
    cases hi : Try.prog.info? 9 with
    | none => rw [hi] at h; cases h
    | some i => rw [hi] at h; simp only [Option.map_some, Option.some.injEq, Prod.mk.injEq] at h; exact ⟨i, _, rfl, h.1, h.2.1, h.2.2, rfl⟩
  one := fun _ => rfl
theorem index49 (g off m c k : Nat) (i : Int) (hi : i = (k : Int)) (h : k < m) (W : World) : (Instr.indexAt 49 (.slice (some ⟨g, off, none⟩) m c) (.int .i64 i)).run Try.prog W = .ok (.pointer (some ⟨g, off + k, none⟩)) W := by
  subst hi
  have h1 : (0 : Int) ≤ (k : Int) ∧ (k : Int) < (m : Int) := by omega
  go_simp
theorem rdS_size {bs : List Int} {o n : Nat} (h : o + n ≤ bs.length) : (rdS bs o n).size = n := by
  unfold rdS strOfNums
  show (List.toArray _).size = n
  simp
  omega
theorem rdS_same {bs bs' : List Int} {o n : Nat} (hl : bs'.length = bs.length) (h : ∀ j, o ≤ j → j < o + n → bs'.getD j 0 = bs.getD j 0) : rdS bs' o n = rdS bs o n := by
  unfold rdS
  congr 1
  apply List.ext_getElem?
  intro j
  rw [List.getElem?_take, List.getElem?_take]
  by_cases hj : j < n
  · rw [if_pos hj, if_pos hj, List.getElem?_drop, List.getElem?_drop]
    have := h (o + j) (by omega) (by omega)
    rw [List.getD_eq_getElem?_getD, List.getD_eq_getElem?_getD] at this
    by_cases e : o + j < bs.length
    · rw [List.getElem?_eq_getElem e, List.getElem?_eq_getElem (by omega)] at this ⊢
      simpa using this
    · rw [List.getElem?_eq_none (by omega), List.getElem?_eq_none (by omega)]
  · rw [if_neg hj, if_neg hj]
theorem rdS_out {bs bs' : List Int} {o s x : Nat} (h : Out bs bs' o s) (hx : x + s ≤ o ∨ o + s ≤ x) : rdS bs' x s = rdS bs x s :=
  rdS_same h.1 (fun j h1 h2 => h.2 j (by omega))
section
variable {W W' : World} {B p b s m : Nat} {C bs : List Int} {F : List Nat} {fresh last : Int}
theorem Inv.apart (h : Inv s m fresh last C bs F) {x y : Int} (hx : x ∈ C) (hy : y ∈ C) (hne : x ≠ y) : x.toNat + s ≤ y.toNat ∨ y.toNat + s ≤ x.toNat := by
  obtain ⟨i, _, ei⟩ := h.cm x hx
  obtain ⟨j, _, ej⟩ := h.cm y hy
  have e1 : x.toNat = i * s := by omega
  have e2 : y.toNat = j * s := by omega
  rw [e1, e2]
  exact apart_mul (fun e => hne (by rw [ei, ej, e]))
end
theorem read_pg (B p b s m : Nat) (C bs : List Int) (F : List Nat) (x : Int) (w : World) (h : Pg w B p b s m C bs F) (hx : x ∈ C) : Calls Try.prog 10 #[.pointer (some ⟨p, 0, none⟩), .int .u16 x] w fun e w' => e = .returned (.tuple #[.string (rdS bs x.toNat s), .int .i64 0]) ∧ Below w.heap.size w w' := by
  obtain ⟨o, rfl, ho, _, _⟩ := h.inv.at_ hx
  exact read_of B p b s o _ _ C bs w h.at_ h.inv.s2 ho (is_mem.2 hx)
theorem read_pg_no (B p b s m : Nat) (C bs : List Int) (F : List Nat) (x : Int) (w : World) (h : Pg w B p b s m C bs F) (hw : (Lit.int .u16 x).wf = true) (hx : x ∉ C) : Calls Try.prog 10 #[.pointer (some ⟨p, 0, none⟩), .int .u16 x] w fun e w' => e = .returned (.tuple #[.string ByteArray.empty, .int .i64 5]) ∧ Below w.heap.size w w' :=
  read_no B p b _ _ _ C bs x w h.at_ hw (by cases e : isC C x with | false => rfl | true => exact absurd (is_mem.1 e) hx)
/-- reading tells something; of a slot in use its bytes -/
theorem read_some (B p b s m : Nat) (C bs : List Int) (F : List Nat) (x : Int) (hw : (Lit.int .u16 x).wf = true) : ∃ (t : ByteArray) (r : Int), (∀ w, Pg w B p b s m C bs F → Calls Try.prog 10 #[.pointer (some ⟨p, 0, none⟩), .int .u16 x] w fun e w' => e = .returned (.tuple #[.string t, .int .i64 r]) ∧ Below w.heap.size w w') ∧ (x ∈ C → t = rdS bs x.toNat s ∧ r = 0) := by
  by_cases hx : x ∈ C
  · exact ⟨_, _, fun w h => read_pg B p b s m C bs F x w h hx, fun _ => ⟨rfl, rfl⟩⟩
  · exact ⟨_, _, fun w h => read_pg_no B p b s m C bs F x w h hw hx, fun h => absurd h hx⟩
/-- behind a step: each slot that was in use reads as it did, or it is the one that the step names -/
def Kept (W : World) (B p b s : Nat) (C bs : List Int) (no : Bool) (x : Int) : Prop :=
  ∃ (m : Nat) (C' bs' : List Int) (F : List Nat), Pg W B p b s m C' bs' F ∧ ∀ y ∈ C, (no = false ∧ y = x) ∨ y ∈ C' ∧ rdS bs' y.toNat s = rdS bs y.toNat s
theorem Kept.later {W W' : World} {B p b s : Nat} {C bs : List Int} {no : Bool} {x : Int} (h : Kept W B p b s C bs no x) (hb : Below W.heap.size W W') : Kept W' B p b s C bs no x := by
  obtain ⟨m, C', bs', F, hp, hk⟩ := h
  exact ⟨m, C', bs', F, hp.later hb, hk⟩
theorem step_alloc (B p b s m : Nat) (C bs : List Int) (F : List Nat) (x : Int) (w : World) (h : Pg w B p b s m C bs F) (hs : s ≤ 4096) : Calls Try.prog 9 #[.pointer (some ⟨p, 0, none⟩)] w fun e w' => (∃ a r : Int, e = .returned (.tuple #[.int .u16 a, .int .i64 r])) ∧ Kept w' B p b s C bs true x ∧ Fr w w' p b := by
  by_cases hr : C.length = 4096 / s
  · refine (pg_full B p b s m C bs F w h hs hr).mono ?_
    rintro e w' ⟨rfl, hb⟩
    exact ⟨⟨_, _, rfl⟩, ⟨m, C, bs, F, h.later hb, fun y hy => .inr ⟨hy, rfl⟩⟩, Fr.of_below hb⟩
  · have hr2 : C.length < 4096 / s := by have := h.room.2; omega
    have hnew := pg_alloc_new h hr2
    refine (pg_alloc B p b s m C bs F w h hr2).mono ?_
    rintro e w' ⟨rfl, m', F', hp, hf⟩
    refine ⟨⟨_, _, rfl⟩, ⟨m', _, _, F', hp, fun y hy => .inr ⟨mem_put.2 (.inr hy), ?_⟩⟩, hf⟩
    have hne : y ≠ ((allC s m C F : Nat) : Int) := fun e => hnew.1 (by rw [← e]; exact hy)
    have hap := hp.inv.apart (mem_put.2 (.inr hy)) (mem_put.2 (.inl rfl)) hne
    exact rdS_out (out_fill (by rw [h.inv.len]; exact hnew.2)) (by rw [Int.toNat_natCast] at hap; exact hap)
theorem step_free (B p b s m : Nat) (C bs : List Int) (F : List Nat) (x : Int) (w : World) (h : Pg w B p b s m C bs F) (hw : (Lit.int .u16 x).wf = true) : Calls Try.prog 12 #[.pointer (some ⟨p, 0, none⟩), .int .u16 x] w fun e w' => (∃ r : Int, e = .returned (.int .i64 r)) ∧ Kept w' B p b s C bs false x ∧ Fr w w' p b := by
  by_cases hx : x ∈ C
  · refine (pg_free B p b s m C bs F x w h hx).mono ?_
    rintro e w' ⟨rfl, bs', F', hp, hf, ho⟩
    refine ⟨⟨_, rfl⟩, ⟨m, _, bs', F', hp, fun y hy => ?_⟩, hf⟩
    by_cases e : y = x
    · exact .inl ⟨rfl, e⟩
    · refine .inr ⟨mem_del.2 ⟨hy, e⟩, rdS_out ho (h.inv.apart hy hx e)⟩
  · refine (pg_free_no B p b s m C bs F x w h hw hx).mono ?_
    rintro e w' ⟨rfl, hb⟩
    exact ⟨⟨_, rfl⟩, ⟨m, C, bs, F, h.later hb, fun y hy => .inr ⟨hy, rfl⟩⟩, Fr.of_below hb⟩
theorem step_write (B p b s m : Nat) (C bs : List Int) (F : List Nat) (x : Int) (S : ByteArray) (w : World) (h : Pg w B p b s m C bs F) (hw : (Lit.int .u16 x).wf = true) (hs : s ≤ 4096) : Calls Try.prog 13 #[.pointer (some ⟨p, 0, none⟩), .int .u16 x, .string S] w fun e w' => (∃ r : Int, e = .returned (.int .i64 r)) ∧ Kept w' B p b s C bs false x ∧ Fr w w' p b := by
  refine (pg_write B p b s m C bs F x S w h hw hs).mono ?_
  rintro e w' ⟨he, bs', hp, hf, ho⟩
  refine ⟨he, ⟨m, C, bs', F, hp, fun y hy => ?_⟩, hf⟩
  rcases ho with rfl | ⟨hx, ho⟩
  · exact .inr ⟨hy, rfl⟩
  · by_cases e : y = x
    · exact .inl ⟨rfl, e⟩
    · exact .inr ⟨hy, rdS_out ho (h.inv.apart hy hx e)⟩
/-- what slots read as -/
def wasL (bs : List Int) (s : Nat) (U : List Int) (k : Nat) : List ByteArray := (U.take k).map fun x => rdS bs x.toNat s
theorem was_succ {bs : List Int} {s : Nat} {U : List Int} {k : Nat} (h : k < U.length) : wasL bs s U (k + 1) = wasL bs s U k ++ [rdS bs (U.getD k 0).toNat s] := by
  unfold wasL
  rw [List.take_add_one, List.getElem?_eq_getElem h, List.map_append, List.getD_eq_getElem?_getD, List.getElem?_eq_getElem h]
  rfl
theorem was_len {bs : List Int} {s : Nat} {U : List Int} {k : Nat} (h : k ≤ U.length) : (wasL bs s U k).length = k := by unfold wasL; rw [List.length_map, List.length_take]; omega
theorem was_at {bs : List Int} {s : Nat} {U : List Int} {k n : Nat} (h : k < n) (hn : n ≤ U.length) : (wasL bs s U n)[k]? = some (rdS bs (U.getD k 0).toNat s) := by
  unfold wasL
  rw [List.getElem?_map, List.getElem?_take, if_pos h, List.getElem?_eq_getElem (by omega), List.getD_eq_getElem?_getD, List.getElem?_eq_getElem (by omega)]
  rfl
/-- rows of other things lie apart -/
theorem ow_page9 {W : World} {B B' p b : Nat} {C bs : List Int} {slot fresh last : Int} {v : Value} {n : Nat} {L : List ByteArray} (o : Ow sv W B' 9 v n L) (h : PgAt W B p b slot fresh last C bs) : ∀ k, v.ownBlock = some k → k ≠ p ∧ k ≠ b := fun k hk => by
  obtain ⟨cur, hc⟩ := Ow.tag o k hk
  refine ⟨fun e => ?_, fun e => ?_⟩
  · have h2 : W.heap[p]? = some (.cells (pgv slot fresh last b bs).toArray 69 (0, 0)) := h.blk
    rw [e, h2] at hc; cases hc
  · obtain ⟨es, clock, hm, _⟩ := h.own.2
    rw [e, hm] at hc; cases hc
theorem Pg.grown9 {W W' : World} {B B' p b s m : Nat} {C bs : List Int} {F : List Nat} {v : Value} {n : Nat} {L : List ByteArray} (h : Pg W B p b s m C bs F) (o : Ow sv W B' 9 v n L) (hg : W.grownBy W' v.ownBlock) : Pg W' B p b s m C bs F := by
  have hap := ow_page9 o h.at_
  exact ⟨⟨h.at_.hp, h.at_.blk.grown hg (fun e => (hap p e.symm).1 rfl), ⟨h.at_.own.1, h.at_.own.2.kept hg (fun e => (hap b e.symm).2 rfl)⟩, h.at_.ok, h.at_.len⟩, h.inv⟩
theorem ow_fr9 {W W' : World} {B B' p b : Nat} {C bs : List Int} {slot fresh last : Int} {v : Value} {n : Nat} {L : List ByteArray} (o : Ow sv W B' 9 v n L) (h : PgAt W B p b slot fresh last C bs) (hf : Fr W W' p b) : Ow sv W' B' 9 v n L := by
  have hap := ow_page9 o h
  refine ⟨o.1, ?_⟩
  rcases o.2 with h1 | ⟨g, cap, cur, e, hB, hg, rest⟩
  · exact .inl h1
  · refine .inr ⟨g, cap, cur, e, hB, ?_, rest⟩
    have hk := hap g (by rw [e]; rfl)
    rw [hf.block g (Array.getElem?_eq_some_iff.1 hg).1 hk.1 hk.2]
    exact hg
theorem ow_kept9 {W W' : World} {B B' : Nat} {v v' : Value} {n n' : Nat} {U : List Int} {L : List ByteArray} (h : Ow uv W B 23 v n U) (o : Ow sv W B' 9 v' n' L) (hg : W.grownBy W' v'.ownBlock) : Ow uv W' B 23 v n U := by
  refine World.ownsRow.kept h hg ?_
  cases hk : v.ownBlock with
  | none => exact .inl rfl
  | some k =>
    refine .inr (fun e => ?_)
    obtain ⟨cur, hc⟩ := Ow.tag h k hk
    obtain ⟨cur2, hc2⟩ := Ow.tag o k (by rw [← e])
    rw [hc] at hc2; cases hc2
theorem blk_grown9 {W W' : World} {B' q t : Nat} {c : Array Value} {v : Value} {n : Nat} {L : List ByteArray} (h : Blk W q c t) (ht : t ≠ 9) (o : Ow sv W B' 9 v n L) (hg : W.grownBy W' v.ownBlock) : Blk W' q c t := by
  refine h.grown hg (fun e => ?_)
  obtain ⟨cur, hc⟩ := Ow.tag o q e.symm
  have h2 : W.heap[q]? = some (.cells c t (0, 0)) := h
  rw [h2] at hc
  simp only [Option.some.injEq, Obj.cells.injEq] at hc
  exact ht hc.2.1
section
variable {H : Type} {enc : TypeId × Value → H}
theorem open_stp {W : World} {base : Nat} {v : Value} {d : DataW H} {ps : List MemPlace}
    (hval : Value.okWide Try.prog W .any base 47 v) (h : DataW.Trod enc Try.prog W 0 (fun _ => true) true 47 v d ps) : ∃ s : Stp, v = .agg #[.int .u8 s.1, .int .u16 s.2.1, .int .u16 s.2.2.1, .string s.2.2.2] ∧ StpOk s := by
  obtain ⟨cs, rfl, hsz⟩ := okWide_struct Try.underlying47 hval
  obtain ⟨fuel, hf⟩ := h
  obtain ⟨s, e, hs⟩ := stp_read hf
  refine ⟨s, ?_, hs⟩
  have hcs : cs = (stv s).toArray := by
    apply Array.toList_inj.1
    simpa [Value.cells] using e
  rw [hcs]; rfl
end
end Go.Proofs.Ytjkohdenmiljpaa
