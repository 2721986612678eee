/- Rows of counts; what was collected. -/
import Derived.Test.YtlnfdcaljmfbjaaF
import Derived.Shelf.GgSortFunc.RowK
import Derived.Shelf.GgSortFunc.InsertionK
import Derived.Shelf.SlSortFuncK.ComposeK
import Derived.Lib.OwnBridge
import Derived.Lib.RowBridge
namespace Go.Proofs.Ytlnfdcaljmfbjaa
open Go.ChangeShapes Go.WideShapes Go.ChangeAt Go.RowKit Go.Maps
set_option linter.unusedVariables false
set_option linter.unusedSimpArgs false

open Go.Sort Go.Lib Go.Shelf
theorem c39info : (Try.prog.info? 39).map (fun i => (i.zero, i.size, i.bytes)) = some (some (.agg #[.int .i64 0, .int .i64 0]), 2, 16) := by kernel_rfl
theorem info_parts {t : TypeId} {z : Option Value} {s b : Nat} (h : (Try.prog.info? t).map (fun i => (i.zero, i.size, i.bytes)) = some (z, s, b)) : ∃ i, Try.prog.info? t = some i ∧ i.zero = z ∧ i.size = s ∧ i.bytes = b := by
  cases hi : Try.prog.info? t with
  | none => rw [hi] at h; cases h
  | some i => rw [hi] at h; simp only [Option.map_some, Option.some.injEq, Prod.mk.injEq] at h; exact ⟨i, rfl, h.1, h.2.1, h.2.2⟩
abbrev c0 : Ct := (0, 0)
def encC (p : Ct) : List Value := [.int .i64 p.1, .int .i64 p.2]
def ctv : List Ct → List Value
  | [] => []
  | v :: l => .int .i64 v.1 :: .int .i64 v.2 :: ctv l
theorem ctv_len : ∀ l : List Ct, (ctv l).length = l.length * 2
  | [] => rfl
  | v :: l => by simp [ctv, ctv_len l]; omega
theorem ctv_app : ∀ (l m : List Ct), ctv (l ++ m) = ctv l ++ ctv m
  | [], m => rfl
  | v :: l, m => by simp [ctv, ctv_app l m]
theorem ctv_at : ∀ (l : List Ct) (j : Nat), j < l.length → (ctv l)[j * 2]? = some (.int .i64 (l.getD j c0).1) ∧ (ctv l)[j * 2 + 1]? = some (.int .i64 (l.getD j c0).2)
  | [], j, h => by simp at h
  | v :: l, 0, h => ⟨rfl, rfl⟩
  | v :: l, j + 1, h => by
    have ih := ctv_at l j (by simp at h; omega)
    rw [show (j + 1) * 2 = j * 2 + 1 + 1 from by omega]
    simp only [ctv, List.getElem?_cons_succ, List.getD_cons_succ]
    exact ih
theorem ctv_one : ∀ (l : List Ct), ∀ u ∈ ctv l, u.oneCell' = true
  | [], u, h => by cases h
  | v :: l, u, h => by
    simp only [ctv, List.mem_cons] at h
    rcases h with rfl | rfl | h
    · rfl
    · rfl
    · exact ctv_one l u h
/-- a row of counts that the call made -/
def COwn (W : World) (B : Nat) (v : Value) (L : List Ct) : Prop := W.ownsRow B 39 2 v L.length (ctv L)
/-- a slice that reads as counts, in a block that the call made -/
def CtSl (W : World) (B : Nat) (A : Option Addr) (L : List Ct) : Prop :=
  0 < L.length → ∃ g, A = some ⟨g, 0, none⟩ ∧ B ≤ g ∧ g < W.heap.size ∧ ∀ j, j < L.length → W.cell? ⟨g, j * 2, none⟩ = some (.int .i64 (L.getD j c0).1) ∧ W.cell? ⟨g, j * 2 + 1, none⟩ = some (.int .i64 (L.getD j c0).2) ∧ W.frozen? ⟨g, j * 2, none⟩ = false ∧ W.frozen? ⟨g, j * 2 + 1, none⟩ = false
section
variable {W W' : World} {B : Nat} {v : Value} {L : List Ct}
theorem CtSl.later {A : Option Addr} (h : CtSl W B A L) (hb : Below W.heap.size W W') : CtSl W' B A L := fun hL => by
  obtain ⟨g, hA, hB, hg, hc⟩ := h hL
  refine ⟨g, hA, hB, Nat.lt_of_lt_of_le hg hb.size, fun j hj => ?_⟩
  obtain ⟨c1, c2, c3, c4⟩ := hc j hj
  have e := hb.block g hg
  exact ⟨(World.cell?_of_block (a := ⟨g, j * 2, none⟩) e).trans c1, (World.cell?_of_block (a := ⟨g, j * 2 + 1, none⟩) e).trans c2, (World.frozen?_of_block (a := ⟨g, j * 2, none⟩) e).trans c3, (World.frozen?_of_block (a := ⟨g, j * 2 + 1, none⟩) e).trans c4⟩
theorem COwn.sl (h : COwn W B v L) : ∃ A c, v = .slice A L.length c ∧ (0 < L.length → ∃ g, A = some ⟨g, 0, none⟩ ∧ B ≤ g ∧ g < W.heap.size) := by
  rcases h.2 with ⟨rfl, h2⟩ | ⟨g, cap, cur, rfl, hB, hg, hn, hm, hs, ht⟩
  · have hL : L.length = 0 := h2
    exact ⟨none, 0, by rw [hL], fun h => by omega⟩
  · exact ⟨_, cap, rfl, fun _ => ⟨g, rfl, hB, (Array.getElem?_eq_some_iff.1 hg).1⟩⟩
theorem COwn.nil (W : World) (B : Nat) : COwn W B (.slice none 0 0) [] := World.ownsRow_nil _ _ _ _
theorem COwn.lt (h : COwn W B v L) : ∀ k, v.ownBlock = some k → B ≤ k ∧ k < W.heap.size := World.ownsRow.lt h
theorem COwn.later (h : COwn W B v L) (hb : Below W.heap.size W W') : COwn W' B v L := World.ownsRow.kept h (row := none) ⟨hb.os, hb.tape, hb.output, hb.size, fun k hk _ => hb.block k hk⟩ (by cases v.ownBlock <;> simp)
theorem COwn.tag (h : COwn W B v L) : ∀ k, v.ownBlock = some k → ∃ cur, W.heap[k]? = some (.cells cur 39 (0, 0)) := fun k hk => by
  rcases h.2 with ⟨rfl, _⟩ | ⟨g, cap, cur, rfl, hb, hg, _⟩
  · cases hk
  · cases hk; exact ⟨cur, hg⟩
theorem getD_arr (L : List Ct) (i : Nat) (hi : i < L.length) : (L.toArray)[i]! = L.getD i c0 := by
  rw [getElem!_pos _ i (by simpa using hi), List.getElem_toArray, List.getD_eq_getElem?_getD, List.getElem?_eq_getElem hi]; rfl
theorem COwn.holds {g cap : Nat} (h : COwn W B (.slice (some ⟨g, 0, none⟩) L.length cap) L) : HoldsK encC 2 W g 0 L.toArray := fun j hj => by
  have hO : W.ownsRow B 39 2 (.slice (some ⟨g, 0, none⟩) L.length cap) L.length (ctv L) := h
  have hj2 : j < L.length * 2 := by simpa using hj
  have hjl : j < (ctv L).length := by rw [ctv_len]; exact hj2
  refine ⟨?_, hO.frozenAt _⟩
  rw [Nat.zero_add, hO.cellAt j hj2, get_flatK encC 2 _ j (by simpa using hj2)]
  have hi : j / 2 < L.length := by omega
  rw [getD_arr L _ hi]
  obtain ⟨e1, e2⟩ := ctv_at L (j / 2) hi
  rcases Nat.mod_two_eq_zero_or_one j with h0 | h0
  · have ej : j = j / 2 * 2 := by omega
    rw [h0]; rw [← ej] at e1; rw [e1]; rfl
  · have ej : j = j / 2 * 2 + 1 := by omega
    rw [h0]; rw [← ej] at e2; rw [e2]; rfl
theorem below_growS {B : Nat} {w0 w : World} (h : Below B w0 w) (hB : B ≤ w.heap.size) (os : Array Obj) : Below B w0 (Sort.grow w os) :=
  ⟨h.os, h.tape, h.output, by have := h.size; simp [Sort.grow]; omega, fun k hk => by
    rw [← h.block k hk]
    simp only [Sort.grow]
    exact Array.getElem?_append_left (by omega)⟩
end
/-! ### what was collected -/
def come (C : List Ct) (left : Lit → Bool) : List Ct := C.filter fun p => !left (.int .i64 p.1)
theorem come_step : ∀ {C : List Ct} {left : Lit → Bool} {x c : Int}, C.Pairwise (fun p q => p.1 < q.1) → left (.int .i64 x) = true → (x, c) ∈ C → (come C (fun z => left z && !z.sameKey (.int .i64 x))).Perm (come C left ++ [(x, c)])
  | [], _, _, _, _, _, h => by cases h
  | p :: C, left, x, c, hu, hl, h => by
    obtain ⟨h1, h2⟩ := List.pairwise_cons.1 hu
    unfold come
    simp only [List.filter_cons, same_int]
    rcases List.mem_cons.1 h with rfl | h
    · have e : (C.filter fun p => !(left (.int .i64 p.1) && !decide (p.1 = x))) = (C.filter fun p => !left (.int .i64 p.1)) := by
        refine List.filter_congr (fun q hq => ?_)
        have := h1 q hq
        rw [decide_eq_false (show ¬ q.1 = x from fun e => by simp only at this; omega)]
        simp
      simp only [decide_true, Bool.not_true, Bool.and_false, Bool.not_false, if_true, hl, Bool.false_eq_true, if_false]
      rw [e]
      exact (List.perm_append_singleton _ _).symm
    · have ih := come_step (C := C) h2 hl h
      unfold come at ih
      simp only [same_int] at ih
      have hne : ¬ p.1 = x := fun e => by have := h1 _ h; simp only at this; omega
      rw [decide_eq_false hne]
      simp only [Bool.not_false, Bool.and_true]
      split
      · exact ih.cons p
      · exact ih
theorem come_start {C : List Ct} : come C (Maps.has (dm C)) = [] := List.filter_eq_nil_iff.2 (fun p hp => by
  have : Maps.has (dm C) (.int .i64 p.1) = true := List.any_eq_true.2 ⟨enc1 p, List.mem_map.2 ⟨p, hp, rfl⟩, (same_int p.1 p.1).trans (decide_eq_true rfl)⟩
  rw [this]; decide)
theorem come_end {C : List Ct} {left : Lit → Bool} (h : ∀ kl, left kl = false) : come C left = C := List.filter_eq_self.2 (fun p _ => by rw [h]; rfl)
/-- two lists of the same, both rising, are one -/
theorem rising_eq : ∀ {C D : List Ct}, C.Pairwise (fun p q => p.1 < q.1) → D.Pairwise (fun p q => ¬ q.1 < p.1) → D.Perm C → D = C
  | [], D, _, _, h => h.eq_nil
  | p :: C, D, hc, hd, h => by
    obtain ⟨h1, h2⟩ := List.pairwise_cons.1 hc
    cases D with
    | nil => exact absurd h.symm.eq_nil (by simp)
    | cons q D =>
      obtain ⟨g1, g2⟩ := List.pairwise_cons.1 hd
      have hq : q ∈ p :: C := h.mem_iff.1 (List.mem_cons_self ..)
      have hp : p ∈ q :: D := h.mem_iff.2 (List.mem_cons_self ..)
      have e : q = p := by
        rcases List.mem_cons.1 hq with e | hq
        · exact e
        · rcases List.mem_cons.1 hp with e | hp
          · exact e.symm
          · exact absurd (h1 q hq) (g1 p hp)
      subst e
      rw [rising_eq h2 g2 (List.Perm.cons_inv h)]
end Go.Proofs.Ytlnfdcaljmfbjaa
