/- The last timestamp is the greatest one; what lies apart. -/
import Derived.Test.YtmkgipbepipjkaaDoorU
namespace Go.Proofs.YtmkgipbepipjkaaDoor
open Go.ChangeShapes Go.WideShapes Go.ChangeAt Go.RowKit
set_option linter.unusedVariables false
set_option linter.unusedSimpArgs false

theorem lastK_nn (L : List Wr) : ∀ k, 0 ≤ lastK L k
  | 0 => Int.le_refl _
  | k + 1 => by have := lastK_nn L k; unfold lastK; split <;> omega
theorem lastK_ge (L : List Wr) : ∀ k j, j < k → (L.getD j w0r).2 ≤ lastK L k
  | 0, j, h => by omega
  | k + 1, j, h => by
    unfold lastK
    by_cases e : j = k
    · subst e; split <;> omega
    · have := lastK_ge L k j (by omega); split <;> omega
theorem lastK_le {L : List Wr} {la : Int} (h0 : 0 ≤ la) : ∀ k, (∀ j, j < k → (L.getD j w0r).2 ≤ la) → lastK L k ≤ la
  | 0, _ => h0
  | k + 1, h => by
    have h1 := lastK_le h0 k (fun j hj => h j (by omega))
    have h2 := h k (by omega)
    unfold lastK; split <;> omega
theorem lastK_at (L : List Wr) : ∀ k, lastK L k = 0 ∨ ∃ j, j < k ∧ (L.getD j w0r).2 = lastK L k
  | 0 => .inl rfl
  | k + 1 => by
    unfold lastK
    split
    · exact .inr ⟨k, by omega, rfl⟩
    · rcases lastK_at L k with h | ⟨j, hj, h⟩
      · exact .inl h
      · exact .inr ⟨j, by omega, h⟩
theorem lastL_ge (L : List Wr) (w : Int) : (ofL L w).2 ≤ lastL L := by
  unfold ofL
  split
  · exact lastK_ge L _ _ (by omega)
  · exact lastK_nn L _
theorem step_last {L M : List Wr} {la lb ee : Int} (h : StepD L la M lb ee) (g : Good L la) (h0 : 0 ≤ la) (hl : lastL L = la) : lastL M = lb := by
  have gm := StepD.good h g h0
  have hab := StepD.la_le h
  have hle : lastL M ≤ lb := lastK_le (by omega) _ (fun j hj => by have := gm.le ((j : Int) + 1); rw [of_in hj] at this; exact this)
  have hge : lb ≤ lastL M := by
    rcases h with ⟨rfl, rfl, _⟩ | ⟨_, j, _, _, hs, _, h3, hx⟩
    · omega
    · have hz := StepD.zero g h3
      rcases hx with ⟨_, rfl⟩ | ⟨_, _, rfl⟩
      · rcases lastK_at L L.length with h | ⟨i, hi, h⟩
        · have e : lastL L = 0 := h
          have := lastK_nn M M.length
          unfold lastL at hl e ⊢
          omega
        · have e : (ofL L ((i : Int) + 1)).2 = lb := by rw [of_in hi, h]; exact hl
          by_cases hw : (i : Int) + 1 = j
          · rw [hw, hz] at e
            rw [← e]; exact lastK_nn _ _
          · rw [← e, ← hs _ hw]; exact lastL_ge _ _
      · exact lastL_ge _ _
  omega
theorem Blk.frW {W W' : World} {B p q : Nat} {v : Value} {L : List Wr} {la : Int} {en : Nat} {cs : Array Value} {t : TypeId} (h : Blk W q cs t) (f : Fr W W' p v) (o : WrAt W B p v L la en) (h1 : t ≠ 47) (h2 : t ≠ 49) : Blk W' q cs t := by
  have h' : W.heap[q]? = some (.cells cs t (0, 0)) := h
  refine (f.block q h.lt (fun e => ?_) (fun e => ?_)).trans h
  · have h3 : W.heap[p]? = some (.cells #[v, .int .i64 en, .int .i64 la] 47 (0, 0)) := o.blk
    rw [← e, h'] at h3; cases h3; exact h1 rfl
  · obtain ⟨cur', hc⟩ := o.own.tag q e
    rw [h'] at hc; cases hc; exact h2 rfl
theorem Blk.frQ {W W' : World} {p q : Nat} {cs : Array Value} {t : TypeId} (h : Blk W q cs t) (f : Fr W W' p nilv) (hq : q ≠ p) : Blk W' q cs t := (f.block q h.lt hq (fun e => by cases e)).trans h
theorem RfAt.frI {W W' : World} {B p q : Nat} {u : Value} {M : List Wr} (h : RfAt W B q u M) (f : Fr W W' p nilv) {cs : Array Value} {t : TypeId} (hb : Blk W p cs t) (h1 : t ≠ 57) (h2 : t ≠ 59) : RfAt W' B q u M := h.keep (fun k cur t' hk ht' => by
  refine f.block k (Array.getElem?_eq_some_iff.1 hk).1 (fun e => ?_) (fun e => by cases e)
  have h3 : W.heap[p]? = some (.cells cs t (0, 0)) := hb
  rw [e, h3] at hk; cases hk
  rcases ht' with rfl | ⟨rfl, _⟩
  · exact h2 rfl
  · exact h1 rfl)
theorem ow_at {W : World} {B m c j : Nat} {A : Option Addr} {xs : List Int} (h : Ow iv W B 3 (.slice A m c) m xs) (hj : j < m) : ∃ g x, A = some ⟨g, 0, none⟩ ∧ B ≤ g ∧ (∃ cur, Blk W g cur 3) ∧ W.cell? ⟨g, j, none⟩ = some (.int .i64 x) ∧ W.frozen? ⟨g, j, none⟩ = false := by
  have hO : W.ownsRow B 3 1 (.slice A m c) m (xs.map iv) := h
  have hl : xs.length = m := by have := h.1; simpa using this
  rcases h.2 with ⟨e, h2⟩ | ⟨g, cap, cur, e, hB, hg, _⟩
  · omega
  · cases e
    refine ⟨g, xs.getD j 0, rfl, hB, ⟨cur, hg⟩, ?_, hO.frozenAt _⟩
    rw [hO.cellAt _ (by omega), List.getElem?_map, List.getD_eq_getElem?_getD, List.getElem?_eq_getElem (by omega)]
    rfl
theorem ow_set {W : World} {B m c g j : Nat} {xs : List Int} (h : Ow iv W B 3 (.slice (some ⟨g, 0, none⟩) m c) m xs) (x : Int) : Ow iv (W.setCell ⟨g, j, none⟩ (.int .i64 x)) B 3 (.slice (some ⟨g, 0, none⟩) m c) m (xs.set j x) := by
  have hO : W.ownsRow B 3 1 (.slice (some ⟨g, 0, none⟩) m c) m (xs.map iv) := h
  show World.ownsRow _ _ _ _ _ _ _
  rw [List.map_set]
  exact (hO.stored j (.int .i64 x)).1
theorem findex0 (g m c k : Nat) (i : Int) (hi : i = (k : Int)) (h : k < m) (W : World) : (Instr.indexAt 29 (.slice (some ⟨g, 0, none⟩) m c) (.int .i64 i)).run Tryd.prog W = .ok (.pointer (some ⟨g, k, none⟩)) W := by
  subst hi
  have h1 : (0 : Int) ≤ (k : Int) ∧ (k : Int) < (m : Int) := by omega
  go_simp
end Go.Proofs.YtmkgipbepipjkaaDoor
