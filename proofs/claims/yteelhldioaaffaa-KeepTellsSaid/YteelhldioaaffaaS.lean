/- A row of its own that is written over. -/
import Derived.Test.YteelhldioaaffaaL
import Derived.Test.YteelhldioaaffaaM
namespace Go.Proofs.Yteelhldioaaffaa
open Go.ChangeShapes Go.WideShapes Go.ChangeAt Go.RowKit
set_option linter.unusedVariables false
set_option linter.unusedSimpArgs false
/-- a row of versions from a block on, whatever stands in it -/
def RowIn (W : World) (B : Nat) (A : Option Addr) (n : Nat) : Prop := 0 < n → ∃ g cur, A = some ⟨g, 0, none⟩ ∧ B ≤ g ∧ Blk W g cur 27 ∧ n * 4 ≤ cur.size
theorem VRow.rowIn {W : World} {B B' n : Nat} {A : Option Addr} {vs : List Ver} (h : VRow W B A n vs) (hB : B' ≤ B) : RowIn W B' A n := fun hn => by
  obtain ⟨g, cur, hA, hg, hb, hs, _⟩ := h.blk hn
  exact ⟨g, cur, hA, Nat.le_trans hB hg, hb, hs⟩
theorem RowIn.below {W W' : World} {B n : Nat} {A : Option Addr} (h : RowIn W B A n) (hb : Below W.heap.size W W') : RowIn W' B A n := fun hn => by
  obtain ⟨g, cur, hA, hg, hk, hs⟩ := h hn
  exact ⟨g, cur, hA, hg, hk.below hb hk.lt, hs⟩
/-- one version written at a place of a row -/
def setAt (W : World) (g o : Nat) (v : Ver) : World := (((W.setCell ⟨g, o, none⟩ (.int .i64 v.w)).setCell ⟨g, o + 1, none⟩ (.int .i64 v.ts)).setCell ⟨g, o + 2, none⟩ (.bool v.tomb)).setCell ⟨g, o + 3, none⟩ (.string v.val)
theorem Blk.setAt {W : World} {g o : Nat} {cur : Array Value} {t : TypeId} (h : Blk W g cur t) (v : Ver) : ∃ cur', Blk (setAt W g o v) g cur' t ∧ cur'.size = cur.size :=
  ⟨_, (((h.set (j := o) _).set (j := o + 1) _).set (j := o + 2) _).set (j := o + 3) _, by simp⟩
theorem belowAt {B0 : Nat} {a W : World} (h : Below B0 a W) {g : Nat} (hB : B0 ≤ g) (o : Nat) (v : Ver) : Below B0 a (setAt W g o v) :=
  (((h.setCell (p := ⟨g, o, none⟩) hB _).setCell (p := ⟨g, o + 1, none⟩) hB _).setCell (p := ⟨g, o + 2, none⟩) hB _).setCell (p := ⟨g, o + 3, none⟩) hB _
theorem blk_some {W : World} {g : Nat} {cur : Array Value} {t : TypeId} (h : Blk W g cur t) {j : Nat} (hj : j < cur.size) : ∃ v, W.cell? ⟨g, j, none⟩ = some v :=
  ⟨cur[j], by rw [h.cell, Array.getElem?_eq_getElem hj]⟩
theorem index_row (g m c k : Nat) (i : Int) (hi : i = (k : Int)) (h : k < m) (W : World) : (Instr.indexAt 24 (.slice (some ⟨g, 0, none⟩) m c) (.int .i64 i)).run Try.prog W = .ok (.pointer (some ⟨g, k * 4, none⟩)) W := by
  have := index_run g 0 m c k i hi h W
  rwa [Nat.zero_add] at this
end Go.Proofs.Yteelhldioaaffaa
