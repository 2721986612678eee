/- Rows beside an arena. -/
import Derived.Test.YtbncpfkoeahhpaaGN
namespace Go.Proofs.Ytbncpfkoeahhpaa
open Go.ChangeShapes Go.WideShapes Go.ChangeAt Go.RowKit Go.Maps
set_option linter.unusedVariables false
set_option linter.unusedSimpArgs false

theorem AR.grown {α : Type} {enc : α → Value} {W W' : World} {B a s : Nat} {st : AS} {S : Nat → Prop} {B' e n : Nat} {v : Value} {xs : List α} (h : AR W B a s st S) (o : Ow enc W B' e v n xs) (he : e ≠ 93 ∧ e ≠ 89 ∧ e ≠ 128) (hg : W.grownBy W' v.ownBlock) : AR W' B a s st S :=
  h.fr (R := fun k => v.ownBlock = some k) (FrS.of_grown hg (fun k e => e)) (fun k hk e => by
    obtain ⟨c, hc⟩ := Ow.tag o k e
    exact h.not hc he hk)
theorem ow_store {α : Type} {enc : α → Value} {W : World} {B e g n c : Nat} {xs : List α} (o : Ow enc W B e (.slice (some ⟨g, 0, none⟩) n c) n xs) (k : Nat) (y : α) : Ow enc (W.setCell ⟨g, k, none⟩ (enc y)) B e (.slice (some ⟨g, 0, none⟩) n c) n (xs.set k y) ∧ W.grownBy (W.setCell ⟨g, k, none⟩ (enc y)) (some g) := by
  have h := World.ownsRow.stored o k (enc y)
  refine ⟨?_, h.2⟩
  show World.ownsRow _ _ _ _ _ _ _
  rw [List.map_set]
  exact h.1
theorem ow_below {α : Type} {enc : α → Value} {w0 W W' : World} {B e n : Nat} {v : Value} {xs : List α} (o : Ow enc W B e v n xs) (hb : Below B w0 W) (hB : B ≤ W.heap.size) (hg : W.grownBy W' v.ownBlock) : Below B w0 W' := Below.grown hb hg hB (fun j hj => (Ow.lt o j hj).1)
theorem getU {l : List Int} {k : Nat} (h : k < l.length) : l[k]? = some (l.getD k 0) := by rw [List.getElem?_eq_getElem h, List.getD_eq_getElem?_getD, List.getElem?_eq_getElem h]; rfl
theorem getD_memU {U : List Int} {k : Nat} (h : k < U.length) : U.getD k 0 ∈ U := by
  rw [List.getD_eq_getElem?_getD, List.getElem?_eq_getElem h]; exact List.getElem_mem h
theorem getD_appU {U : List Int} {x : Int} {k : Nat} : (U ++ [x]).getD k 0 = if k < U.length then U.getD k 0 else if k = U.length then x else 0 := by
  rw [List.getD_eq_getElem?_getD]
  by_cases h : k < U.length
  · rw [if_pos h, List.getElem?_append_left h, List.getD_eq_getElem?_getD]
  · rw [if_neg h, List.getElem?_append_right (by omega)]
    by_cases e : k = U.length
    · rw [if_pos e, e]; simp
    · rw [if_neg e, List.getElem?_eq_none (by simp; omega)]; rfl
theorem getD_appD {D : List Bool} {k : Nat} : (D ++ [false]).getD k false = D.getD k false := by
  rw [List.getD_eq_getElem?_getD]
  by_cases h : k < D.length
  · rw [List.getElem?_append_left h, List.getD_eq_getElem?_getD]
  · rw [List.getElem?_append_right (by omega), List.getD_eq_getElem?_getD, List.getElem?_eq_none (show D.length ≤ k by omega)]
    by_cases e : k = D.length
    · rw [e]; simp
    · rw [List.getElem?_eq_none (by simp; omega)]
theorem getD_setD {D : List Bool} {k j : Nat} {v : Bool} (h : k < D.length) : (D.set k v).getD j false = if k = j then v else D.getD j false := getD_setB D k j v h
end Go.Proofs.Ytbncpfkoeahhpaa
