/- The least writer that a view does not see. -/
import Derived.Test.YthicofdbcldpaaaB
namespace Go.Proofs.Ythicofdbcldpaaa
set_option linter.unusedVariables false
theorem least_le (own : Int) : ∀ (l : List Int) (a y : Int), y ∈ l → 1 ≤ y → y ≠ own → leastFold own a l ≤ y
  | x :: l, a, y, hy, h1, h2 => by
    show leastFold own (if 1 ≤ x ∧ x ≠ own then min a x else a) l ≤ y
    rcases List.mem_cons.1 hy with rfl | hy
    · rw [if_pos ⟨h1, h2⟩]
      have := fold_le own l (min a y)
      omega
    · exact least_le own l _ y hy h1 h2
theorem least_in (own : Int) : ∀ (l : List Int) (a : Int), leastFold own a l = a ∨ (leastFold own a l ∈ l ∧ 1 ≤ leastFold own a l ∧ leastFold own a l ≠ own)
  | [], a => .inl rfl
  | x :: l, a => by
    show leastFold own (if 1 ≤ x ∧ x ≠ own then min a x else a) l = a ∨ _
    have ih := least_in own l (if 1 ≤ x ∧ x ≠ own then min a x else a)
    have e : leastFold own a (x :: l) = leastFold own (if 1 ≤ x ∧ x ≠ own then min a x else a) l := rfl
    rw [e]
    rcases ih with ih | ih
    · by_cases c : 1 ≤ x ∧ x ≠ own
      · rw [ih, if_pos c]
        rcases Int.le_total a x with c2 | c2
        · exact .inl (by omega)
        · have : min a x = x := by omega
          rw [this]; exact .inr ⟨List.mem_cons_self, c.1, c.2⟩
      · rw [ih, if_neg c]; exact .inl rfl
    · exact .inr ⟨List.mem_cons_of_mem _ ih.1, ih.2⟩
theorem drop_mem {own high : Int} {xs : List Int} {y : Int} (h : y ∈ refOf own high xs) : 1 ≤ y ∧ y < high ∧ y ≠ own := by
  have := ((refOf_mem own high xs y).1 h).2
  unfold dropB at this
  simp at this
  omega
theorem first_ge (own high : Int) : 1 ≤ firstOf own high ∧ high ≤ firstOf own high := by unfold firstOf; split <;> omega
theorem least_one (own high : Int) (xs : List Int) : 1 ≤ leastOf own high (refOf own high xs) := by
  unfold leastOf
  rcases least_in own (refOf own high xs) (firstOf own high) with h | h
  · rw [h]; exact (first_ge own high).1
  · exact h.2.1
theorem least_not {own high : Int} {xs : List Int} (h : leastOf own high (refOf own high xs) ≠ 9223372036854775807) (hh : high ≤ 9223372036854775807) : sees own high (refOf own high xs) (leastOf own high (refOf own high xs)) = false := by
  unfold leastOf at *
  have hf := first_ge own high
  rcases least_in own (refOf own high xs) (firstOf own high) with h1 | ⟨h1, h2, h3⟩
  · rw [h1] at h ⊢
    have hne : firstOf own high ≠ own := by
      unfold firstOf at h ⊢; split at h <;> rename_i c
      · rw [if_pos c]; omega
      · rw [if_neg c]; intro e; exact c ⟨e, by omega⟩
    exact sees_high hne (by omega)
  · rw [sees_has (by omega) h3 (drop_mem h1).2.1, decide_eq_true h1]; rfl
theorem least_sees {own high : Int} {xs : List Int} {x : Int} (h1 : 1 ≤ x) (h2 : x < leastOf own high (refOf own high xs)) : sees own high (refOf own high xs) x = true := by
  by_cases e : x = own
  · exact sees_own (by omega) e
  · unfold leastOf at h2
    have h3 := fold_le own (refOf own high xs) (firstOf own high)
    have hx : x < high := by
      have : x < firstOf own high := by omega
      unfold firstOf at this; split at this <;> omega
    rw [sees_has (by omega) e hx, decide_eq_false (fun hm => by
      have := least_le own (refOf own high xs) (firstOf own high) x hm h1 e
      omega)]; rfl
theorem sees_self (own high : Int) (xs : List Int) : sees own high xs own = decide (1 ≤ own) := by
  unfold sees; rw [decide_eq_decide]; exact ⟨fun h => h.1, fun h => ⟨h, .inl rfl⟩⟩
theorem sees_not {own high : Int} {xs : List Int} {x : Int} (h : x ∈ xs) (hx : x ≠ own) : sees own high (refOf own high xs) x = false := by
  by_cases h1 : x < 1
  · exact sees_low h1
  · by_cases h2 : x < high
    · rw [sees_has h1 hx h2, decide_eq_true ((refOf_mem own high xs x).2 ⟨h, by unfold dropB; simp; omega⟩)]; rfl
    · exact sees_high hx h2
end Go.Proofs.Ythicofdbcldpaaa
