/- Keys that rise, one put in, one taken out. -/
import Derived.Test.YtiojjpmkiljngaaN
namespace Go.Proofs.Ytiojjpmkiljngaa
set_option linter.unusedVariables false
set_option linter.unusedSimpArgs false
def ins {α : Type} (xs : List α) (y : α) (l : Nat) : List α := xs.take l ++ ([y] ++ xs.drop l)
def del {α : Type} (xs : List α) (l : Nat) : List α := xs.take l ++ ([] ++ xs.drop (l + 1))
theorem ins_len {α : Type} (xs : List α) (y : α) {l : Nat} (hl : l ≤ xs.length) : (ins xs y l).length = xs.length + 1 := by simp [ins]; omega
theorem del_len {α : Type} (xs : List α) {l : Nat} (hl : l < xs.length) : (del xs l).length + 1 = xs.length := by simp [del]; omega
theorem ins_at {α : Type} (xs : List α) (y : α) {l : Nat} (hl : l ≤ xs.length) (j : Nat) : (ins xs y l)[j]? = if j < l then xs[j]? else if j = l then some y else xs[j - 1]? := by
  unfold ins
  by_cases h : j < l
  · rw [if_pos h, List.getElem?_append_left (by simp; omega), List.getElem?_take_of_lt h]
  · rw [if_neg h, List.getElem?_append_right (by simp; omega)]
    have e : (xs.take l).length = l := by simp; omega
    rw [e]
    by_cases h2 : j = l
    · subst h2; simp
    · rw [if_neg h2, List.getElem?_append_right (by simp; omega), List.getElem?_drop]
      congr 1; simp; omega
theorem del_at {α : Type} (xs : List α) {l : Nat} (hl : l < xs.length) (j : Nat) : (del xs l)[j]? = if j < l then xs[j]? else xs[j + 1]? := by
  unfold del
  by_cases h : j < l
  · rw [if_pos h, List.getElem?_append_left (by simp; omega), List.getElem?_take_of_lt h]
  · rw [if_neg h, List.getElem?_append_right (by simp; omega), List.nil_append, List.getElem?_drop]
    congr 1; simp; omega
theorem del_ins {α : Type} (xs : List α) (y : α) {l : Nat} (hl : l ≤ xs.length) : del (ins xs y l) l = xs := by
  apply List.ext_getElem?
  intro j
  rw [del_at _ (by rw [ins_len _ _ hl]; omega), ins_at _ _ hl, ins_at _ _ hl]
  by_cases h : j < l
  · rw [if_pos h, if_pos h]
  · rw [if_neg h, if_neg (by omega), if_neg (by omega)]; rfl
theorem ins_del {α : Type} (xs : List α) (y : α) {l : Nat} (hy : xs[l]? = some y) : ins (del xs l) y l = xs := by
  have hl := (List.getElem?_eq_some_iff.1 hy).1
  have hd := del_len xs hl
  apply List.ext_getElem?
  intro j
  rw [ins_at _ _ (by omega), del_at _ hl, del_at _ hl]
  by_cases h : j < l
  · rw [if_pos h, if_pos h]
  · rw [if_neg h]
    by_cases h2 : j = l
    · rw [if_pos h2, h2, hy]
    · rw [if_neg h2, if_neg (by omega)]; congr 1; omega
theorem ins_getD (xs : List ByteArray) (y : ByteArray) {l : Nat} (hl : l ≤ xs.length) (j : Nat) : (ins xs y l).getD j e0 = if j < l then xs.getD j e0 else if j = l then y else xs.getD (j - 1) e0 := by
  rw [List.getD_eq_getElem?_getD, ins_at _ _ hl]
  by_cases h : j < l
  · rw [if_pos h, if_pos h, List.getD_eq_getElem?_getD]
  · rw [if_neg h, if_neg h]
    by_cases h2 : j = l
    · rw [if_pos h2, if_pos h2]; rfl
    · rw [if_neg h2, if_neg h2, List.getD_eq_getElem?_getD]
theorem del_getD (xs : List ByteArray) {l : Nat} (hl : l < xs.length) (j : Nat) : (del xs l).getD j e0 = if j < l then xs.getD j e0 else xs.getD (j + 1) e0 := by
  rw [List.getD_eq_getElem?_getD, del_at _ hl]
  by_cases h : j < l
  · rw [if_pos h, if_pos h, List.getD_eq_getElem?_getD]
  · rw [if_neg h, if_neg h, List.getD_eq_getElem?_getD]
section
variable {xs : List ByteArray} {key : ByteArray}
theorem has_no (h : hasB xs key = false) (hl : lowN xs key < xs.length) : 0 < co (xs.getD (lowN xs key) e0) key := by
  have h1 := low_at xs key hl
  unfold hasB at h
  rw [decide_eq_true hl, Bool.true_and] at h
  have := of_decide_eq_false h
  omega
theorem has_eq (h : hasB xs key = true) : xs[lowN xs key]? = some key := by
  unfold hasB at h
  rw [Bool.and_eq_true, decide_eq_true_eq, decide_eq_true_eq] at h
  have h2 := co_zero.1 h.2
  rw [List.getD_eq_getElem?_getD, List.getElem?_eq_getElem h.1] at h2
  rw [List.getElem?_eq_getElem h.1]
  exact congrArg some h2
theorem up_ins (hu : upB xs = true) (h : hasB xs key = false) : upB (ins xs key (lowN xs key)) = true := by
  have hl := low_le xs key
  rw [upB_iff]
  intro j hj
  rw [ins_len _ _ hl] at hj
  rw [ins_getD _ _ hl, ins_getD _ _ hl]
  rcases Nat.lt_trichotomy (j + 1) (lowN xs key) with c | c | c
  · rw [if_pos (by omega), if_pos c]; exact (upB_iff xs).1 hu j (by omega)
  · rw [if_pos (by omega), if_neg (by omega), if_pos c]; exact low_below xs key j (by omega)
  · by_cases e : j = lowN xs key
    · rw [if_neg (by omega), if_pos e, if_neg (by omega), if_neg (by omega)]
      have := has_no h (by omega)
      have h2 := co_neg (xs.getD (lowN xs key) e0) key
      rw [show j + 1 - 1 = lowN xs key by omega]
      omega
    · rw [if_neg (by omega), if_neg e, if_neg (by omega), if_neg (by omega)]
      have := (upB_iff xs).1 hu (j - 1) (by omega)
      rw [show j - 1 + 1 = j by omega] at this
      exact this
theorem low_ins : lowN (ins xs key (lowN xs key)) key = lowN xs key := by
  have hl := low_le xs key
  refine low_of (by rw [ins_len _ _ hl]; omega) (fun t ht => ?_) (fun _ => ?_)
  · rw [ins_getD _ _ hl, if_pos ht]; exact low_below xs key t ht
  · rw [ins_getD _ _ hl, if_neg (by omega), if_pos rfl, co_self]; exact Int.le_refl 0
theorem has_ins : hasB (ins xs key (lowN xs key)) key = true := by
  have hl := low_le xs key
  unfold hasB
  rw [low_ins, ins_len _ _ hl, ins_getD _ _ hl, if_neg (by omega), if_pos rfl, co_self]
  simp; omega
theorem up_del (hu : upB xs = true) (hl : lowN xs key < xs.length) : upB (del xs (lowN xs key)) = true := by
  rw [upB_iff]
  intro j hj
  have hd := del_len xs hl
  rw [del_getD _ hl, del_getD _ hl]
  by_cases c : j + 1 < lowN xs key
  · rw [if_pos (by omega), if_pos c]; exact (upB_iff xs).1 hu j (by omega)
  · by_cases c2 : j < lowN xs key
    · rw [if_pos c2, if_neg c]; exact rise hu j (j + 1 + 1) (by omega) (by omega)
    · rw [if_neg c2, if_neg c]; exact (upB_iff xs).1 hu (j + 1) (by omega)
theorem del_high (hu : upB xs = true) (h : hasB xs key = true) (j : Nat) (hj : lowN xs key < j) (hn : j < xs.length) : 0 < co (xs.getD j e0) key := by
  have h1 := has_eq h
  have hl := (List.getElem?_eq_some_iff.1 h1).1
  have h2 := rise hu (lowN xs key) j hj hn
  rw [show xs.getD (lowN xs key) e0 = key by rw [List.getD_eq_getElem?_getD, h1]; rfl] at h2
  have h3 := co_neg key (xs.getD j e0)
  omega
theorem low_del (hu : upB xs = true) (h : hasB xs key = true) : lowN (del xs (lowN xs key)) key = lowN xs key := by
  have hl := (List.getElem?_eq_some_iff.1 (has_eq h)).1
  have hd := del_len xs hl
  refine low_of (by omega) (fun t ht => ?_) (fun hlt => ?_)
  · rw [del_getD _ hl, if_pos ht]; exact low_below xs key t ht
  · rw [del_getD _ hl, if_neg (by omega)]
    have := del_high hu h (lowN xs key + 1) (by omega) (by omega)
    omega
theorem has_del (hu : upB xs = true) (h : hasB xs key = true) : hasB (del xs (lowN xs key)) key = false := by
  have hl := (List.getElem?_eq_some_iff.1 (has_eq h)).1
  have hd := del_len xs hl
  unfold hasB
  rw [low_del hu h]
  by_cases c : lowN xs key < (del xs (lowN xs key)).length
  · rw [del_getD _ hl, if_neg (by omega)]
    have := del_high hu h (lowN xs key + 1) (by omega) (by omega)
    rw [decide_eq_false (show ¬ co (xs.getD (lowN xs key + 1) e0) key = 0 by omega), Bool.and_false]
  · rw [decide_eq_false c, Bool.false_and]
theorem kid_ins : kidN (ins xs key (lowN xs key)) key = lowN xs key + 1 := by
  unfold kidN
  rw [has_ins, if_pos rfl, low_ins]
end
end Go.Proofs.Ytiojjpmkiljngaa
