/- Writers that begin, one behind the other, and end, as plain lists. -/
import Derived.Test.YthicofdbcldpaaaQ
namespace Go.Proofs.Ythicofdbcldpaaa
set_option linter.unusedVariables false
set_option linter.unusedSimpArgs false
/-- who is busy, what was busy at each beginning, what was over then, what is over -/
structure Ov where
  busy : List Int
  views : List (List Int)
  ended : List (List Bool)
  over : List Bool
structure OvOk (s : Ov) (i N : Nat) : Prop where
  len : s.views.length ≤ i
  el : s.ended.length = s.views.length
  ol : s.over.length = N + 2
  rb : Rises s.busy
  bb : ∀ w ∈ s.busy, 1 ≤ w ∧ w ≤ s.views.length
  ov : ∀ w : Nat, s.over.getD w false = (decide (1 ≤ w ∧ w ≤ s.views.length) && decide ((w : Int) ∉ s.busy))
  el2 : ∀ i, i < s.views.length → (s.ended.getD i []).length = N + 2
  ve : ∀ i, i < s.views.length → ∀ w : Nat, (s.ended.getD i []).getD w false = (decide (1 ≤ w ∧ w ≤ i) && decide ((w : Int) ∉ s.views.getD i []))
  ch : ∀ i, i + 1 < s.views.length → ∀ w ∈ s.views.getD (i + 1) [], w ∈ s.views.getD i [] ∨ w = (i + 1 : Nat)
  cl : ∀ i, i + 1 = s.views.length → ∀ w ∈ s.busy, w ∈ s.views.getD i [] ∨ w = (i + 1 : Nat)
theorem getD_snoc {α : Type} (l : List α) (x d : α) (i : Nat) : (l ++ [x]).getD i d = if i < l.length then l.getD i d else if i = l.length then x else d := by
  by_cases h : i < l.length
  · rw [if_pos h, List.getD_eq_getElem?_getD, List.getD_eq_getElem?_getD, List.getElem?_append_left h]
  · rw [if_neg h, List.getD_eq_getElem?_getD, List.getElem?_append_right (by omega)]
    by_cases e : i = l.length
    · rw [if_pos e, e]; simp
    · rw [if_neg e, List.getElem?_eq_none (by simp; omega)]; rfl
theorem ov_start (N : Nat) : OvOk ⟨[], [], [], List.replicate (N + 2) false⟩ 0 N := by
  refine ⟨Nat.le_refl _, rfl, by simp, List.Pairwise.nil, fun w h => absurd h (by simp), fun w => ?_, fun i h => absurd h (by simp), fun i h => absurd h (by simp), fun i h => absurd h (by simp), fun i h => absurd h (by simp)⟩
  have e : decide (1 ≤ w ∧ w ≤ ([] : List (List Int)).length) = false := decide_eq_false (fun h => by have := h.2; simp at this; omega)
  show (List.replicate (N + 2) false).getD w false = (decide (1 ≤ w ∧ w ≤ ([] : List (List Int)).length) && _)
  rw [e, Bool.false_and, List.getD_eq_getElem?_getD, List.getElem?_replicate]
  split <;> rfl
def ovBegin (s : Ov) : Ov := ⟨s.busy ++ [((s.views.length + 1 : Nat) : Int)], s.views ++ [s.busy], s.ended ++ [s.over], s.over⟩
theorem rises_snoc {l : List Int} {x : Int} (h : Rises l) (hx : ∀ y ∈ l, y < x) : Rises (l ++ [x]) :=
  List.pairwise_append.2 ⟨h, List.pairwise_singleton _ _, fun a ha b hb => by simp at hb; subst hb; exact hx a ha⟩
theorem ov_begin {s : Ov} {i N : Nat} (h : OvOk s i N) : OvOk (ovBegin s) (i + 1) N := by
  have hl := h.len
  have he := h.el
  refine ⟨?_, ?_, h.ol, ?_, ?_, ?_, ?_, ?_, ?_, ?_⟩
  · simp [ovBegin]; exact hl
  · simp [ovBegin]; exact he
  · exact rises_snoc h.rb (fun y hy => by have := (h.bb y hy).2; omega)
  · intro w hw
    simp only [ovBegin, List.mem_append, List.mem_singleton, List.length_append, List.length_singleton] at hw ⊢
    rcases hw with hw | hw
    · have := h.bb w hw; omega
    · omega
  · intro w
    show s.over.getD w false = _
    rw [h.ov w]
    simp only [ovBegin, List.mem_append, List.mem_singleton, List.length_append, List.length_singleton]
    by_cases c : w = s.views.length + 1
    · subst c
      have h1 : decide (1 ≤ s.views.length + 1 ∧ s.views.length + 1 ≤ s.views.length) = false := decide_eq_false (by omega)
      have h2 : decide (¬(((s.views.length + 1 : Nat) : Int) ∈ s.busy ∨ ((s.views.length + 1 : Nat) : Int) = ((s.views.length + 1 : Nat) : Int))) = false := decide_eq_false (fun e => e (.inr rfl))
      rw [h1, h2]; simp
    · have h1 : decide (1 ≤ w ∧ w ≤ s.views.length) = decide (1 ≤ w ∧ w ≤ s.views.length + 1) := by rw [decide_eq_decide]; omega
      have h2 : decide ((w : Int) ∉ s.busy) = decide (¬((w : Int) ∈ s.busy ∨ (w : Int) = ((s.views.length + 1 : Nat) : Int))) := by
        rw [decide_eq_decide]
        constructor
        · rintro a (b | b)
          · exact a b
          · omega
        · exact fun a b => a (.inl b)
      rw [h1, h2]
  · intro j hj
    simp only [ovBegin, List.length_append, List.length_singleton] at hj ⊢
    rw [getD_snoc, he]
    by_cases c : j < s.views.length
    · rw [if_pos c]; exact h.el2 j c
    · rw [if_neg c, if_pos (by omega)]; exact h.ol
  · intro j hj w
    simp only [ovBegin, List.length_append, List.length_singleton] at hj
    show ((s.ended ++ [s.over]).getD j []).getD w false = (decide (1 ≤ w ∧ w ≤ j) && decide ((w : Int) ∉ (s.views ++ [s.busy]).getD j []))
    have e1 := getD_snoc s.ended s.over [] j
    have e2 := getD_snoc s.views s.busy [] j
    by_cases c : j < s.views.length
    · rw [if_pos (by omega)] at e1
      rw [if_pos c] at e2
      rw [e1]; simp only [e2]; exact h.ve j c w
    · obtain rfl : j = s.views.length := by omega
      rw [if_neg (by omega), if_pos he.symm] at e1
      rw [if_neg c, if_pos rfl] at e2
      rw [e1]; simp only [e2]; exact h.ov w
  · intro j hj w hw
    simp only [ovBegin, List.length_append, List.length_singleton] at hj hw ⊢
    rw [getD_snoc] at hw ⊢
    by_cases c : j + 1 < s.views.length
    · rw [if_pos c] at hw; rw [if_pos (by omega)]; exact h.ch j c w hw
    · rw [if_neg c, if_pos (by omega)] at hw; rw [if_pos (by omega)]; exact h.cl j (by omega) w hw
  · intro j hj w hw
    simp only [ovBegin, List.length_append, List.length_singleton, List.mem_append, List.mem_singleton] at hj hw ⊢
    obtain rfl : j = s.views.length := by omega
    rw [getD_snoc, if_neg (by omega), if_pos rfl]
    rcases hw with hw | hw
    · exact .inl hw
    · exact .inr hw
def ovEnd (s : Ov) (k : Nat) : Ov := ⟨s.busy.take k ++ s.busy.drop (k + 1), s.views, s.ended, s.over.set (s.busy.getD k 0).toNat true⟩
theorem cut_mem {l : List Int} (h : Rises l) {k : Nat} (hk : k < l.length) (w : Int) : w ∈ l.take k ++ l.drop (k + 1) ↔ w ∈ l ∧ w ≠ l.getD k 0 := by
  constructor
  · intro hw
    rcases List.mem_append.1 hw with hw | hw
    · obtain ⟨j, hj, hl, he⟩ := mem_take_getD hw
      have := rises_lt h hj hk
      exact ⟨List.mem_of_mem_take hw, by omega⟩
    · obtain ⟨j, hj, he⟩ := mem_getD hw
      rw [List.length_drop] at hj
      rw [List.getD_eq_getElem?_getD, List.getElem?_drop, ← List.getD_eq_getElem?_getD] at he
      have := rises_lt h (show k < k + 1 + j by omega) (by omega)
      exact ⟨List.mem_of_mem_drop hw, by omega⟩
  · rintro ⟨hw, hne⟩
    obtain ⟨j, hj, he⟩ := mem_getD hw
    rcases Nat.lt_trichotomy j k with c | c | c
    · refine List.mem_append.2 (.inl ?_)
      rw [← he, List.getD_eq_getElem?_getD, ← List.getElem?_take_of_lt c, ← List.getD_eq_getElem?_getD]
      exact getD_mem (by rw [List.length_take]; omega)
    · subst c; exact absurd he.symm hne
    · refine List.mem_append.2 (.inr ?_)
      obtain ⟨d, rfl⟩ : ∃ d, j = k + 1 + d := ⟨j - (k + 1), by omega⟩
      rw [← he, List.getD_eq_getElem?_getD, ← List.getElem?_drop, ← List.getD_eq_getElem?_getD]
      exact getD_mem (by rw [List.length_drop]; omega)
theorem ov_end {s : Ov} {i N k : Nat} (h : OvOk s i N) (hN : i ≤ N) (hk : k < s.busy.length) : OvOk (ovEnd s k) (i + 1) N := by
  have hl := h.len
  have hx := h.bb _ (getD_mem hk)
  obtain ⟨x, hxe⟩ : ∃ x : Nat, s.busy.getD k 0 = (x : Int) := ⟨(s.busy.getD k 0).toNat, by omega⟩
  rw [hxe] at hx
  have hm : ∀ w : Int, w ∈ s.busy.take k ++ s.busy.drop (k + 1) ↔ w ∈ s.busy ∧ w ≠ (x : Int) := fun w => by rw [cut_mem h.rb hk, hxe]
  refine ⟨by show s.views.length ≤ i + 1; omega, h.el, ?_, ?_, ?_, ?_, h.el2, h.ve, h.ch, ?_⟩
  · simp [ovEnd]; exact h.ol
  · have : s.busy.take k ++ s.busy.drop (k + 1) = s.busy.eraseIdx k := by rw [List.eraseIdx_eq_take_drop_succ]
    show Rises (s.busy.take k ++ s.busy.drop (k + 1))
    rw [this]
    exact List.Pairwise.sublist (List.eraseIdx_sublist _ _) h.rb
  · intro w hw
    exact h.bb w ((hm w).1 hw).1
  · intro w
    show (s.over.set (s.busy.getD k 0).toNat true).getD w false = _
    rw [hxe, Int.toNat_natCast, List.getD_eq_getElem?_getD, List.getElem?_set]
    show _ = (decide (1 ≤ w ∧ w ≤ s.views.length) && decide ((w : Int) ∉ s.busy.take k ++ s.busy.drop (k + 1)))
    by_cases c : x = w
    · subst c
      rw [if_pos rfl, if_pos (by rw [h.ol]; omega)]
      have h1 : decide (1 ≤ x ∧ x ≤ s.views.length) = true := decide_eq_true (by omega)
      have h2 : decide ((x : Int) ∉ s.busy.take k ++ s.busy.drop (k + 1)) = true := decide_eq_true (fun e => ((hm _).1 e).2 rfl)
      rw [h1, h2]; rfl
    · rw [if_neg c, ← List.getD_eq_getElem?_getD, h.ov w]
      congr 1
      rw [decide_eq_decide, hm]
      constructor
      · exact fun a b => a b.1
      · exact fun a b => a ⟨b, by omega⟩
  · intro j hj w hw
    exact h.cl j hj w ((hm w).1 hw).1
/-- what a view sees, by what was over -/
theorem ov_sees {s : Ov} {i N : Nat} (h : OvOk s i N) {j : Nat} (hj : j < s.views.length) {w : Nat} (hw : 1 ≤ w) :
    sees ((j + 1 : Nat) : Int) ((j + 1 : Nat) : Int) (refOf ((j + 1 : Nat) : Int) ((j + 1 : Nat) : Int) (s.views.getD j [])) w = (decide (w = j + 1) || (s.ended.getD j []).getD w false) := by
  rw [h.ve j hj w]
  by_cases c : w = j + 1
  · rw [sees_own (by omega) (by omega), decide_eq_true c]; rfl
  · rw [decide_eq_false c, Bool.false_or]
    by_cases c2 : w < j + 1
    · rw [sees_has (by omega) (by omega) (by omega)]
      have h1 : decide (1 ≤ w ∧ w ≤ j) = true := decide_eq_true (by omega)
      rw [h1, Bool.true_and]
      have : ((w : Int) ∈ refOf ((j + 1 : Nat) : Int) ((j + 1 : Nat) : Int) (s.views.getD j [])) ↔ (w : Int) ∈ s.views.getD j [] := by
        rw [refOf_mem]
        constructor
        · exact fun e => e.1
        · exact fun e => ⟨e, by unfold dropB; simp; omega⟩
      by_cases c3 : (w : Int) ∈ s.views.getD j []
      · rw [decide_eq_true (this.2 c3), decide_eq_false (fun e => e c3)]; rfl
      · rw [decide_eq_false (fun e => c3 (this.1 e)), decide_eq_true c3]; rfl
    · rw [sees_high (by omega) (by omega), decide_eq_false (by omega)]; rfl
theorem ov_later {s : Ov} {i N : Nat} (h : OvOk s i N) {j : Nat} (hj : j + 1 < s.views.length) {w : Nat} (hw : 1 ≤ w) (hne : w ≠ j + 1)
    (hs : sees ((j + 1 : Nat) : Int) ((j + 1 : Nat) : Int) (refOf ((j + 1 : Nat) : Int) ((j + 1 : Nat) : Int) (s.views.getD j [])) w = true) :
    sees ((j + 1 + 1 : Nat) : Int) ((j + 1 + 1 : Nat) : Int) (refOf ((j + 1 + 1 : Nat) : Int) ((j + 1 + 1 : Nat) : Int) (s.views.getD (j + 1) [])) w = true := by
  rw [ov_sees h (by omega) hw, h.ve j (by omega) w] at hs
  rw [ov_sees h hj hw, h.ve (j + 1) hj w]
  have e : decide (w = j + 1) = false := decide_eq_false hne
  rw [e, Bool.false_or, Bool.and_eq_true, decide_eq_true_eq, decide_eq_true_eq] at hs
  have h1 : decide (1 ≤ w ∧ w ≤ j + 1) = true := decide_eq_true (by omega)
  have h2 : decide ((w : Int) ∉ s.views.getD (j + 1) []) = true := decide_eq_true (fun hm => by
    rcases h.ch j hj _ hm with hm | hm
    · exact hs.2 hm
    · omega)
  rw [h1, h2]; simp
end Go.Proofs.Ythicofdbcldpaaa
