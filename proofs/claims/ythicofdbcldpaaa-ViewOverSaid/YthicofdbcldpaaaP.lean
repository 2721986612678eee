/- Views as plain lists: what is busy in one, by the words and by the library; who is seen; the least that is not. -/
import Derived.Lib.SlicesCompact
import Derived.Lib.RowBridge
namespace Go.Proofs.Ythicofdbcldpaaa
set_option linter.unusedVariables false
/-- a number that a view drops -/
def dropB (own high w : Int) : Bool := decide (w < 1) || decide (high ≤ w) || decide (w = own)
/-- strictly rising -/
def Rises (l : List Int) : Prop := l.Pairwise (· < ·)
theorem rises_ext : ∀ {a b : List Int}, Rises a → Rises b → (∀ x, x ∈ a ↔ x ∈ b) → a = b
  | [], [], _, _, _ => rfl
  | [], y :: b, _, _, h => absurd ((h y).2 (List.mem_cons_self)) (by simp)
  | x :: a, [], _, _, h => absurd ((h x).1 (List.mem_cons_self)) (by simp)
  | x :: a, y :: b, ha, hb, h => by
    have ha' := List.pairwise_cons.1 ha
    have hb' := List.pairwise_cons.1 hb
    have e : x = y := by
      have h1 := (h x).1 List.mem_cons_self
      have h2 := (h y).2 List.mem_cons_self
      rcases List.mem_cons.1 h1 with h1 | h1
      · exact h1
      · rcases List.mem_cons.1 h2 with h2 | h2
        · exact h2.symm
        · have := hb'.1 x h1; have := ha'.1 y h2; omega
    subst e
    have : a = b := rises_ext ha'.2 hb'.2 (fun z => by
      constructor
      · intro hz
        have hlt := ha'.1 z hz
        rcases List.mem_cons.1 ((h z).1 (List.mem_cons_of_mem _ hz)) with h1 | h1
        · omega
        · exact h1
      · intro hz
        have hlt := hb'.1 z hz
        rcases List.mem_cons.1 ((h z).2 (List.mem_cons_of_mem _ hz)) with h1 | h1
        · omega
        · exact h1)
    rw [this]
/-- where a number stands in a rising list -/
def spot (l : List Int) (x : Int) : Nat := (l.takeWhile fun y => decide (y < x)).length
theorem spot_le (l : List Int) (x : Int) : spot l x ≤ l.length := by
  unfold spot; exact List.Sublist.length_le (List.takeWhile_sublist _)
theorem spot_lt : ∀ (l : List Int) (x : Int) (j : Nat), j < spot l x → l.getD j 0 < x
  | [], x, j, h => by simp [spot] at h
  | y :: l, x, j, h => by
    unfold spot at h
    by_cases hy : y < x
    · rw [List.takeWhile_cons_of_pos (by simpa using hy)] at h
      rcases j with _ | j
      · exact hy
      · simpa using spot_lt l x j (by unfold spot; simpa using h)
    · rw [List.takeWhile_cons_of_neg (by simpa using hy)] at h; simp at h
theorem spot_at : ∀ (l : List Int) (x : Int), spot l x < l.length → ¬ l.getD (spot l x) 0 < x
  | [], x, h => by simp at h
  | y :: l, x, h => by
    by_cases hy : y < x
    · have e : spot (y :: l) x = spot l x + 1 := by unfold spot; rw [List.takeWhile_cons_of_pos (by simpa using hy)]; rfl
      rw [e] at h ⊢
      simpa using spot_at l x (by simpa using h)
    · have e : spot (y :: l) x = 0 := by unfold spot; rw [List.takeWhile_cons_of_neg (by simpa using hy)]; rfl
      rw [e]; exact hy
theorem spot_eq (l : List Int) (x : Int) (k : Nat) (hk : k ≤ l.length) (h1 : ∀ j, j < k → l.getD j 0 < x) (h2 : k < l.length → ¬ l.getD k 0 < x) : spot l x = k := by
  rcases Nat.lt_trichotomy (spot l x) k with c | c | c
  · exact absurd (h1 _ c) (spot_at l x (by omega))
  · exact c
  · exact absurd (spot_lt l x k c) (h2 (by have := spot_le l x; omega))
/-- put among the others -/
def ins (l : List Int) (x : Int) : List Int := l.take (spot l x) ++ [x] ++ l.drop (spot l x)
theorem ins_mem (l : List Int) (x y : Int) : y ∈ ins l x ↔ y = x ∨ y ∈ l := by
  unfold ins
  have := List.take_append_drop (spot l x) l
  constructor
  · intro h
    rcases List.mem_append.1 h with h | h
    · rcases List.mem_append.1 h with h | h
      · right; exact List.mem_of_mem_take h
      · left; simpa using h
    · right; exact List.mem_of_mem_drop h
  · rintro (rfl | h)
    · simp
    · rw [← this] at h
      rcases List.mem_append.1 h with h | h
      · simp [h]
      · simp [h]
theorem getD_mem {l : List Int} {j : Nat} (h : j < l.length) : l.getD j 0 ∈ l := by
  rw [List.getD_eq_getElem?_getD, List.getElem?_eq_getElem h]; exact List.getElem_mem h
theorem mem_getD {l : List Int} {x : Int} (h : x ∈ l) : ∃ j, j < l.length ∧ l.getD j 0 = x := by
  obtain ⟨i, hi, he⟩ := List.mem_iff_getElem.1 h
  exact ⟨i, hi, by rw [List.getD_eq_getElem?_getD, List.getElem?_eq_getElem hi]; exact he⟩
theorem mem_take_getD {l : List Int} {k : Nat} {x : Int} (h : x ∈ l.take k) : ∃ j, j < k ∧ j < l.length ∧ l.getD j 0 = x := by
  obtain ⟨j, hj, he⟩ := mem_getD h
  rw [List.length_take] at hj
  rw [List.getD_eq_getElem?_getD, List.getElem?_take_of_lt (by omega), ← List.getD_eq_getElem?_getD] at he
  exact ⟨j, by omega, by omega, he⟩
theorem rises_lt {l : List Int} (h : Rises l) {i j : Nat} (hij : i < j) (hj : j < l.length) : l.getD i 0 < l.getD j 0 := by
  rw [List.getD_eq_getElem?_getD, List.getD_eq_getElem?_getD, List.getElem?_eq_getElem hj, List.getElem?_eq_getElem (by omega)]
  exact List.pairwise_iff_getElem.1 h i j (by omega) hj hij
theorem rises_of {l : List Int} (h : ∀ i j, i < j → j < l.length → l.getD i 0 < l.getD j 0) : Rises l := by
  refine List.pairwise_iff_getElem.2 fun i j hi hj hij => ?_
  have := h i j hij hj
  rwa [List.getD_eq_getElem?_getD, List.getD_eq_getElem?_getD, List.getElem?_eq_getElem hj, List.getElem?_eq_getElem hi] at this
theorem ins_rises {l : List Int} (h : Rises l) {x : Int} (hx : x ∉ l) : Rises (ins l x) := by
  unfold ins
  have hsp : ∀ y, y ∈ l.drop (spot l x) → x < y := fun y hy => by
    obtain ⟨j, hj, he⟩ := mem_getD hy
    rw [List.length_drop] at hj
    rw [List.getD_eq_getElem?_getD, List.getElem?_drop, ← List.getD_eq_getElem?_getD] at he
    have h1 := spot_at l x (by omega)
    have h2 : l.getD (spot l x) 0 ≤ y := by
      rw [← he]
      rcases Nat.eq_zero_or_pos j with rfl | hp
      · exact Int.le_refl _
      · exact Int.le_of_lt (rises_lt h (by omega) (by omega))
    have h3 : x ≠ y := fun e => hx (by rw [e]; exact List.mem_of_mem_drop hy)
    omega
  have hst : ∀ y, y ∈ l.take (spot l x) → y < x := fun y hy => by
    obtain ⟨j, hj, hl, he⟩ := mem_take_getD hy
    rw [← he]; exact spot_lt l x j hj
  have ht : Rises (l.take (spot l x)) := List.Pairwise.sublist (List.take_sublist _ _) h
  have hd : Rises (l.drop (spot l x)) := List.Pairwise.sublist (List.drop_sublist _ _) h
  refine List.pairwise_append.2 ⟨List.pairwise_append.2 ⟨ht, List.pairwise_singleton _ _, fun a ha b hb => ?_⟩, hd, fun a ha b hb => ?_⟩
  · simp at hb; subst hb; exact hst a ha
  · rcases List.mem_append.1 ha with ha | ha
    · have := hst a ha; have := hsp b hb; omega
    · simp at ha; subst ha; exact hsp b hb
/-- one more, by the words -/
def stepOf (own high : Int) (l : List Int) (w : Int) : List Int := if dropB own high w = true ∨ w ∈ l then l else ins l w
def refOf (own high : Int) (busy : List Int) : List Int := busy.foldl (stepOf own high) []
theorem refOf_snoc (own high : Int) (l : List Int) (x : Int) : refOf own high (l ++ [x]) = stepOf own high (refOf own high l) x := by
  unfold refOf; rw [List.foldl_append]; rfl
theorem step_rises {own high : Int} {l : List Int} (h : Rises l) (w : Int) : Rises (stepOf own high l w) := by
  unfold stepOf
  split
  · exact h
  · rename_i hc
    exact ins_rises h (fun hm => hc (.inr hm))
theorem step_mem (own high : Int) (l : List Int) (w y : Int) : y ∈ stepOf own high l w ↔ y ∈ l ∨ (y = w ∧ dropB own high w = false) := by
  unfold stepOf
  split
  · rename_i hc
    constructor
    · exact .inl
    · rintro (h | ⟨rfl, h⟩)
      · exact h
      · rcases hc with hc | hc
        · rw [hc] at h; cases h
        · exact hc
  · rename_i hc
    have hd : dropB own high w = false := by
      cases e : dropB own high w
      · rfl
      · exact absurd (.inl e) hc
    rw [ins_mem]
    constructor
    · rintro (rfl | h)
      · exact .inr ⟨rfl, hd⟩
      · exact .inl h
    · rintro (h | ⟨rfl, h⟩)
      · exact .inr h
      · exact .inl rfl
theorem fold_spec (own high : Int) : ∀ (busy l : List Int), Rises l → Rises (busy.foldl (stepOf own high) l) ∧ ∀ y, y ∈ busy.foldl (stepOf own high) l ↔ y ∈ l ∨ (y ∈ busy ∧ dropB own high y = false)
  | [], l, h => ⟨h, fun y => by simp⟩
  | x :: busy, l, h => by
    have ih := fold_spec own high busy (stepOf own high l x) (step_rises h x)
    refine ⟨ih.1, fun y => ?_⟩
    rw [List.foldl_cons, ih.2 y, step_mem, List.mem_cons]
    constructor
    · rintro ((h1 | ⟨rfl, h1⟩) | ⟨h1, h2⟩)
      · exact .inl h1
      · exact .inr ⟨.inl rfl, h1⟩
      · exact .inr ⟨.inr h1, h2⟩
    · rintro (h1 | ⟨rfl | h1, h2⟩)
      · exact .inl (.inl h1)
      · exact .inl (.inr ⟨rfl, h2⟩)
      · exact .inr ⟨h1, h2⟩
theorem refOf_rises (own high : Int) (busy : List Int) : Rises (refOf own high busy) := (fold_spec own high busy [] List.Pairwise.nil).1
theorem refOf_mem (own high : Int) (busy : List Int) (y : Int) : y ∈ refOf own high busy ↔ y ∈ busy ∧ dropB own high y = false := by
  rw [show refOf own high busy = busy.foldl (stepOf own high) [] from rfl, (fold_spec own high busy [] List.Pairwise.nil).2 y]; simp
theorem ins_len (l : List Int) (x : Int) : (ins l x).length = l.length + 1 := by
  have := spot_le l x
  unfold ins; simp [List.length_take, List.length_drop]; omega
theorem step_len (own high : Int) (l : List Int) (w : Int) : (stepOf own high l w).length ≤ l.length + 1 := by
  unfold stepOf; split
  · omega
  · rw [ins_len]; omega
theorem refOf_len (own high : Int) : ∀ (busy l : List Int), (busy.foldl (stepOf own high) l).length ≤ l.length + busy.length
  | [], l => by simp
  | x :: b, l => by
    have h1 := refOf_len own high b (stepOf own high l x)
    have h2 := step_len own high l x
    rw [List.foldl_cons, List.length_cons]; omega
/-- by the library: dropped, sorted, each once -/
def goOf (own high : Int) (busy : List Int) : List Int := Lib.compact ((busy.filter fun x => !dropB own high x).mergeSort fun x y => decide (x ≤ y))
theorem sorted_ms (l : List Int) : (l.mergeSort fun x y => decide (x ≤ y)).Pairwise (· ≤ ·) := by
  have := List.pairwise_mergeSort (le := fun (x y : Int) => decide (x ≤ y)) (fun a b c h1 h2 => by simp at *; omega) (fun a b => by simp; omega) l
  exact this.imp (by simp)
theorem bang (l : List Int) (j : Nat) (h : j < l.length) : l.toArray[j]! = l.getD j 0 := by
  rw [getElem!_pos l.toArray j (by simpa using h), List.getD_eq_getElem?_getD, List.getElem?_eq_getElem h]; simp
theorem le_getD {l : List Int} (h : l.Pairwise (· ≤ ·)) {i j : Nat} (hij : i ≤ j) (hj : j < l.length) : l.getD i 0 ≤ l.getD j 0 := by
  rcases Nat.lt_or_ge i j with c | c
  · rw [List.getD_eq_getElem?_getD, List.getD_eq_getElem?_getD, List.getElem?_eq_getElem hj, List.getElem?_eq_getElem (by omega)]
    exact List.pairwise_iff_getElem.1 h i j (by omega) hj c
  · obtain rfl : i = j := by omega
    exact Int.le_refl _
theorem compact_spec (l : List Int) (h : l.Pairwise (· ≤ ·)) : ∀ m, m ≤ l.length → Rises (Lib.compactUpTo l.toArray m) ∧ (∀ y, y ∈ Lib.compactUpTo l.toArray m ↔ ∃ j, j < m ∧ l.getD j 0 = y)
  | 0, _ => ⟨List.Pairwise.nil, fun y => by simp [Lib.compactUpTo]⟩
  | m + 1, hm => by
    obtain ⟨ih1, ih2⟩ := compact_spec l h m (by omega)
    have hb := bang l m (by omega)
    have hle : ∀ y, y ∈ Lib.compactUpTo l.toArray m → y ≤ l.getD m 0 := fun y hy => by
      obtain ⟨j, hj, he⟩ := (ih2 y).1 hy
      rw [← he]; exact le_getD h (by omega) (by omega)
    rw [Lib.compactUpTo_succ]
    by_cases h0 : m = 0
    · subst h0
      have hk := Lib.keeps_lt_one l.toArray 0 (by omega)
      rw [if_pos hk, hb]
      refine ⟨List.pairwise_append.2 ⟨ih1, List.pairwise_singleton _ _, fun a ha => by obtain ⟨j, hj, _⟩ := (ih2 a).1 ha; omega⟩, fun y => ?_⟩
      rw [List.mem_append, ih2 y]
      constructor
      · rintro (⟨j, hj, _⟩ | hy)
        · omega
        · simp at hy; exact ⟨0, by omega, by simp [hy]⟩
      · rintro ⟨j, hj, he⟩
        obtain rfl : j = 0 := by omega
        right; simp at he ⊢; exact he.symm
    · have hb1 := bang l (m - 1) (by omega)
      by_cases he : l.getD m 0 = l.getD (m - 1) 0
      · rw [Lib.keeps_neg (by omega) (by rw [hb, hb1]; exact he)]
        simp only [Bool.false_eq_true, if_false, List.append_nil]
        refine ⟨ih1, fun y => ?_⟩
        rw [ih2 y]
        constructor
        · rintro ⟨j, hj, h2⟩; exact ⟨j, by omega, h2⟩
        · rintro ⟨j, hj, h2⟩
          rcases Nat.lt_or_ge j m with c | c
          · exact ⟨j, c, h2⟩
          · obtain rfl : j = m := by omega
            exact ⟨j - 1, by omega, by rw [← he]; exact h2⟩
      · rw [if_pos (Lib.keeps_pos (by rw [hb, hb1]; exact he)), hb]
        have hlt : l.getD (m - 1) 0 < l.getD m 0 := by have := le_getD h (show m - 1 ≤ m by omega) (by omega); omega
        refine ⟨List.pairwise_append.2 ⟨ih1, List.pairwise_singleton _ _, fun a ha b hb => ?_⟩, fun y => ?_⟩
        · simp only [List.mem_singleton] at hb
          obtain ⟨j, hj, h2⟩ := (ih2 a).1 ha
          have := le_getD h (show j ≤ m - 1 by omega) (by omega)
          rw [hb, ← h2]; omega
        · rw [List.mem_append, ih2 y, List.mem_singleton]
          constructor
          · rintro (⟨j, hj, h2⟩ | hy)
            · exact ⟨j, by omega, h2⟩
            · exact ⟨m, by omega, hy.symm⟩
          · rintro ⟨j, hj, h2⟩
            rcases Nat.lt_or_ge j m with c | c
            · exact .inl ⟨j, c, h2⟩
            · obtain rfl : j = m := by omega
              exact .inr h2.symm
theorem goOf_eq (own high : Int) (busy : List Int) : goOf own high busy = refOf own high busy := by
  have h := compact_spec ((busy.filter fun x => !dropB own high x).mergeSort fun x y => decide (x ≤ y)) (sorted_ms _) _ (Nat.le_refl _)
  refine rises_ext h.1 (refOf_rises own high busy) fun y => ?_
  rw [refOf_mem]
  have h2 := h.2 y
  constructor
  · intro hy
    obtain ⟨j, hj, he⟩ := h2.1 hy
    have hm : y ∈ (busy.filter fun x => !dropB own high x) := by
      rw [← List.mem_mergeSort (le := fun x y => decide (x ≤ y)), ← he]; exact getD_mem hj
    have := List.mem_filter.1 hm
    exact ⟨this.1, by simpa using this.2⟩
  · rintro ⟨h3, h4⟩
    refine h2.2 ?_
    have hm : y ∈ ((busy.filter fun x => !dropB own high x).mergeSort fun x y => decide (x ≤ y)) := by
      rw [List.mem_mergeSort, List.mem_filter]; exact ⟨h3, by simpa using h4⟩
    obtain ⟨j, hj, he⟩ := mem_getD hm
    exact ⟨j, hj, he⟩
/-- the least one of High and on, and 1, that is not its own -/
def firstOf (own high : Int) : Int := if max high 1 = own ∧ max high 1 < 9223372036854775807 then max high 1 + 1 else max high 1
/-- the least of a list's numbers that count, by the program -/
def leastFold (own : Int) (a : Int) (l : List Int) : Int := l.foldl (fun m w => if 1 ≤ w ∧ w ≠ own then min m w else m) a
def leastOf (own high : Int) (xs : List Int) : Int := leastFold own (firstOf own high) xs
/-- .. and by the words -/
def refFold (own high : Int) (a : Int) (l : List Int) : Int := l.foldl (fun m w => if 1 ≤ w ∧ w < high ∧ w ≠ own ∧ w < m then w else m) a
def refLeast (own high : Int) (xs : List Int) : Int := if firstOf own high < refFold own high 9223372036854775807 xs then firstOf own high else refFold own high 9223372036854775807 xs
theorem fold_le (own : Int) : ∀ (l : List Int) (a : Int), leastFold own a l ≤ a
  | [], a => Int.le_refl _
  | x :: l, a => by
    have := fold_le own l (if 1 ≤ x ∧ x ≠ own then min a x else a)
    show leastFold own (if 1 ≤ x ∧ x ≠ own then min a x else a) l ≤ a
    split at this <;> split <;> omega
theorem fold_both (own high f : Int) (hf : ∀ x, 1 ≤ x → x ≠ own → high ≤ x → f ≤ x) : ∀ (l : List Int) (a b : Int), a = (if f < b then f else b) → leastFold own a l = (if f < refFold own high b l then f else refFold own high b l)
  | [], a, b, h => h
  | x :: l, a, b, h => by
    refine fold_both own high f hf l _ _ ?_
    dsimp only
    by_cases c1 : 1 ≤ x ∧ x ≠ own
    · rw [if_pos c1]
      by_cases c2 : x < high ∧ x < b
      · have e : (if 1 ≤ x ∧ x < high ∧ x ≠ own ∧ x < b then x else b) = x := if_pos ⟨c1.1, c2.1, c1.2, c2.2⟩
        simp only [e]; rw [h]
        by_cases c3 : f < b
        · rw [if_pos c3]; by_cases c4 : f < x
          · rw [if_pos c4]; omega
          · rw [if_neg c4]; omega
        · rw [if_neg c3]; rw [if_neg (by omega)]; omega
      · have e : (if 1 ≤ x ∧ x < high ∧ x ≠ own ∧ x < b then x else b) = b := if_neg (fun e => c2 ⟨e.2.1, e.2.2.2⟩)
        simp only [e]; rw [h]
        have hx := hf x c1.1 c1.2
        by_cases c3 : f < b
        · rw [if_pos c3]; omega
        · rw [if_neg c3]; omega
    · have e : (if 1 ≤ x ∧ x < high ∧ x ≠ own ∧ x < b then x else b) = b := if_neg (fun e => c1 ⟨e.1, e.2.2.1⟩)
      rw [if_neg c1]; simp only [e]; exact h
theorem high_first (own high : Int) (x : Int) (h1 : 1 ≤ x) (h2 : x ≠ own) (h3 : high ≤ x) : firstOf own high ≤ x := by
  unfold firstOf; split <;> omega
theorem least_ref (own high : Int) (xs : List Int) (h : firstOf own high ≤ 9223372036854775807) : leastOf own high xs = refLeast own high xs := by
  unfold leastOf refLeast
  exact fold_both own high (firstOf own high) (high_first own high) xs _ _ (by split <;> omega)
theorem take_succ (xs : List Int) (k : Nat) (h : k < xs.length) : xs.take (k + 1) = xs.take k ++ [xs.getD k 0] := by
  rw [List.take_succ_eq_append_getElem h, List.getD_eq_getElem?_getD, List.getElem?_eq_getElem h]; rfl
theorem leastFold_succ (own a : Int) (xs : List Int) (k : Nat) (h : k < xs.length) : leastFold own a (xs.take (k + 1)) = if 1 ≤ xs.getD k 0 ∧ xs.getD k 0 ≠ own then min (leastFold own a (xs.take k)) (xs.getD k 0) else leastFold own a (xs.take k) := by
  rw [take_succ xs k h]; unfold leastFold; rw [List.foldl_append]; rfl
theorem refFold_succ (own high a : Int) (xs : List Int) (k : Nat) (h : k < xs.length) : refFold own high a (xs.take (k + 1)) = if 1 ≤ xs.getD k 0 ∧ xs.getD k 0 < high ∧ xs.getD k 0 ≠ own ∧ xs.getD k 0 < refFold own high a (xs.take k) then xs.getD k 0 else refFold own high a (xs.take k) := by
  rw [take_succ xs k h]; unfold refFold; rw [List.foldl_append]; rfl
end Go.Proofs.Ythicofdbcldpaaa
