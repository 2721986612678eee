/- Lists of bytes: their order, what two have in common at their beginnings. -/
import Derived.Lib.Bytealg
namespace Go.Proofs.Ytoinjnocopejjaa
open Go.Lib

/-- how many first ones are the same -/
def lcp : List UInt8 → List UInt8 → Nat
  | a :: as, b :: bs => if a = b then lcp as bs + 1 else 0
  | _, _ => 0
theorem lcp_nil (l : List UInt8) : lcp l [] = 0 := by cases l <;> rfl
theorem lcp_le (a b : List UInt8) : lcp a b ≤ a.length ∧ lcp a b ≤ b.length := by
  induction a generalizing b with
  | nil => simp [lcp]
  | cons x xs ih =>
    cases b with
    | nil => simp [lcp]
    | cons y ys =>
      unfold lcp
      split
      · have := ih ys; simp only [List.length_cons]; omega
      · simp
theorem lcp_same (a b : List UInt8) (j : Nat) (h : j < lcp a b) : a.getD j 0 = b.getD j 0 := by
  induction a generalizing b j with
  | nil => simp [lcp] at h
  | cons x xs ih =>
    cases b with
    | nil => simp [lcp] at h
    | cons y ys =>
      unfold lcp at h
      split at h
      · rename_i e
        cases j with
        | zero => simpa using e
        | succ j => simpa using ih ys j (by omega)
      · omega
theorem lcp_unlike (a b : List UInt8) (h1 : lcp a b < a.length) (h2 : lcp a b < b.length) : a.getD (lcp a b) 0 ≠ b.getD (lcp a b) 0 := by
  induction a generalizing b with
  | nil => simp at h1
  | cons x xs ih =>
    cases b with
    | nil => simp at h2
    | cons y ys =>
      unfold lcp at h1 h2 ⊢
      split
      · rename_i e
        rw [if_pos e] at h1 h2
        simp only [List.length_cons] at h1 h2
        simpa using ih ys (by omega) (by omega)
      · rename_i e
        simpa using e
theorem lcp_of (a b : List UInt8) (n : Nat) (h1 : n ≤ a.length) (h2 : n ≤ b.length) (h : ∀ j, j < n → a.getD j 0 = b.getD j 0) (he : n = a.length ∨ n = b.length ∨ a.getD n 0 ≠ b.getD n 0) : lcp a b = n := by
  rcases Nat.lt_trichotomy (lcp a b) n with hlt | heq | hgt
  · exact absurd (h _ hlt) (lcp_unlike a b (by omega) (by omega))
  · exact heq
  · have hl := lcp_le a b
    rcases he with he | he | he
    · omega
    · omega
    · exact absurd (lcp_same a b n hgt) he
/-- how many last ones are the same, at most so many -/
def lcs (a b : List UInt8) (most : Int) : Nat := min most.toNat (lcp a.reverse b.reverse)
theorem rev_getD (a : List UInt8) (j : Nat) (h : j < a.length) : a.reverse.getD j 0 = a.getD (a.length - 1 - j) 0 := by
  rw [List.getD_eq_getElem?_getD, List.getD_eq_getElem?_getD, List.getElem?_reverse h]
theorem lcs_of (a b : List UInt8) (most : Int) (n : Nat) (h1 : n ≤ a.length) (h2 : n ≤ b.length) (h3 : n = 0 ∨ (n : Int) ≤ most) (h : ∀ j, j < n → a.getD (a.length - 1 - j) 0 = b.getD (b.length - 1 - j) 0)
    (he : most ≤ (n : Int) ∨ n = a.length ∨ n = b.length ∨ a.getD (a.length - 1 - n) 0 ≠ b.getD (b.length - 1 - n) 0) : lcs a b most = n := by
  have hl := lcp_le a.reverse b.reverse
  simp only [List.length_reverse] at hl
  have hn : n ≤ lcp a.reverse b.reverse := by
    rcases Nat.lt_or_ge (lcp a.reverse b.reverse) n with hlt | hge
    · have h5 := lcp_unlike a.reverse b.reverse (by simp; omega) (by simp; omega)
      rw [rev_getD _ _ (by omega), rev_getD _ _ (by omega)] at h5
      exact absurd (h _ hlt) h5
    · exact hge
  unfold lcs
  rcases he with he | he | he | he
  · rcases h3 with h3 | h3 <;> omega
  · rcases h3 with h3 | h3 <;> omega
  · rcases h3 with h3 | h3 <;> omega
  · by_cases hna : n = a.length
    · rcases h3 with h3 | h3 <;> omega
    by_cases hnb : n = b.length
    · rcases h3 with h3 | h3 <;> omega
    have : lcp a.reverse b.reverse = n := by
      refine lcp_of _ _ n (by simp; omega) (by simp; omega) (fun j hj => ?_) (.inr (.inr ?_))
      · rw [rev_getD _ _ (by omega), rev_getD _ _ (by omega)]; exact h j hj
      · rw [rev_getD _ _ (by omega), rev_getD _ _ (by omega)]; exact he
    rcases h3 with h3 | h3 <;> omega
theorem compare_at (a b : List UInt8) (n : Nat) (h : ∀ j, j < n → a.getD j 0 = b.getD j 0) (h1 : n < a.length) (h2 : n < b.length) (hne : a.getD n 0 ≠ b.getD n 0) : compareBytes a b = if a.getD n 0 < b.getD n 0 then -1 else 1 := by
  induction a generalizing b n with
  | nil => simp at h1
  | cons x xs ih =>
    cases b with
    | nil => simp at h2
    | cons y ys =>
      unfold compareBytes
      cases n with
      | zero =>
        simp only [List.getD_cons_zero] at hne ⊢
        by_cases hlt : x < y
        · rw [if_pos hlt, if_pos hlt]
        · rw [if_neg hlt, if_neg hlt, if_pos]
          rcases UInt8.lt_or_lt_of_ne hne with h' | h'
          · exact absurd h' hlt
          · exact h'
      | succ n =>
        have h0 := h 0 (by omega)
        simp only [List.getD_cons_zero] at h0
        subst h0
        simp only [List.getD_cons_succ] at hne ⊢
        simp only [List.length_cons] at h1 h2
        rw [if_neg (UInt8.lt_irrefl _), if_neg (UInt8.lt_irrefl _)]
        exact ih ys n (fun j hj => by have := h (j + 1) (by omega); simpa using this) (by omega) (by omega) hne
theorem compare_end (a b : List UInt8) (n : Nat) (h : ∀ j, j < n → a.getD j 0 = b.getD j 0) (hn : n = min a.length b.length) : compareBytes a b = if a.length < b.length then -1 else if b.length < a.length then 1 else 0 := by
  induction a generalizing b n with
  | nil => cases b <;> simp [compareBytes]
  | cons x xs ih =>
    cases b with
    | nil => simp [compareBytes]
    | cons y ys =>
      simp only [List.length_cons] at hn
      obtain ⟨m, rfl⟩ : ∃ m, n = m + 1 := ⟨n - 1, by omega⟩
      have h0 := h 0 (by omega)
      simp only [List.getD_cons_zero] at h0
      subst h0
      unfold compareBytes
      rw [if_neg (UInt8.lt_irrefl _), if_neg (UInt8.lt_irrefl _), ih ys m (fun j hj => by have := h (j + 1) (by omega); simpa using this) (by omega)]
      simp only [List.length_cons, Nat.add_lt_add_iff_right]
end Go.Proofs.Ytoinjnocopejjaa
