/- The order of lists of bytes. -/
import Derived.Test.YtoinjnocopejjaaTL1
namespace Go.Proofs.Ytoinjnocopejjaa
open Go.Lib

theorem u8_lt (x y : UInt8) : (x < y) ↔ x.toNat < y.toNat := UInt8.lt_iff_toNat_lt
theorem u8_eq (x y : UInt8) : (x = y) ↔ x.toNat = y.toNat := UInt8.toNat_inj.symm
theorem cb_cons (x y : UInt8) (a b : List UInt8) : compareBytes (x :: a) (y :: b) = if x.toNat < y.toNat then -1 else if y.toNat < x.toNat then 1 else compareBytes a b := by
  rw [compareBytes]
  simp only [u8_lt]
theorem cb_self (a : List UInt8) : compareBytes a a = 0 := by
  induction a with
  | nil => rfl
  | cons x a ih => rw [cb_cons, if_neg (by omega), if_neg (by omega), ih]
theorem cb_vals (a b : List UInt8) : compareBytes a b = -1 ∨ compareBytes a b = 0 ∨ compareBytes a b = 1 := by
  induction a generalizing b with
  | nil => cases b <;> simp [compareBytes]
  | cons x a ih =>
    cases b with
    | nil => simp [compareBytes]
    | cons y b =>
      rw [cb_cons]
      split
      · simp
      · split
        · simp
        · exact ih b
theorem cb_neg (a b : List UInt8) : compareBytes b a = - compareBytes a b := by
  induction a generalizing b with
  | nil => cases b <;> simp [compareBytes]
  | cons x a ih =>
    cases b with
    | nil => simp [compareBytes]
    | cons y b =>
      rw [cb_cons, cb_cons]
      by_cases h1 : x.toNat < y.toNat
      · rw [if_pos h1, if_neg (by omega), if_pos h1]; rfl
      · rw [if_neg h1]
        by_cases h2 : y.toNat < x.toNat
        · rw [if_pos h2, if_neg h1, if_pos h2]
        · rw [if_neg h2, if_neg h1, if_neg h2, ih b]
theorem cb_zero (a b : List UInt8) : compareBytes a b = 0 ↔ a = b := by
  induction a generalizing b with
  | nil => cases b <;> simp [compareBytes]
  | cons x a ih =>
    cases b with
    | nil => simp [compareBytes]
    | cons y b =>
      rw [cb_cons]
      by_cases h1 : x.toNat < y.toNat
      · rw [if_pos h1]
        constructor
        · intro h; cases h
        · intro h; injection h with h _; subst h; omega
      · rw [if_neg h1]
        by_cases h2 : y.toNat < x.toNat
        · rw [if_pos h2]
          constructor
          · intro h; cases h
          · intro h; injection h with h _; subst h; omega
        · rw [if_neg h2, ih b]
          have : x = y := (u8_eq x y).2 (by omega)
          subst this
          simp
/-- 'not behind' is passed on -/
theorem cb_le (a b c : List UInt8) (h1 : compareBytes a b ≤ 0) (h2 : compareBytes b c ≤ 0) : compareBytes a c ≤ 0 := by
  induction a generalizing b c with
  | nil => cases c <;> simp [compareBytes]
  | cons x a ih =>
    cases b with
    | nil => simp [compareBytes] at h1
    | cons y b =>
      cases c with
      | nil => simp [compareBytes] at h2
      | cons z c =>
        rw [cb_cons] at h1 h2 ⊢
        by_cases p1 : x.toNat < y.toNat
        · by_cases p2 : z.toNat < y.toNat
          · rw [if_neg (by omega), if_pos p2] at h2; omega
          · rw [if_pos (by omega)]; omega
        · rw [if_neg p1] at h1
          by_cases p3 : y.toNat < x.toNat
          · rw [if_pos p3] at h1; omega
          · rw [if_neg p3] at h1
            by_cases p4 : y.toNat < z.toNat
            · rw [if_pos (by omega)]; omega
            · rw [if_neg p4] at h2
              by_cases p5 : z.toNat < y.toNat
              · rw [if_pos p5] at h2; omega
              · rw [if_neg p5] at h2
                rw [if_neg (by omega), if_neg (by omega)]
                exact ih b c h1 h2
theorem cb_lt_le (a b c : List UInt8) (h1 : compareBytes a b < 0) (h2 : compareBytes b c ≤ 0) : compareBytes a c < 0 := by
  have h := cb_le a b c (by omega) h2
  rcases Int.lt_or_eq_of_le h with h | h
  · exact h
  · rw [cb_zero] at h; subst h
    rw [cb_neg] at h2; omega
theorem cb_le_lt (a b c : List UInt8) (h1 : compareBytes a b ≤ 0) (h2 : compareBytes b c < 0) : compareBytes a c < 0 := by
  have h := cb_le a b c h1 (by omega)
  rcases Int.lt_or_eq_of_le h with h | h
  · exact h
  · rw [cb_zero] at h; subst h
    rw [cb_neg] at h2; omega
theorem cb_nil (a : List UInt8) : compareBytes [] a = -1 ↔ a ≠ [] := by cases a <;> simp [compareBytes]
theorem cb_ahead (p a b : List UInt8) : compareBytes (p ++ a) (p ++ b) = compareBytes a b := by
  induction p with
  | nil => rfl
  | cons x p ih => rw [List.cons_append, List.cons_append, cb_cons, if_neg (by omega), if_neg (by omega), ih]
theorem cb_drop (a b : List UInt8) (n : Nat) (hn : n ≤ lcp a b) : compareBytes (a.drop n) (b.drop n) = compareBytes a b := by
  induction n generalizing a b with
  | zero => rfl
  | succ n ih =>
    cases a with
    | nil => simp [lcp] at hn
    | cons x a =>
      cases b with
      | nil => simp [lcp] at hn
      | cons y b =>
        unfold lcp at hn
        split at hn
        · rename_i e
          subst e
          rw [List.drop_succ_cons, List.drop_succ_cons, ih a b (by omega), cb_cons, if_neg (by omega), if_neg (by omega)]
        · omega
theorem lcp_ahead (p a b : List UInt8) : lcp (p ++ a) (p ++ b) = p.length + lcp a b := by
  induction p with
  | nil => simp
  | cons x p ih => rw [List.cons_append, List.cons_append, lcp, if_pos rfl, ih, List.length_cons]; omega
theorem cb_behind (a b p q : List UInt8) (h1 : lcp a b < a.length) (h2 : lcp a b < b.length) : compareBytes (a ++ p) (b ++ q) = compareBytes a b := by
  induction a generalizing b with
  | nil => simp at h1
  | cons x a ih =>
    cases b with
    | nil => simp at h2
    | cons y b =>
      rw [List.cons_append, List.cons_append, cb_cons, cb_cons]
      by_cases p1 : x.toNat < y.toNat
      · rw [if_pos p1, if_pos p1]
      · rw [if_neg p1, if_neg p1]
        by_cases p2 : y.toNat < x.toNat
        · rw [if_pos p2, if_pos p2]
        · rw [if_neg p2, if_neg p2]
          have e : x = y := (u8_eq x y).2 (by omega)
          subst e
          unfold lcp at h1 h2
          rw [if_pos rfl] at h1 h2
          simp only [List.length_cons] at h1 h2
          exact ih b (by omega) (by omega)
/-- behind a text stands its next one -/
theorem cb_next (a : List UInt8) : compareBytes a (a ++ [0]) = -1 := by
  induction a with
  | nil => rfl
  | cons x a ih => rw [List.cons_append, cb_cons, if_neg (by omega), if_neg (by omega), ih]
theorem cb_next_next (a b : List UInt8) : compareBytes (a ++ [0]) (b ++ [0]) = compareBytes a b := by
  induction a generalizing b with
  | nil =>
    cases b with
    | nil => rfl
    | cons y b =>
      simp only [List.nil_append, List.cons_append]
      rw [cb_cons]
      by_cases h : (0 : UInt8).toNat < y.toNat
      · rw [if_pos h]; rfl
      · rw [if_neg h, if_neg (by simp)]
        cases b <;> rfl
  | cons x a ih =>
    cases b with
    | nil =>
      simp only [List.nil_append, List.cons_append]
      rw [cb_cons, if_neg (by simp)]
      by_cases h : (0 : UInt8).toNat < x.toNat
      · rw [if_pos h]; rfl
      · rw [if_neg h]
        cases a <;> rfl
    | cons y b => rw [List.cons_append, List.cons_append, cb_cons, cb_cons, ih b]
/-- no text stands between one and its next one -/
theorem cb_next_le (a b : List UInt8) (h : compareBytes a b < 0) : compareBytes (a ++ [0]) b ≤ 0 := by
  induction a generalizing b with
  | nil =>
    cases b with
    | nil => simp [compareBytes] at h
    | cons y b =>
      simp only [List.nil_append]
      rw [cb_cons]
      split
      · omega
      · rw [if_neg (by simp)]
        cases b <;> simp [compareBytes]
  | cons x a ih =>
    cases b with
    | nil => simp [compareBytes] at h
    | cons y b =>
      rw [List.cons_append]
      rw [cb_cons] at h ⊢
      by_cases p1 : x.toNat < y.toNat
      · rw [if_pos p1]; omega
      · rw [if_neg p1] at h ⊢
        by_cases p2 : y.toNat < x.toNat
        · rw [if_pos p2] at h; omega
        · rw [if_neg p2] at h ⊢
          exact ih b h
/-- is a key within two bounds? -/
def inTwo (k f e : List UInt8) : Bool := decide (0 ≤ compareBytes k f) && (decide (e = []) || decide (compareBytes k e < 0))
end Go.Proofs.Ytoinjnocopejjaa
