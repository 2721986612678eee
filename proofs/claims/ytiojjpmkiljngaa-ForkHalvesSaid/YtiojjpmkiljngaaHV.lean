/- The halves of keys that rise; a region that draws its order among four chains. -/
import Derived.Test.YtiojjpmkiljngaaS
import Derived.Test.YtiojjpmkiljngaaP
namespace Go.Proofs.Ytiojjpmkiljngaa
open Go.ChangeShapes Go.WideShapes Go.ChangeAt Go.RowKit
set_option linter.unusedVariables false
set_option linter.unusedSimpArgs false
theorem take_getD (xs : List ByteArray) {h t : Nat} (ht : t < h) : (xs.take h).getD t e0 = xs.getD t e0 := by
  rw [List.getD_eq_getElem?_getD, List.getElem?_take_of_lt ht, ← List.getD_eq_getElem?_getD]
theorem drop_getD (xs : List ByteArray) (h t : Nat) : (xs.drop h).getD t e0 = xs.getD (h + t) e0 := by
  rw [List.getD_eq_getElem?_getD, List.getElem?_drop, ← List.getD_eq_getElem?_getD]
theorem up_take {xs : List ByteArray} (hu : upB xs = true) (h : Nat) : upB (xs.take h) = true := by
  rw [upB_iff]
  intro j hj
  rw [List.length_take] at hj
  rw [take_getD _ (by omega), take_getD _ (by omega)]
  exact (upB_iff xs).1 hu j (by omega)
theorem up_drop {xs : List ByteArray} (hu : upB xs = true) (h : Nat) : upB (xs.drop h) = true := by
  rw [upB_iff]
  intro j hj
  rw [List.length_drop] at hj
  rw [drop_getD, drop_getD]
  have := (upB_iff xs).1 hu (h + j) (by omega)
  rwa [show h + (j + 1) = h + j + 1 by omega]
section
variable {xs : List ByteArray} {key up : ByteArray} {h : Nat}
theorem at_getD (hx : xs[h]? = some up) : xs.getD h e0 = up := by rw [List.getD_eq_getElem?_getD, hx]; rfl
theorem low_le_h (hx : xs[h]? = some up) (hk : co key up < 0) : lowN xs key ≤ h := by
  rcases Nat.lt_or_ge h (lowN xs key) with hh | hh
  · have := low_below xs key h hh
    rw [at_getD hx] at this
    have := co_neg key up
    omega
  · exact hh
theorem low_take (hx : xs[h]? = some up) (hk : co key up < 0) : lowN (xs.take h) key = lowN xs key := by
  have hl := low_le_h hx hk
  have hh := (List.getElem?_eq_some_iff.1 hx).1
  apply low_of
  · rw [List.length_take]; omega
  · intro t ht
    rw [take_getD _ (by omega)]
    exact low_below xs key t ht
  · intro hlt
    rw [List.length_take] at hlt
    rw [take_getD _ (by omega)]
    exact low_at xs key (by omega)
theorem has_take (hx : xs[h]? = some up) (hk : co key up < 0) : hasB (xs.take h) key = hasB xs key := by
  have hl := low_le_h hx hk
  have hh := (List.getElem?_eq_some_iff.1 hx).1
  unfold hasB
  rw [low_take hx hk, List.length_take]
  by_cases e : lowN xs key = h
  · rw [e, decide_eq_false (by omega), at_getD hx, decide_eq_true hh]
    have := co_neg key up
    rw [decide_eq_false (show ¬ co up key = 0 by omega)]
    rfl
  · rw [take_getD _ (by omega), decide_eq_true (show lowN xs key < min h xs.length by omega), decide_eq_true (show lowN xs key < xs.length by omega)]
theorem low_ge_h (hu : upB xs = true) (hx : xs[h]? = some up) (hk : ¬ co key up < 0) : h ≤ lowN xs key := by
  have hh := (List.getElem?_eq_some_iff.1 hx).1
  rcases Nat.lt_or_ge (lowN xs key) h with hl | hl
  · have h1 := low_at xs key (by omega)
    have h2 := rise hu (lowN xs key) h hl hh
    rw [at_getD hx] at h2
    have h3 := co_neg key up
    have h4 := co_lt_le h2 (show co up key ≤ 0 by omega)
    omega
  · exact hl
theorem low_drop (hu : upB xs = true) (hx : xs[h]? = some up) (hk : ¬ co key up < 0) : lowN (xs.drop h) key = lowN xs key - h := by
  have hl := low_ge_h hu hx hk
  have hle := low_le xs key
  apply low_of
  · rw [List.length_drop]; omega
  · intro t ht
    rw [drop_getD]
    exact low_below xs key _ (by omega)
  · intro hlt
    rw [List.length_drop] at hlt
    rw [drop_getD, show h + (lowN xs key - h) = lowN xs key by omega]
    exact low_at xs key (by omega)
theorem has_drop (hu : upB xs = true) (hx : xs[h]? = some up) (hk : ¬ co key up < 0) : hasB (xs.drop h) key = hasB xs key := by
  have hl := low_ge_h hu hx hk
  unfold hasB
  rw [low_drop hu hx hk, drop_getD, show h + (lowN xs key - h) = lowN xs key by omega, List.length_drop]
  congr 1
  rw [decide_eq_decide]
  omega
theorem kid_take (hx : xs[h]? = some up) (hk : co key up < 0) : kidN (xs.take h) key = kidN xs key := by unfold kidN; rw [has_take hx hk, low_take hx hk]
theorem kid_le_h (hx : xs[h]? = some up) (hk : co key up < 0) : kidN xs key ≤ h := by
  have hl := low_le_h hx hk
  unfold kidN
  split
  · rename_i hb
    rcases Nat.eq_or_lt_of_le hl with e | e
    · have h1 := has_lt hb
      have h2 : co (xs.getD (lowN xs key) e0) key = 0 := by
        unfold hasB at hb
        rw [Bool.and_eq_true, decide_eq_true_eq, decide_eq_true_eq] at hb
        exact hb.2
      rw [e, at_getD hx] at h2
      have := co_neg key up
      omega
    · omega
  · exact hl
/-- of all keys that rise, the first that is above a key -/
theorem kid_of (hu : upB xs = true) {l : Nat} (hl : l ≤ xs.length) (h1 : ∀ t, t < l → co (xs.getD t e0) key ≤ 0) (h2 : l < xs.length → 0 < co (xs.getD l e0) key) : kidN xs key = l := by
  have hle := kid_le xs key
  rcases Nat.lt_trichotomy (kidN xs key) l with e | e | e
  · have h3 := kid_high hu (Nat.le_refl _) (show kidN xs key < xs.length by omega)
    have := h1 _ e
    omega
  · exact e
  · have := kid_low e
    have := h2 (by omega)
    omega
theorem kid_ge_h (hu : upB xs = true) (hx : xs[h]? = some up) (hk : ¬ co key up < 0) : h + 1 ≤ kidN xs key := by
  have hh := (List.getElem?_eq_some_iff.1 hx).1
  rcases Nat.lt_or_ge (kidN xs key) (h + 1) with hl | hl
  · have h1 := kid_high hu (show kidN xs key ≤ h by omega) hh
    rw [at_getD hx] at h1
    have := co_neg key up
    omega
  · exact hl
theorem kid_drop (hu : upB xs = true) (hx : xs[h]? = some up) (hk : ¬ co key up < 0) : kidN (xs.drop (h + 1)) key = kidN xs key - (h + 1) := by
  have hl := kid_ge_h hu hx hk
  have hle := kid_le xs key
  apply kid_of (up_drop hu _)
  · rw [List.length_drop]; omega
  · intro t ht
    rw [drop_getD]
    exact kid_low (by omega)
  · intro hlt
    rw [List.length_drop] at hlt
    rw [drop_getD, show h + 1 + (kidN xs key - (h + 1)) = kidN xs key by omega]
    exact kid_high hu (Nat.le_refl _) (by omega)
end
/-- what may come up at each state is a chain's next operation -/
def chains4B (md : Region.Mode) (ops : Array Oper) (a b c d : Nat) (p q r t : Nat → Nat) (ok : Nat → Nat → Nat → Nat → Bool) (L : Nat → Nat → Nat → Nat → Array Bool) : Bool :=
  (List.range (a + 1)).all fun i => (List.range (b + 1)).all fun j => (List.range (c + 1)).all fun k => (List.range (d + 1)).all fun l => !ok i j k l || decide (a + b + c + d ≤ i + j + k + l) ||
    (!(Region.ready md ops (L i j k l)).isEmpty && (Region.ready md ops (L i j k l)).all fun o => (decide (i < a) && o == p i && ok (i + 1) j k l) || (decide (j < b) && o == q j && ok i (j + 1) k l) || (decide (k < c) && o == r k && ok i j (k + 1) l) || (decide (l < d) && o == t l && ok i j k (l + 1)))
section
variable {P : Program} {md : Region.Mode} {ops : Array Oper} {Q : Exit → Act → World → Prop} {S : World → Prop}
/-- Chains of a, b, c, d operations; how far each is: i, j, k, l. A chain's next operation is to be shown only where it may come up. -/
theorem chains4 (a b c d fuel : Nat) (p q r t : Nat → Nat) (ok : Nat → Nat → Nat → Nat → Bool) (L : Nat → Nat → Nat → Nat → Array Bool) (Inv : Nat → Nat → Nat → Nat → Act → World → Prop)
    (hr : chains4B md ops a b c d p q r t ok L = true)
    (h1 : ∀ i, i < a → ∀ j, j ≤ b → ∀ k, k ≤ c → ∀ l, l ≤ d → (L i j k l).setIfInBounds (p i) true = L (i + 1) j k l)
    (h2 : ∀ i, i ≤ a → ∀ j, j < b → ∀ k, k ≤ c → ∀ l, l ≤ d → (L i j k l).setIfInBounds (q j) true = L i (j + 1) k l)
    (h3 : ∀ i, i ≤ a → ∀ j, j ≤ b → ∀ k, k < c → ∀ l, l ≤ d → (L i j k l).setIfInBounds (r k) true = L i j (k + 1) l)
    (h4 : ∀ i, i ≤ a → ∀ j, j ≤ b → ∀ k, k ≤ c → ∀ l, l < d → (L i j k l).setIfInBounds (t l) true = L i j k (l + 1))
    (s1 : ∀ i j k l x w, i < a → j ≤ b → k ≤ c → l ≤ d → ok (i + 1) j k l = true → Inv i j k l x w → S w → wpOp P ops Q (p i) (fun x' w' => S w' ∧ Inv (i + 1) j k l x' w') x w)
    (s2 : ∀ i j k l x w, i ≤ a → j < b → k ≤ c → l ≤ d → ok i (j + 1) k l = true → Inv i j k l x w → S w → wpOp P ops Q (q j) (fun x' w' => S w' ∧ Inv i (j + 1) k l x' w') x w)
    (s3 : ∀ i j k l x w, i ≤ a → j ≤ b → k < c → l ≤ d → ok i j (k + 1) l = true → Inv i j k l x w → S w → wpOp P ops Q (r k) (fun x' w' => S w' ∧ Inv i j (k + 1) l x' w') x w)
    (s4 : ∀ i j k l x w, i ≤ a → j ≤ b → k ≤ c → l < d → ok i j k (l + 1) = true → Inv i j k l x w → S w → wpOp P ops Q (t l) (fun x' w' => S w' ∧ Inv i j k (l + 1) x' w') x w)
    (fin : ∀ x w, Inv a b c d x w → S w → wpAnyH P md ops Q S fuel (L a b c d) x w) :
    ∀ (n i j k l : Nat) (x : Act) (w : World), i ≤ a → j ≤ b → k ≤ c → l ≤ d → n + (i + j + k + l) = a + b + c + d → ok i j k l = true → Inv i j k l x w → S w → wpAnyH P md ops Q S (fuel + n) (L i j k l) x w
  | 0, i, j, k, l, x, w, hi, hj, hk, hl, hn, hok, hI, hS => by
    obtain rfl : i = a := by omega
    obtain rfl : j = b := by omega
    obtain rfl : k = c := by omega
    obtain rfl : l = d := by omega
    exact fin x w hI hS
  | n + 1, i, j, k, l, x, w, hi, hj, hk, hl, hn, hok, hI, hS => by
    have hr' := hr
    unfold chains4B at hr'
    have hr1 := List.all_eq_true.1 (List.all_eq_true.1 (List.all_eq_true.1 (List.all_eq_true.1 hr' i (List.mem_range.2 (by omega))) j (List.mem_range.2 (by omega))) k (List.mem_range.2 (by omega))) l (List.mem_range.2 (by omega))
    rw [hok, decide_eq_false (show ¬ a + b + c + d ≤ i + j + k + l by omega), Bool.not_true, Bool.false_or, Bool.false_or, Bool.and_eq_true] at hr1
    have hne : Region.ready md ops (L i j k l) ≠ [] := fun e => by rw [e] at hr1; cases hr1.1
    have hrd : ∀ o ∈ Region.ready md ops (L i j k l), ((i < a ∧ o = p i) ∧ ok (i + 1) j k l = true) ∨ ((j < b ∧ o = q j) ∧ ok i (j + 1) k l = true) ∨ ((k < c ∧ o = r k) ∧ ok i j (k + 1) l = true) ∨ ((l < d ∧ o = t l) ∧ ok i j k (l + 1) = true) := fun o ho => by
      have := List.all_eq_true.1 hr1.2 o ho
      simpa [Bool.or_eq_true, Bool.and_eq_true, or_assoc] using this
    refine wpAnyH_ready (rs := Region.ready md ops (L i j k l)) rfl hne ?_
    intro o ho
    rcases hrd o ho with ⟨⟨h, rfl⟩, hc⟩ | ⟨⟨h, rfl⟩, hc⟩ | ⟨⟨h, rfl⟩, hc⟩ | ⟨⟨h, rfl⟩, hc⟩
    · refine wpOp_mono (fun x' w' h' => ⟨h'.1, ?_⟩) (s1 i j k l x w h hj hk hl hc hI hS)
      rw [h1 i h j hj k hk l hl]
      exact chains4 a b c d fuel p q r t ok L Inv hr h1 h2 h3 h4 s1 s2 s3 s4 fin n (i + 1) j k l x' w' h hj hk hl (by omega) hc h'.2 h'.1
    · refine wpOp_mono (fun x' w' h' => ⟨h'.1, ?_⟩) (s2 i j k l x w hi h hk hl hc hI hS)
      rw [h2 i hi j h k hk l hl]
      exact chains4 a b c d fuel p q r t ok L Inv hr h1 h2 h3 h4 s1 s2 s3 s4 fin n i (j + 1) k l x' w' hi h hk hl (by omega) hc h'.2 h'.1
    · refine wpOp_mono (fun x' w' h' => ⟨h'.1, ?_⟩) (s3 i j k l x w hi hj h hl hc hI hS)
      rw [h3 i hi j hj k h l hl]
      exact chains4 a b c d fuel p q r t ok L Inv hr h1 h2 h3 h4 s1 s2 s3 s4 fin n i j (k + 1) l x' w' hi hj h hl (by omega) hc h'.2 h'.1
    · refine wpOp_mono (fun x' w' h' => ⟨h'.1, ?_⟩) (s4 i j k l x w hi hj hk h hc hI hS)
      rw [h4 i hi j hj k hk l h]
      exact chains4 a b c d fuel p q r t ok L Inv hr h1 h2 h3 h4 s1 s2 s3 s4 fin n i j k (l + 1) x' w' hi hj hk h (by omega) hc h'.2 h'.1
end

theorem may_leaf {xs : List ByteArray} {n : Nat} (hu : upB xs = true) (hl : xs.length = n) : mayB true xs 0 n = true := by unfold mayB; rw [hu, hl]; simp
theorem may_inner {xs : List ByteArray} {n : Nat} (hu : upB xs = true) (hl : xs.length = n) : mayB false xs (n + 1) 0 = true := by unfold mayB; rw [hu, hl]; simp
end Go.Proofs.Ytiojjpmkiljngaa
