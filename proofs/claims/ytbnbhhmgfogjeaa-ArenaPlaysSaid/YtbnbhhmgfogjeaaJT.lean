/- A region that draws its order among three chains, and what follows them: not the rows of operations are gone through, but how far each chain is. -/
import Derived.Deep.RegionHeld3
namespace Go.Proofs.Ytbnbhhmgfogjeaa
set_option linter.unusedVariables false
/-- what may come up at each state is a chain's next operation -/
def chains3B (md : Region.Mode) (ops : Array Oper) (a b c : Nat) (p q r : Nat → Nat) (L : Nat → Nat → Nat → Array Bool) : Bool :=
  (List.range (a + 1)).all fun i => (List.range (b + 1)).all fun j => (List.range (c + 1)).all fun k => decide (a + b + c ≤ i + j + k) ||
    (!(Region.ready md ops (L i j k)).isEmpty && (Region.ready md ops (L i j k)).all fun o => (decide (i < a) && o == p i) || (decide (j < b) && o == q j) || (decide (k < c) && o == r k))
section
variable {P : Program} {md : Region.Mode} {ops : Array Oper} {Q : Exit → Act → World → Prop} {S : World → Prop}
/-- Chains of a, b, c operations; how far each is: i, j, k. -/
theorem chains3 (a b c fuel : Nat) (p q r : Nat → Nat) (L : Nat → Nat → Nat → Array Bool) (Inv : Nat → Nat → Nat → Act → World → Prop)
    (hr : chains3B md ops a b c p q r L = true)
    (h1 : ∀ i, i < a → ∀ j, j ≤ b → ∀ k, k ≤ c → (L i j k).setIfInBounds (p i) true = L (i + 1) j k)
    (h2 : ∀ i, i ≤ a → ∀ j, j < b → ∀ k, k ≤ c → (L i j k).setIfInBounds (q j) true = L i (j + 1) k)
    (h3 : ∀ i, i ≤ a → ∀ j, j ≤ b → ∀ k, k < c → (L i j k).setIfInBounds (r k) true = L i j (k + 1))
    (s1 : ∀ i j k x w, i < a → Inv i j k x w → S w → wpOp P ops Q (p i) (fun x' w' => S w' ∧ Inv (i + 1) j k x' w') x w)
    (s2 : ∀ i j k x w, j < b → Inv i j k x w → S w → wpOp P ops Q (q j) (fun x' w' => S w' ∧ Inv i (j + 1) k x' w') x w)
    (s3 : ∀ i j k x w, k < c → Inv i j k x w → S w → wpOp P ops Q (r k) (fun x' w' => S w' ∧ Inv i j (k + 1) x' w') x w)
    (fin : ∀ x w, Inv a b c x w → S w → wpAnyH P md ops Q S fuel (L a b c) x w) :
    ∀ (n i j k : Nat) (x : Act) (w : World), i ≤ a → j ≤ b → k ≤ c → n + (i + j + k) = a + b + c → Inv i j k x w → S w → wpAnyH P md ops Q S (fuel + n) (L i j k) x w
  | 0, i, j, k, x, w, hi, hj, hk, hn, hI, hS => by
    obtain rfl : i = a := by omega
    obtain rfl : j = b := by omega
    obtain rfl : k = c := by omega
    exact fin x w hI hS
  | n + 1, i, j, k, x, w, hi, hj, hk, hn, hI, hS => by
    have hr' := hr
    unfold chains3B at hr'
    have hr1 := List.all_eq_true.1 (List.all_eq_true.1 (List.all_eq_true.1 hr' i (List.mem_range.2 (by omega))) j (List.mem_range.2 (by omega))) k (List.mem_range.2 (by omega))
    rw [decide_eq_false (show ¬ a + b + c ≤ i + j + k by omega), Bool.false_or, Bool.and_eq_true] at hr1
    have hne : Region.ready md ops (L i j k) ≠ [] := fun e => by rw [e] at hr1; cases hr1.1
    have hrd : ∀ o ∈ Region.ready md ops (L i j k), (i < a ∧ o = p i) ∨ (j < b ∧ o = q j) ∨ (k < c ∧ o = r k) := fun o ho => by
      have := List.all_eq_true.1 hr1.2 o ho
      simpa [Bool.or_eq_true, Bool.and_eq_true, or_assoc] using this
    refine wpAnyH_ready (rs := Region.ready md ops (L i j k)) rfl hne ?_
    intro o ho
    rcases hrd o ho with ⟨h, rfl⟩ | ⟨h, rfl⟩ | ⟨h, rfl⟩
    · refine wpOp_mono (fun x' w' h' => ⟨h'.1, ?_⟩) (s1 i j k x w h hI hS)
      rw [h1 i h j hj k hk]
      exact chains3 a b c fuel p q r L Inv hr h1 h2 h3 s1 s2 s3 fin n (i + 1) j k x' w' h hj hk (by omega) h'.2 h'.1
    · refine wpOp_mono (fun x' w' h' => ⟨h'.1, ?_⟩) (s2 i j k x w h hI hS)
      rw [h2 i hi j h k hk]
      exact chains3 a b c fuel p q r L Inv hr h1 h2 h3 s1 s2 s3 fin n i (j + 1) k x' w' hi h hk (by omega) h'.2 h'.1
    · refine wpOp_mono (fun x' w' h' => ⟨h'.1, ?_⟩) (s3 i j k x w h hI hS)
      rw [h3 i hi j hj k h]
      exact chains3 a b c fuel p q r L Inv hr h1 h2 h3 s1 s2 s3 fin n i j (k + 1) x' w' hi hj h (by omega) h'.2 h'.1
end
end Go.Proofs.Ytbnbhhmgfogjeaa
