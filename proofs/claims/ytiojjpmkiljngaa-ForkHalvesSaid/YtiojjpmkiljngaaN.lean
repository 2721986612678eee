/- Where a key stands among keys that rise. -/
import Derived.Test.YtiojjpmkiljngaaG
namespace Go.Proofs.Ytiojjpmkiljngaa
set_option linter.unusedVariables false
theorem place_lt {xs : List ByteArray} {key : ByteArray} {j : Nat} (hu : upB xs = true) (hj : j < xs.length) : co (xs.getD j e0) key < 0 ↔ j < lowN xs key := by
  constructor
  · intro h
    rcases Nat.lt_or_ge j (lowN xs key) with h1 | h1
    · exact h1
    · have h2 := low_at xs key (by omega)
      rcases Nat.eq_or_lt_of_le h1 with e | e
      · rw [e] at h2; omega
      · have h3 := rise hu (lowN xs key) j e hj
        have h4 := co_lt h3 h
        omega
  · intro h; exact low_below xs key j h
theorem place_eq {xs : List ByteArray} {key : ByteArray} {j : Nat} (hu : upB xs = true) (hj : j < xs.length) : co (xs.getD j e0) key = 0 ↔ hasB xs key = true ∧ j = lowN xs key := by
  constructor
  · intro h
    have h1 : ¬ j < lowN xs key := fun e => by have := low_below xs key j e; omega
    have h2 : lowN xs key < xs.length := by omega
    have h3 : j = lowN xs key := by
      rcases Nat.lt_or_ge (lowN xs key) j with e | e
      · have h4 := rise hu (lowN xs key) j e hj
        have h5 := co_lt_le h4 (Int.le_of_eq h)
        have h6 := low_at xs key h2
        omega
      · omega
    refine ⟨?_, h3⟩
    unfold hasB
    rw [decide_eq_true h2, ← h3, decide_eq_true h]; rfl
  · rintro ⟨h1, h2⟩
    unfold hasB at h1
    rw [Bool.and_eq_true, decide_eq_true_eq, decide_eq_true_eq] at h1
    rw [h2]; exact h1.2
end Go.Proofs.Ytiojjpmkiljngaa
