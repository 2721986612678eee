/- What a number that was written reads as, and what lies beside it. -/
import Derived.Test.YtlkmaompkkdacaaF
namespace Go.Proofs.Ytlkmaompkkdacaa
theorem putI_other (a j : Nat) : ∀ (k : Nat) (bs : List Int) (m : Int), (j < a ∨ a + k ≤ j) → (putI bs a k m).getD j 0 = bs.getD j 0
  | 0, _, _, _ => rfl
  | k + 1, bs, m, h => by
    rw [putI_succ, putI_other a j k _ _ (by omega), List.getD_eq_getElem?_getD, List.getElem?_set_ne (by omega), ← List.getD_eq_getElem?_getD]
theorem getI_putI (a : Nat) : ∀ (k : Nat) (bs : List Int) (m : Int), a + k ≤ bs.length → 0 ≤ m → getI (putI bs a k m) a k = m % 256 ^ k
  | 0, _, m, _, _ => by simp [getI]
  | k + 1, bs, m, h, hm => by
    have hp : (256 : Int) ^ (k + 1) = 256 ^ k * 256 := Int.pow_succ 256 k
    rw [getI_succ, putI_succ, getI_putI a k _ _ (by simpa using (by omega : a + k ≤ bs.length)) (by omega), putI_other a (a + k) k _ _ (by omega)]
    rw [List.getD_eq_getElem?_getD, List.getElem?_set_self (by omega), Option.getD_some, hp, Int.mul_comm (256 ^ k) 256, Int.emod_def m (256 * 256 ^ k), ← Int.ediv_ediv_of_nonneg (by omega : (0 : Int) ≤ 256), Int.emod_def (m / 256), Int.mul_assoc]
    omega
theorem and_low (k : Nat) (m : Int) (M : Nat) (hM : M = 2 ^ k - 1) (h0 : 0 ≤ m) (h1 : m ≤ 18446744073709551615) (hk : M < 18446744073709551616) : bits BinOp.and IntKind.u64 m (M : Int) = m % ((M + 1 : Nat) : Int) := by
  obtain ⟨m, rfl⟩ := Int.eq_ofNat_of_zero_le h0
  rw [u64_and_nat _ _ (by omega) hk, hM, Nat.and_two_pow_sub_one_eq_mod]
  rw [show 2 ^ k - 1 + 1 = 2 ^ k from by have := Nat.two_pow_pos k; omega]
  push_cast; rfl
theorem and2 (m : Int) (h0 : 0 ≤ m) (h1 : m ≤ 18446744073709551615) : bits BinOp.and IntKind.u64 m 65535 = m % 65536 := and_low 16 m 65535 rfl h0 h1 (by decide)
theorem and4 (m : Int) (h0 : 0 ≤ m) (h1 : m ≤ 18446744073709551615) : bits BinOp.and IntKind.u64 m 4294967295 = m % 4294967296 := and_low 32 m 4294967295 rfl h0 h1 (by decide)
theorem and8 (m : Int) (h0 : 0 ≤ m) (h1 : m ≤ 18446744073709551615) : bits BinOp.and IntKind.u64 m 18446744073709551615 = m % 18446744073709551616 := and_low 64 m 18446744073709551615 rfl h0 h1 (by decide)
theorem back_yes (bs : List Int) (n a wd : Nat) (m : Int) (hl : bs.length = n) (h : a + wd ≤ n) (hm : 0 ≤ m) : getAt (putAt bs a wd m) a wd = m % 256 ^ wd := by
  have hi : inB n a wd = true := by unfold inB; exact decide_eq_true ⟨by omega, by omega⟩
  have e1 : putAt bs a wd m = putI bs a wd m := by unfold putAt; rw [hl, if_pos hi]; simp
  unfold getAt
  rw [e1, putI_len, hl, if_pos hi]
  simpa using getI_putI a wd bs m (by omega) hm
theorem back_no (bs : List Int) (n wd : Nat) (a1 m : Int) (hl : bs.length = n) (h : inB n a1 wd = false) : putAt bs a1 wd m = bs ∧ getAt bs a1 wd = 0 := by
  constructor
  · unfold putAt; rw [hl, if_neg (by rw [h]; simp)]
  · unfold getAt; rw [hl, if_neg (by rw [h]; simp)]
theorem put_other (bs : List Int) (n a wd j : Nat) (m : Int) (hl : bs.length = n) (h : a + wd ≤ n) (hj : j < a ∨ a + wd ≤ j) : (putAt bs a wd m).getD j 0 = bs.getD j 0 := by
  have hi : inB n a wd = true := by unfold inB; exact decide_eq_true ⟨by omega, by omega⟩
  have e1 : putAt bs a wd m = putI bs a wd m := by unfold putAt; rw [hl, if_pos hi]; simp
  rw [e1]; exact putI_other a j wd bs m hj

end Go.Proofs.Ytlkmaompkkdacaa
