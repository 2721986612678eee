/- The bytes of a number, the upper one first, stand as the numbers do. -/
import Derived.Test.YtlkmaompkkdacaaK0
namespace Go.Proofs.Ytlkmaompkkdacaa

/-- a number's k bytes -/
def dig : Nat → Int → List Int
  | 0, _ => []
  | k + 1, n => dig k (n / 256) ++ [n % 256]
theorem dig_len : ∀ (k : Nat) (n : Int), (dig k n).length = k
  | 0, _ => rfl
  | k + 1, n => by rw [dig, List.length_append, dig_len k]; rfl
theorem seg_putI (a : Nat) : ∀ (k : Nat) (bs : List Int) (n : Int), a + k ≤ bs.length → ((putI bs a k n).drop a).take k = dig k n
  | 0, _, _, _ => by simp [dig]
  | k + 1, bs, n, h => by
    rw [putI_succ, dig, ← seg_putI a k (bs.set (a + k) (n % 256)) (n / 256) (by simpa using (by omega : a + k ≤ bs.length))]
    have hl : (putI (bs.set (a + k) (n % 256)) a k (n / 256)).length = bs.length := by rw [putI_len]; simp
    rw [List.take_succ_eq_append_getElem (by rw [List.length_drop, hl]; omega)]
    congr 1
    rw [List.getElem_drop]
    have h1 := putI_other a (a + k) k (bs.set (a + k) (n % 256)) (n / 256) (.inr (Nat.le_refl _))
    rw [List.getD_eq_getElem?_getD, List.getD_eq_getElem?_getD, List.getElem?_eq_getElem (by rw [hl]; omega), List.getElem?_set_self (by omega)] at h1
    simpa using h1
theorem seg_other (a k b l : Nat) (bs : List Int) (n : Int) (h : b + l ≤ a ∨ a + k ≤ b) (hl : b + l ≤ bs.length) : ((putI bs a k n).drop b).take l = (bs.drop b).take l := by
  apply List.ext_getElem
  · simp [putI_len]
  · intro i h1 h2
    simp only [List.length_take, List.length_drop, putI_len] at h1
    rw [List.getElem_take, List.getElem_take, List.getElem_drop, List.getElem_drop]
    have := putI_other a (b + i) k bs n (by omega)
    rw [List.getD_eq_getElem?_getD, List.getD_eq_getElem?_getD, List.getElem?_eq_getElem (by rw [putI_len]; omega), List.getElem?_eq_getElem (by omega)] at this
    simpa using this

def toU8 (l : List Int) : List UInt8 := l.map fun b => UInt8.ofNat b.toNat
theorem less_snoc (x y : UInt8) : ∀ (l m : List UInt8), l.length = m.length → Op.bytesLess (l ++ [x]) (m ++ [y]) = (Op.bytesLess l m || (decide (l = m) && decide (x < y)))
  | [], [], _ => by simp [Op.bytesLess]
  | [], _ :: _, h => by simp at h
  | _ :: _, [], h => by simp at h
  | a :: l, b :: m, h => by
    have ih := less_snoc x y l m (by simpa using h)
    rw [List.cons_append, List.cons_append, Op.bytesLess, Op.bytesLess, ih]
    by_cases e : a = b
    · subst e; simp
    · have e2 : (a == b) = false := by rw [beq_eq_false_iff_ne]; exact e
      simp [e2, e]
theorem toU8_dig_succ (k : Nat) (n : Int) : toU8 (dig (k + 1) n) = toU8 (dig k (n / 256)) ++ [UInt8.ofNat (n % 256).toNat] := by unfold toU8; rw [dig, List.map_append]; rfl
theorem toU8_len (l : List Int) : (toU8 l).length = l.length := by simp [toU8]
theorem byte_lt (x y : Int) (hx : 0 ≤ x ∧ x < 256) (hy : 0 ≤ y ∧ y < 256) : (UInt8.ofNat x.toNat < UInt8.ofNat y.toNat) ↔ x < y := by
  rw [UInt8.lt_iff_toNat_lt, UInt8.toNat_ofNat', UInt8.toNat_ofNat']; omega
theorem byte_eq (x y : Int) (hx : 0 ≤ x ∧ x < 256) (hy : 0 ≤ y ∧ y < 256) : (UInt8.ofNat x.toNat = UInt8.ofNat y.toNat) ↔ x = y := by
  rw [← UInt8.toNat_inj, UInt8.toNat_ofNat', UInt8.toNat_ofNat']; omega
theorem dig_less : ∀ (k : Nat) (n m : Int), 0 ≤ n → n < 256 ^ k → 0 ≤ m → m < 256 ^ k →
    (Op.bytesLess (toU8 (dig k n)) (toU8 (dig k m)) = decide (n < m)) ∧ (toU8 (dig k n) = toU8 (dig k m) ↔ n = m)
  | 0, n, m, h1, h2, h3, h4 => by
    have : n = 0 := by simp at h2; omega
    have : m = 0 := by simp at h4; omega
    subst_vars
    simp [dig, toU8, Op.bytesLess]
  | k + 1, n, m, h1, h2, h3, h4 => by
    have hp : (256 : Int) ^ (k + 1) = 256 ^ k * 256 := Int.pow_succ 256 k
    have ih := dig_less k (n / 256) (m / 256) (by omega) (by omega) (by omega) (by omega)
    rw [toU8_dig_succ, toU8_dig_succ]
    have bl := byte_lt (n % 256) (m % 256) (by omega) (by omega)
    have be := byte_eq (n % 256) (m % 256) (by omega) (by omega)
    constructor
    · rw [less_snoc _ _ _ _ (by rw [toU8_len, toU8_len, dig_len, dig_len]), ih.1, Bool.eq_iff_iff]
      simp only [Bool.or_eq_true, Bool.and_eq_true, decide_eq_true_eq, bl, ih.2]
      omega
    · constructor
      · intro h
        have h5 := List.append_inj h (by rw [toU8_len, toU8_len, dig_len, dig_len])
        have h6 := ih.2.1 h5.1
        have h7 := be.1 (by simpa using h5.2)
        omega
      · rintro rfl; rfl
end Go.Proofs.Ytlkmaompkkdacaa
