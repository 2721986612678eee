/- bits.Handle, bits.Parts, and the document's. -/
import Derived.Test.YtbncpfkoeahhpaaSl
import Derived.Laws.BitsAllLaws
namespace Go.Proofs.Ytbncpfkoeahhpaa
open Go.ChangeShapes Go.WideShapes Go.ChangeAt Go.RowKit
set_option linter.unusedVariables false
set_option linter.unusedSimpArgs false

theorem gor_add (k a b : Nat) (h : b < 2 ^ k) : (a * 2 ^ k) ||| b = a * 2 ^ k + b := by
  rw [Nat.mul_comm, Nat.two_pow_add_eq_or_of_lt h]
theorem gor_u64 (k P : Nat) (a b PI : Int) (hPI : PI = (P : Int)) (hP : P = 2 ^ k) (ha : 0 ≤ a) (hb : 0 ≤ b) (hb' : b < PI) (hs : a * PI + b < 18446744073709551616) : bits BinOp.or IntKind.u64 (a * PI) b = a * PI + b := by
  subst hPI
  obtain ⟨a, rfl⟩ := Int.eq_ofNat_of_zero_le ha
  obtain ⟨b, rfl⟩ := Int.eq_ofNat_of_zero_le hb
  have h3 : (a : Int) * (P : Int) = ((a * P : Nat) : Int) := by push_cast; rfl
  rw [h3] at hs ⊢
  have h1 : b < 2 ^ k := by rw [← hP]; omega
  have h4 : (a * P) ||| b = a * P + b := by subst hP; exact gor_add k a b h1
  rw [u64_or_nat _ _ (by omega) (by omega), h4]; push_cast; rfl
theorem ret_any {v v' : Value} (h : v = v') : Ending.returned v = .returned v' := by rw [h]

theorem parts_x (h : Int) (w : World) (h0 : 0 ≤ h) (h1 : h ≤ 18446744073709551615) : Calls Try.prog 55 #[.int .u64 h] w fun e w' => e = .returned (.tuple #[.int .u16 (h / 281474976710656), .int .u16 (h / 4294967296 % 65536), .int .u32 (h % 4294967296)]) ∧ w = w' := by
  go_enter Try.func55, Try.ntmps55
  go_wp2
  go_ret3
  exact ⟨ret_any (by simp [IntKind.wrap_u16]), rfl⟩
theorem handle_x (p o g : Int) (w : World) (h0 : 0 ≤ p) (h1 : p ≤ 65535)  (h2 : 0 ≤ o) (h3 : o ≤ 65535) (h4 : 0 ≤ g) (h5 : g ≤ 4294967295) : Calls Try.prog 47 #[.int .u16 p, .int .u16 o, .int .u32 g] w fun e w' => e = .returned (.int .u64 ((p * 65536 + o) * 4294967296 + g)) ∧ w = w' := by
  have e1 : Hid (bits BinOp.or IntKind.u64 (bits BinOp.or IntKind.u64 (p * 281474976710656) (o * 4294967296)) g = (p * 65536 + o) * 4294967296 + g) := by
    show _ = _
    rw [gor_u64 48 281474976710656 p (o * 4294967296) 281474976710656 rfl (by decide) h0 (by omega) (by omega) (by omega)]
    rw [show p * 281474976710656 + o * 4294967296 = (p * 65536 + o) * 4294967296 from by omega]
    rw [gor_u64 32 4294967296 (p * 65536 + o) g 4294967296 rfl (by decide) (by omega) (by omega) (by omega) (by omega)]
  go_enter Try.func47, Try.ntmps47
  go_wp2
  go_ret
  exact ⟨ret_any (congrArg (Value.int .u64) e1.out), rfl⟩

end Go.Proofs.Ytbncpfkoeahhpaa
