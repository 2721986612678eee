/- Cuts of texts. -/
import Derived.Test.YtilaghjboiikdaaD
import Derived.Test.YtilaghjboiikdaaL3
namespace Go.Proofs.Ytilaghjboiikdaa
open Go.ChangeShapes Go.WideShapes Go.ChangeAt Go.RowKit

theorem u8_int_nq {x y : UInt8} (h : x ≠ y) : ((x.toNat : Int) != (y.toNat : Int)) = true := by
  rw [bne_iff_ne]; intro e; exact h (UInt8.toNat_inj.1 (by omega))
theorem sl_to (b : ByteArray) (p : Nat) (h : p ≤ b.size) (W : World) : (Instr.slice 9 (.string b) none (some (.int .i64 (p : Int))) none).run Try.prog W = .ok (.string (b.extract 0 p)) W := by
  rw [run_slice_string_to_if W 9 b .i64 _ Try.underlying9, if_pos ⟨by omega, by omega⟩]; simp
theorem sl_from (b : ByteArray) (p : Nat) (i : Int) (hi : i = (p : Int)) (h : p ≤ b.size) (W : World) : (Instr.slice 9 (.string b) (some (.int .i64 i)) none none).run Try.prog W = .ok (.string (b.extract p b.size)) W := by
  subst hi
  rw [run_slice_string_from_if W 9 b .i64 _ Try.underlying9, if_pos ⟨by omega, by omega⟩]; simp
theorem sl_mid (b : ByteArray) (p q : Nat) (j : Int) (hj : j = (q : Int)) (h : p ≤ q) (h2 : q ≤ b.size) (W : World) : (Instr.slice 9 (.string b) (some (.int .i64 (p : Int))) (some (.int .i64 j)) none).run Try.prog W = .ok (.string (b.extract p q)) W := by
  subst hj
  rw [run_slice_string_if W 9 b .i64 .i64 _ _ Try.underlying9, if_pos ⟨by omega, by omega⟩, if_pos ⟨by omega, by omega⟩]; simp
theorem bl_extract (s : ByteArray) (a b : Nat) : bl (s.extract a b) = ((bl s).drop a).take (b - a) := Lib.extract_data s a b
theorem size_extract (s : ByteArray) (a b : Nat) (h : b ≤ s.size) : (s.extract a b).size = b - a := by rw [← bl_len, bl_extract, List.length_take, List.length_drop, bl_len]; omega

end Go.Proofs.Ytilaghjboiikdaa
