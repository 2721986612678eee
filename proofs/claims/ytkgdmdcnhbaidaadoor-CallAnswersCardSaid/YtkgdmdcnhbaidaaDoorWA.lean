/- The examples. -/
import Derived.Test.YtkgdmdcnhbaidaaDoorFI
import Derived.Test.YtkgdmdcnhbaidaaDoorSA
namespace Go.Proofs.YtkgdmdcnhbaidaaDoor
open Go.ChangeShapes Go.WideShapes Go.ChangeAt Go.RowKit
set_option linter.unusedVariables false
set_option linter.unusedSimpArgs false

theorem p1 : parV { data := #[115, 99, 97, 110, 32, 50, 32, 45, 32, 54, 50, 32, 53] } = .tuple #[.agg #[.int .u8 5, .int .i64 2, .string { data := #[] }, .string { data := #[98] }, .string { data := #[] }, .int .i64 5, .int .u8 0], .int .i64 0] := by kernel_rfl
theorem p2 : parV { data := #[103, 101, 116, 32, 48, 49, 32, 54, 49] } = .tuple #[.agg #[.int .u8 0, .int .i64 0, .string { data := #[] }, .string { data := #[] }, .string { data := #[] }, .int .i64 0, .int .u8 0], .int .i64 4] := by kernel_rfl
theorem p3 : parV { data := #[103, 101, 116, 32, 49] } = .tuple #[.agg #[.int .u8 0, .int .i64 0, .string { data := #[] }, .string { data := #[] }, .string { data := #[] }, .int .i64 0, .int .u8 0], .int .i64 4] := by kernel_rfl
theorem p4 : parV { data := #[98, 101, 103, 105, 110, 32] } = .tuple #[.agg #[.int .u8 0, .int .i64 0, .string { data := #[] }, .string { data := #[] }, .string { data := #[] }, .int .i64 0, .int .u8 0], .int .i64 4] := by kernel_rfl
theorem h1 : showP (3, 1, { data := #[97] }, emp, emp, 0, 0) = { data := #[112, 117, 116, 32, 49, 32, 54, 49, 32, 45] } := by kernel_rfl
theorem h2 : showP (1, 0, { data := #[97] }, emp, emp, 0, 0) = { data := #[98, 101, 103, 105, 110] } := by kernel_rfl
theorem h1s : (joinW (showL (3, 1, { data := #[97] }, emp, emp, 0, 0))).size ≤ 140737488355328 := by decide +kernel
theorem h2s : (joinW (showL (1, 0, { data := #[97] }, emp, emp, 0, 0))).size ≤ 140737488355328 := by decide +kernel
theorem t1 : joinW (tellL 0 true { data := #[120] } []) = { data := #[48, 32, 49, 32, 55, 56] } := by kernel_rfl
theorem t2 : joinW (tellL 33 false emp []) = { data := #[51, 51, 32, 48, 32, 45] } := by kernel_rfl
def cfW : Conf := ⟨1, 1, 1, 2, 1, 2, 1, 3⟩
theorem f1 : fitC cfW (2, 0, { data := #[97, 98, 99] }, emp, emp, 0, 0) = false := by kernel_rfl
end Go.Proofs.YtkgdmdcnhbaidaaDoor
