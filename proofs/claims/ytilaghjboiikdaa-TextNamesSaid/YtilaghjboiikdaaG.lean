/- The configs in which one number is too small, or too great. -/
import Derived.Test.YtilaghjboiikdaaE
namespace Go.Proofs.Ytilaghjboiikdaa
open Go.ChangeShapes Go.WideShapes Go.ChangeAt Go.RowKit

/-- the configs that bent tells, one number too small -/
def lowC (i : Nat) : Conf := match i with
  | 0 => ⟨0, 1, 1, 2, 1, 1, 0, 3⟩
  | 1 => ⟨1, 0, 1, 2, 1, 1, 0, 3⟩
  | 2 => ⟨1, 1, 0, 2, 1, 1, 0, 3⟩
  | 3 => ⟨1, 1, 1, 1, 1, 1, 0, 3⟩
  | 4 => ⟨1, 1, 1, 2, 0, 1, 0, 3⟩
  | 5 => ⟨1, 1, 1, 2, 1, 0, 0, 3⟩
  | 6 => ⟨1, 1, 1, 2, 1, 1, (-1), 3⟩
  | 7 => ⟨1, 1, 1, 2, 1, 1, 0, 2⟩
  | _ => ⟨1, 1, 1, 2, 1, 1, 0, 3⟩
/-- the configs that bent tells, one number too great -/
def highC (i : Nat) : Conf := match i with
  | 0 => ⟨7, 8, 64, 8, 1048576, 64, 256, 8⟩
  | 1 => ⟨6, 9, 64, 8, 1048576, 64, 256, 8⟩
  | 2 => ⟨6, 8, 65, 8, 1048576, 64, 256, 8⟩
  | 3 => ⟨6, 8, 64, 9, 1048576, 64, 256, 8⟩
  | 4 => ⟨6, 8, 64, 8, 1048577, 64, 256, 8⟩
  | 5 => ⟨6, 8, 64, 8, 1048576, 65, 256, 8⟩
  | 6 => ⟨6, 8, 64, 8, 1048576, 64, 257, 8⟩
  | 7 => ⟨6, 8, 64, 8, 1048576, 64, 256, 9⟩
  | _ => ⟨6, 8, 64, 8, 1048576, 64, 256, 8⟩
def lowRow : Array Value := #[.int .i64 0, .int .i64 1, .int .i64 1, .int .i64 2, .int .i64 1, .int .i64 1, .int .i64 0, .int .i64 3, .int .i64 1, .int .i64 0, .int .i64 1, .int .i64 2, .int .i64 1, .int .i64 1, .int .i64 0, .int .i64 3, .int .i64 1, .int .i64 1, .int .i64 0, .int .i64 2, .int .i64 1, .int .i64 1, .int .i64 0, .int .i64 3, .int .i64 1, .int .i64 1, .int .i64 1, .int .i64 1, .int .i64 1, .int .i64 1, .int .i64 0, .int .i64 3, .int .i64 1, .int .i64 1, .int .i64 1, .int .i64 2, .int .i64 0, .int .i64 1, .int .i64 0, .int .i64 3, .int .i64 1, .int .i64 1, .int .i64 1, .int .i64 2, .int .i64 1, .int .i64 0, .int .i64 0, .int .i64 3, .int .i64 1, .int .i64 1, .int .i64 1, .int .i64 2, .int .i64 1, .int .i64 1, .int .i64 (-1), .int .i64 3, .int .i64 1, .int .i64 1, .int .i64 1, .int .i64 2, .int .i64 1, .int .i64 1, .int .i64 0, .int .i64 2, .int .i64 1, .int .i64 1, .int .i64 1, .int .i64 2, .int .i64 1, .int .i64 1, .int .i64 0, .int .i64 3]
def highRow : Array Value := #[.int .i64 7, .int .i64 8, .int .i64 64, .int .i64 8, .int .i64 1048576, .int .i64 64, .int .i64 256, .int .i64 8, .int .i64 6, .int .i64 9, .int .i64 64, .int .i64 8, .int .i64 1048576, .int .i64 64, .int .i64 256, .int .i64 8, .int .i64 6, .int .i64 8, .int .i64 65, .int .i64 8, .int .i64 1048576, .int .i64 64, .int .i64 256, .int .i64 8, .int .i64 6, .int .i64 8, .int .i64 64, .int .i64 9, .int .i64 1048576, .int .i64 64, .int .i64 256, .int .i64 8, .int .i64 6, .int .i64 8, .int .i64 64, .int .i64 8, .int .i64 1048577, .int .i64 64, .int .i64 256, .int .i64 8, .int .i64 6, .int .i64 8, .int .i64 64, .int .i64 8, .int .i64 1048576, .int .i64 65, .int .i64 256, .int .i64 8, .int .i64 6, .int .i64 8, .int .i64 64, .int .i64 8, .int .i64 1048576, .int .i64 64, .int .i64 257, .int .i64 8, .int .i64 6, .int .i64 8, .int .i64 64, .int .i64 8, .int .i64 1048576, .int .i64 64, .int .i64 256, .int .i64 9, .int .i64 6, .int .i64 8, .int .i64 64, .int .i64 8, .int .i64 1048576, .int .i64 64, .int .i64 256, .int .i64 8]
theorem low_may : ∀ i, i < 9 → mayB (lowC i) = decide (i = 8) := by decide
theorem high_may : ∀ i, i < 9 → mayB (highC i) = decide (i = 8) := by decide

set_option maxRecDepth 100000 in
set_option maxHeartbeats 4000000 in
theorem bent_low (w : World) : Calls Try.prog 12 #[.int .i64 (-1)] w fun e w' => ∃ g, e = .returned (.slice (some ⟨g, 0, none⟩) 9 9) ∧ w.heap.size ≤ g ∧ w'.heap[g]? = some (.cells lowRow 28 (0, 0)) ∧ Below w.heap.size w w' := by
  go_enter Try.func12, Try.ntmps12
  go_wp2_with fail
  go_ret
  refine ⟨w.heap.size + 1, rfl, by omega, ?_, ((Below.refl _ _).alloc (Nat.le_refl _) _).alloc (by simp) _⟩
  exact heap_alloc2_new w _ _

set_option maxRecDepth 100000 in
set_option maxHeartbeats 4000000 in
theorem bent_high (w : World) : Calls Try.prog 12 #[.int .i64 1] w fun e w' => ∃ g, e = .returned (.slice (some ⟨g, 0, none⟩) 9 9) ∧ w.heap.size ≤ g ∧ w'.heap[g]? = some (.cells highRow 28 (0, 0)) ∧ Below w.heap.size w w' := by
  go_enter Try.func12, Try.ntmps12
  go_wp2_with fail
  go_ret
  refine ⟨w.heap.size + 1, rfl, by omega, ?_, ((Below.refl _ _).alloc (Nat.le_refl _) _).alloc (by simp) _⟩
  exact heap_alloc2_new w _ _
end Go.Proofs.Ytilaghjboiikdaa
