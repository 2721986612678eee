/- The examples that each statement of the first stage asks: they are as they are told. -/
import Derived.Test.YtlkmaompkkdacaaC
namespace Go.Proofs.Ytlkmaompkkdacaa
open Go.ChangeShapes Go.WideShapes Go.ChangeAt Go.RowKit

theorem isBytes_of {bs : List Int} (h : ∀ b ∈ bs, 0 ≤ b ∧ b < 256) : isBytes bs := by
  intro i hi
  rw [List.getD_eq_getElem?_getD, List.getElem?_eq_getElem hi]
  exact h _ (List.getElem_mem hi)

set_option maxHeartbeats 800000 in
theorem awake_any (w : World) : Calls Try.prog 11 #[] w fun e w' => e = .returned (.bool true) ∧ Below w.heap.size w w' := by
  have hrow : Row (w.alloc (.cells #[.int .u8 0, .int .u8 0, .int .u8 0, .int .u8 0] 5)) w.heap.size 4 4 [0, 0, 0, 0] :=
    World.ownsRow_lit w #[.int .u8 0, .int .u8 0, .int .u8 0, .int .u8 0] 4 (Nat.zero_le _) (by unfold maxLen; omega) rfl
  have hb0 : Below w.heap.size w (w.alloc (.cells #[.int .u8 0, .int .u8 0, .int .u8 0, .int .u8 0] 5)) := (Below.refl _ _).alloc (Nat.le_refl _) _
  have i1 : inB 4 1 2 = true := by decide
  have i2 : inB 4 1 4 = false := by decide
  have i3 : inB 4 0 4 = true := by decide
  have Hrow := Lib.hid hrow
  have I1 := Lib.hid i1
  have I2 := Lib.hid i2
  have I3 := Lib.hid i3
  clear hrow i1 i2 i3
  go_enter Try.func11, Try.ntmps11
  go_wp2_with fail
  refine (Put16_any _ _ _ _ _ _ [0, 0, 0, 0] Hrow.out (by omega) (by omega)).mono ?_
  rintro e w1 ⟨rfl, r1, g1⟩
  rw [I1.out]
  have b1 := below_grown hb0 g1 (by simp) (Nat.le_refl _)
  have R1 := Lib.hid r1
  clear r1
  go_wp2_with fail
  refine (Put32_any _ _ _ _ _ _ _ R1.out (by omega) (by omega)).mono ?_
  rintro e w2 ⟨rfl, r2, g2⟩
  rw [I2.out]
  have R2 : Hid (Row w2 w.heap.size 4 4 [0, 1, 2, 0]) := r2
  have b2 := below_grown b1 g2 b1.size (Nat.le_refl _)
  clear r2
  go_wp2_with fail
  refine (Get32_any _ _ _ _ _ _ R2.out.reads (isBytes_of (by decide)) (by omega)).mono ?_
  rintro e w3 ⟨rfl, rfl⟩
  rw [I3.out]
  go_wp2_with fail
  refine (parts_x _ _ (by omega) (by omega)).mono ?_
  rintro e w4 ⟨rfl, rfl⟩
  go_wp2_with fail
  have r3 : Row (w2.alloc (.cells #[.int .u8 0, .int .u8 1, .int .u8 2, .int .u8 0] 5)) w2.heap.size 4 4 [0, 1, 2, 0] :=
    World.ownsRow_lit w2 #[.int .u8 0, .int .u8 1, .int .u8 2, .int .u8 0] 4 (Nat.zero_le _) (by unfold maxLen; omega) rfl
  have hb3 := b2.alloc b2.size (.cells #[.int .u8 0, .int .u8 1, .int .u8 2, .int .u8 0] 5)
  refine (bytes_any _ _ _ _ _ _ [0, 1, 2, 0] [0, 1, 2, 0] _ (R2.out.below ((Below.refl _ _).alloc (Nat.le_refl _) _) R2.out.lt).reads r3.reads (by omega) (by omega)).mono ?_
  clear r3
  rintro e w3 ⟨rfl, d, rfl⟩
  rw [eqB_yes rfl]
  go_wp2_with fail
  refine (handle_x _ _ _ _ (by omega) (by omega) (by omega) (by omega) (by omega) (by omega)).mono ?_
  rintro e w4 ⟨rfl, rfl⟩
  go_wp2_with fail
  go_ret
  refine ⟨?_, ?_⟩
  · exact ret_bool (by decide)
  · exact hb3.trans ⟨rfl, rfl, rfl, Nat.le_refl _, fun _ _ => rfl⟩
end Go.Proofs.Ytlkmaompkkdacaa
