/- Nobody's model. -/
import Derived.Test.YtoinjnocopejjaaMV
import Derived.StillTailTactics
import Derived.OwnWalk
namespace Go.Proofs.Ytoinjnocopejjaa
open Go.ChangeShapes Go.WideShapes Go.ChangeAt Go.RowKit Go.Maps
set_option linter.unusedVariables false
set_option linter.unusedSimpArgs false
set_option maxRecDepth 100000 in
set_option maxHeartbeats 1600000 in
theorem tx_none (a b : Int) (w : World) : Calls Try.prog 15 #[.pointer none, .int .i64 a, .int .i64 b] w fun e w' => e = .returned (.tuple #[.int .i64 0, .int .u8 0, .int .i64 0]) ∧ w = w' := by
  go_enter Try.func15, Try.ntmps15
  go_wp2
  go_ret3
  exact ⟨rfl, rfl⟩
set_option maxRecDepth 100000 in
set_option maxHeartbeats 1600000 in
theorem versions_none (k : ByteArray) (w : World) : Calls Try.prog 20 #[.pointer none, .string k] w fun e w' => e = .returned (.slice none 0 0) ∧ w = w' := by
  go_enter Try.func20, Try.ntmps20
  go_wp2
  go_ret
  exact ⟨rfl, rfl⟩
set_option maxRecDepth 100000 in
set_option maxHeartbeats 1600000 in
theorem keys_none (w : World) : Calls Try.prog 21 #[.pointer none] w fun e w' => e = .returned (.slice none 0 0) ∧ w = w' := by
  go_enter Try.func21, Try.ntmps21
  go_wp2
  go_ret
  exact ⟨rfl, rfl⟩
set_option maxRecDepth 100000 in
set_option maxHeartbeats 1600000 in
theorem retained_none (w : World) : Calls Try.prog 22 #[.pointer none] w fun e w' => e = .returned (.int .i64 0) ∧ w = w' := by
  go_enter Try.func22, Try.ntmps22
  go_wp2
  go_ret
  exact ⟨rfl, rfl⟩
set_option maxRecDepth 100000 in
set_option maxHeartbeats 1600000 in
theorem active_none (w : World) : Calls Try.prog 23 #[.pointer none] w fun e w' => e = .returned (.int .i64 0) ∧ w = w' := by
  go_enter Try.func23, Try.ntmps23
  go_wp2
  go_ret
  exact ⟨rfl, rfl⟩
set_option maxRecDepth 100000 in
set_option maxHeartbeats 1600000 in
theorem clock_none (w : World) : Calls Try.prog 24 #[.pointer none] w fun e w' => e = .returned (.int .i64 0) ∧ w = w' := by
  go_enter Try.func24, Try.ntmps24
  go_wp2
  go_ret
  exact ⟨rfl, rfl⟩
set_option maxRecDepth 100000 in
set_option maxHeartbeats 1600000 in
theorem floor_none (w : World) : Calls Try.prog 25 #[.pointer none] w fun e w' => e = .returned (.int .i64 0) ∧ w = w' := by
  go_enter Try.func25, Try.ntmps25
  go_wp2
  go_ret
  exact ⟨rfl, rfl⟩
set_option maxRecDepth 100000 in
set_option maxHeartbeats 1600000 in
theorem copy_none (w : World) : Calls Try.prog 26 #[.pointer none] w fun e w' => e = .returned (.pointer none) ∧ w = w' := by
  go_enter Try.func26, Try.ntmps26
  go_wp2
  go_ret
  exact ⟨rfl, rfl⟩
set_option maxRecDepth 100000 in
set_option maxHeartbeats 1600000 in
theorem refused_none (w : World) : Calls Try.prog 19 #[.pointer none, .int .i64 0, .agg #[.int .u8 1, .int .i64 0, .string { data := #[] }, .string { data := #[] }, .string { data := #[] }, .int .i64 0, .int .u8 0]] w fun e w' => e = .returned (.int .i64 2) ∧ Below w.heap.size w w' := by
  have hb : Below w.heap.size w (w.alloc (.cells #[.int .u8 1, .int .i64 0, .string { data := #[] }, .string { data := #[] }, .string { data := #[] }, .int .i64 0, .int .u8 0] 36)) := (Below.refl _ _).alloc (Nat.le_refl _) _
  go_enter Try.func19, Try.ntmps19
  go_wp2
  go_ret
  exact ⟨rfl, hb⟩
set_option maxRecDepth 100000 in
set_option maxHeartbeats 1600000 in
theorem do_none (w : World) : Calls Try.prog 18 #[.pointer none, .int .i64 0, .agg #[.int .u8 1, .int .i64 0, .string { data := #[] }, .string { data := #[] }, .string { data := #[] }, .int .i64 0, .int .u8 0]] w fun e w' => e = .returned (.agg #[.int .i64 2, .bool false, .string { data := #[] }, .slice none 0 0]) ∧ Below w.heap.size w w' := by
  have hb : Below w.heap.size w ((w.alloc (.cells #[.int .u8 1, .int .i64 0, .string { data := #[] }, .string { data := #[] }, .string { data := #[] }, .int .i64 0, .int .u8 0] 36)).alloc (.cells #[.int .i64 0, .bool false, .string { data := #[] }, .slice none 0 0] 33)) := ((Below.refl _ _).alloc (Nat.le_refl _) _).alloc (by simp) _
  have HB := Lib.hid hb
  have K1 : Hid (Blk ((w.alloc (.cells #[.int .u8 1, .int .i64 0, .string { data := #[] }, .string { data := #[] }, .string { data := #[] }, .int .i64 0, .int .u8 0] 36)).alloc (.cells #[.int .i64 0, .bool false, .string { data := #[] }, .slice none 0 0] 33)) w.heap.size #[.int .u8 1, .int .i64 0, .string { data := #[] }, .string { data := #[] }, .string { data := #[] }, .int .i64 0, .int .u8 0] 36) := Lib.hid ((Blk.new w _ 36).alloc _)
  have K2 : Hid (Blk ((w.alloc (.cells #[.int .u8 1, .int .i64 0, .string { data := #[] }, .string { data := #[] }, .string { data := #[] }, .int .i64 0, .int .u8 0] 36)).alloc (.cells #[.int .i64 0, .bool false, .string { data := #[] }, .slice none 0 0] 33)) (w.heap.size + 1) #[.int .i64 0, .bool false, .string { data := #[] }, .slice none 0 0] 33) := Lib.hid (Blk.new2 _ _ 33 (by simp))
  clear hb
  go_enter Try.func18, Try.ntmps18
  go_upto_region 1 with (fail)
  generalize ((w.alloc (.cells #[.int .u8 1, .int .i64 0, .string { data := #[] }, .string { data := #[] }, .string { data := #[] }, .int .i64 0, .int .u8 0] 36)).alloc (.cells #[.int .i64 0, .bool false, .string { data := #[] }, .slice none 0 0] 33)) = w2 at *
  have z0 := K1.out.cell 0
  have z1 := K1.out.cell 1
  have z2 := K1.out.cell 2
  have z3 := K1.out.cell 3
  have z4 := K1.out.cell 4
  have z5 := K1.out.cell 5
  have z6 := K1.out.cell 6
  simp only [List.getElem?_toArray, List.getElem?_cons_zero, List.getElem?_cons_succ] at z0 z1 z2 z3 z4 z5 z6
  go_wp2_with fail
  refine (refused_none _).mono ?_
  rintro e w3 ⟨rfl, hb⟩
  have K3 := Lib.hid (K2.out.later hb)
  have HB3 := Lib.hid (stepB HB.out hb)
  clear hb z0 z1 z2 z3 z4 z5 z6
  have u0 := K3.out.cell 0
  have u1 := K3.out.cell 1
  have u2 := K3.out.cell 2
  have u3 := K3.out.cell 3
  simp only [List.getElem?_toArray, List.getElem?_cons_zero, List.getElem?_cons_succ] at u0 u1 u2 u3
  have f0 := K3.out.frozen 0
  have f1 := K3.out.frozen 1
  have f2 := K3.out.frozen 2
  have f3 := K3.out.frozen 3
  go_wp2
  refine bodyPost_ret (results_cell_row rfl _ _ (w.heap.size + 1) 33 #[.int .i64 2, .bool false, .string { data := #[] }, .slice none 0 0] (0, 0) _ rfl ((((K3.out.set (j := 0) _).set (j := 1) _).set (j := 2) _).set (j := 3) _) Try.underlying33 rfl (by kernel_rfl)) rfl ?_
  exact ⟨rfl, (((HB3.out.setCell (Nat.le_succ _) _).setCell (Nat.le_succ _) _).setCell (Nat.le_succ _) _).setCell (Nat.le_succ _) _⟩
set_option maxRecDepth 100000 in
set_option maxHeartbeats 1600000 in
theorem intent_none (k : ByteArray) (w : World) : Calls Try.prog 16 #[.pointer none, .string k] w fun e w' => e = .returned (.tuple #[.agg #[.int .i64 0, .int .i64 0, .bool false, .string { data := #[] }], .bool false]) ∧ Below w.heap.size w w' := by
  have hb : Below w.heap.size w (w.alloc (.cells #[.int .i64 0, .int .i64 0, .bool false, .string { data := #[] }] 26)) := (Below.refl _ _).alloc (Nat.le_refl _) _
  have HB := Lib.hid hb
  have KS : Hid (Blk (w.alloc (.cells #[.int .i64 0, .int .i64 0, .bool false, .string { data := #[] }] 26)) w.heap.size #[.int .i64 0, .int .i64 0, .bool false, .string { data := #[] }] 26) := Lib.hid (Blk.new w _ 26)
  clear hb
  go_enter Try.func16, Try.ntmps16
  go_upto_region 1 with (fail)
  generalize w.alloc (.cells #[.int .i64 0, .int .i64 0, .bool false, .string { data := #[] }] 26) = w2 at *
  have u0 := KS.out.cell 0
  have u1 := KS.out.cell 1
  have u2 := KS.out.cell 2
  have u3 := KS.out.cell 3
  simp only [List.getElem?_toArray, List.getElem?_cons_zero, List.getElem?_cons_succ] at u0 u1 u2 u3
  have f0 := KS.out.frozen 0
  have f1 := KS.out.frozen 1
  have f2 := KS.out.frozen 2
  have f3 := KS.out.frozen 3
  go_wp2
  refine bodyPost_ret (results_cell_row2 rfl _ _ w.heap.size 26 #[.int .i64 0, .int .i64 0, .bool false, .string { data := #[] }] (0, 0) _ rfl ((((KS.out.set (j := 0) _).set (j := 1) _).set (j := 2) _).set (j := 3) _) Try.underlying26 rfl (by kernel_rfl) rfl) rfl ?_
  exact ⟨rfl, (((HB.out.setCell (Nat.le_refl _) _).setCell (Nat.le_refl _) _).setCell (Nat.le_refl _) _).setCell (Nat.le_refl _) _⟩
end Go.Proofs.Ytoinjnocopejjaa
