/- The examples. -/
import Derived.Test.YtkgdmdcnhbaidaaDoorWA
namespace Go.Proofs.YtkgdmdcnhbaidaaDoor
open Go.ChangeShapes Go.WideShapes Go.ChangeAt Go.RowKit
set_option linter.unusedVariables false
set_option linter.unusedSimpArgs false

theorem c_p1 (W : World) (h : Gl W) : Calls Tryd.prog 11 #[.string { data := #[115, 99, 97, 110, 32, 50, 32, 45, 32, 54, 50, 32, 53] }] W fun e w' => e = .returned (.tuple #[.agg #[.int .u8 5, .int .i64 2, .string { data := #[] }, .string { data := #[98] }, .string { data := #[] }, .int .i64 5, .int .u8 0], .int .i64 0]) ∧ Below W.heap.size W w' := by
  have h2 := parse_any { data := #[115, 99, 97, 110, 32, 50, 32, 45, 32, 54, 50, 32, 53] } W (by decide) h
  rw [p1] at h2
  exact h2
theorem c_p2 (W : World) (h : Gl W) : Calls Tryd.prog 11 #[.string { data := #[103, 101, 116, 32, 48, 49, 32, 54, 49] }] W fun e w' => e = .returned (.tuple #[.agg #[.int .u8 0, .int .i64 0, .string { data := #[] }, .string { data := #[] }, .string { data := #[] }, .int .i64 0, .int .u8 0], .int .i64 4]) ∧ Below W.heap.size W w' := by
  have h2 := parse_any { data := #[103, 101, 116, 32, 48, 49, 32, 54, 49] } W (by decide) h
  rw [p2] at h2
  exact h2
theorem c_p3 (W : World) (h : Gl W) : Calls Tryd.prog 11 #[.string { data := #[103, 101, 116, 32, 49] }] W fun e w' => e = .returned (.tuple #[.agg #[.int .u8 0, .int .i64 0, .string { data := #[] }, .string { data := #[] }, .string { data := #[] }, .int .i64 0, .int .u8 0], .int .i64 4]) ∧ Below W.heap.size W w' := by
  have h2 := parse_any { data := #[103, 101, 116, 32, 49] } W (by decide) h
  rw [p3] at h2
  exact h2
theorem c_p4 (W : World) (h : Gl W) : Calls Tryd.prog 11 #[.string { data := #[98, 101, 103, 105, 110, 32] }] W fun e w' => e = .returned (.tuple #[.agg #[.int .u8 0, .int .i64 0, .string { data := #[] }, .string { data := #[] }, .string { data := #[] }, .int .i64 0, .int .u8 0], .int .i64 4]) ∧ Below W.heap.size W w' := by
  have h2 := parse_any { data := #[98, 101, 103, 105, 110, 32] } W (by decide) h
  rw [p4] at h2
  exact h2
theorem c_h1 (W : World) (h : Gl W) : Calls Tryd.prog 12 #[.agg #[.int .u8 3, .int .i64 1, .string { data := #[97] }, .string { data := #[] }, .string { data := #[] }, .int .i64 0, .int .u8 0]] W fun e w' => e = .returned (.string { data := #[112, 117, 116, 32, 49, 32, 54, 49, 32, 45] }) ∧ Below W.heap.size W w' := by
  have h2 := show_any (3, 1, { data := #[97] }, emp, emp, 0, 0) W ⟨by decide, by decide, by decide, by decide, by decide, by decide, by decide⟩ h h1s
  rw [h1] at h2
  exact h2
theorem c_h2 (W : World) (h : Gl W) : Calls Tryd.prog 12 #[.agg #[.int .u8 1, .int .i64 0, .string { data := #[97] }, .string { data := #[] }, .string { data := #[] }, .int .i64 0, .int .u8 0]] W fun e w' => e = .returned (.string { data := #[98, 101, 103, 105, 110] }) ∧ Below W.heap.size W w' := by
  have h2' := show_any (1, 0, { data := #[97] }, emp, emp, 0, 0) W ⟨by decide, by decide, by decide, by decide, by decide, by decide, by decide⟩ h h2s
  rw [h2] at h2'
  exact h2'
theorem c_t1 (W : World) (h : Gl W) : Calls Tryd.prog 22 #[.agg #[.int .i64 0, .bool true, .string { data := #[120] }, .slice none 0 0]] W fun e w' => e = .returned (.string { data := #[48, 32, 49, 32, 55, 56] }) ∧ Below W.heap.size W w' := by
  have h2 := tell_any 0 true { data := #[120] } none 0 0 [] W (by decide) (by decide) (fun p hp => by cases hp) (RSl.nil _ _) (by decide) h (by rw [t1]; decide)
  rw [t1] at h2
  exact h2
theorem c_t2 (W : World) (h : Gl W) : Calls Tryd.prog 22 #[.agg #[.int .i64 33, .bool false, .string { data := #[] }, .slice none 0 0]] W fun e w' => e = .returned (.string { data := #[51, 51, 32, 48, 32, 45] }) ∧ Below W.heap.size W w' := by
  have h2 := tell_any 33 false emp none 0 0 [] W (by decide) (by decide) (fun p hp => by cases hp) (RSl.nil _ _) (by decide) h (by rw [t2]; decide)
  rw [t2] at h2
  exact h2
theorem c_f1 (W : World) (h : Gl W) : Calls Tryd.prog 25 #[.agg #[.int .i64 1, .int .i64 1, .int .i64 1, .int .i64 2, .int .i64 1, .int .i64 2, .int .i64 1, .int .i64 3], .agg #[.int .u8 2, .int .i64 0, .string { data := #[97, 98, 99] }, .string { data := #[] }, .string { data := #[] }, .int .i64 0, .int .u8 0]] W fun e w' => e = .returned (.int .i64 32) ∧ Below W.heap.size W w' := by
  have h2 := fits_any cfW 2 0 { data := #[97, 98, 99] } emp emp 0 0 W (by decide) (by unfold maxLen; decide) (by unfold maxLen; decide) (by unfold maxLen; decide) h
  rw [f1] at h2
  exact h2
set_option maxRecDepth 100000 in
set_option maxHeartbeats 16000000 in
theorem works_any (w0 : World) (hg : Gl w0) : Calls Tryd.prog 10 #[] w0 fun e w' => e = .returned (.bool true) ∧ Below w0.heap.size w0 w' := by
  have HG0 : Hid (Gl w0) := hg
  have HB0 : Hid (Below w0.heap.size w0 w0) := Below.refl _ _
  clear hg
  go_enter Tryd.func10, Tryd.ntmps10
  go_wp2_with fail
  refine (c_p1 w0 HG0.out).mono ?_
  rintro e w1 ⟨rfl, hb⟩
  have HG1 := Lib.hid (HG0.out.later hb)
  have HB1 := Lib.hid (stepB HB0.out hb)
  clear hb
  have hb : Below w1.heap.size w1 (w1.alloc (.cells #[.int .u8 5, .int .i64 2, .string { data := #[] }, .string { data := #[98] }, .string { data := #[] }, .int .i64 5, .int .u8 0] 24)) := (Below.refl _ _).alloc (Nat.le_refl _) _
  have HG2 := Lib.hid (HG1.out.later hb)
  have HB2 := Lib.hid (stepB HB1.out hb)
  have HX1 : Hid (Blk (w1.alloc (.cells #[.int .u8 5, .int .i64 2, .string { data := #[] }, .string { data := #[98] }, .string { data := #[] }, .int .i64 5, .int .u8 0] 24)) w1.heap.size #[.int .u8 5, .int .i64 2, .string { data := #[] }, .string { data := #[98] }, .string { data := #[] }, .int .i64 5, .int .u8 0] 24) := Blk.new _ _ _
  clear hb
  go_upto_region 2 with (fail)
  generalize w1.alloc (.cells #[.int .u8 5, .int .i64 2, .string { data := #[] }, .string { data := #[98] }, .string { data := #[] }, .int .i64 5, .int .u8 0] 24) = w2 at *
  obtain ⟨qHX1, hq⟩ : ∃ x, w1.heap.size = x := ⟨_, rfl⟩
  rw [hq] at HX1 ⊢
  clear hq
  have hb : Below w2.heap.size w2 (w2.alloc (.cells #[.int .u8 5, .int .i64 2, .string { data := #[] }, .string { data := #[98] }, .string { data := #[] }, .int .i64 5, .int .u8 0] 24)) := (Below.refl _ _).alloc (Nat.le_refl _) _
  have HG3 := Lib.hid (HG2.out.later hb)
  have HB3 := Lib.hid (stepB HB2.out hb)
  replace HX1 := Lib.hid (HX1.out.later hb)
  have HX3 : Hid (Blk (w2.alloc (.cells #[.int .u8 5, .int .i64 2, .string { data := #[] }, .string { data := #[98] }, .string { data := #[] }, .int .i64 5, .int .u8 0] 24)) w2.heap.size #[.int .u8 5, .int .i64 2, .string { data := #[] }, .string { data := #[98] }, .string { data := #[] }, .int .i64 5, .int .u8 0] 24) := Blk.new _ _ _
  clear hb
  go_upto_region 3 with (fail)
  generalize w2.alloc (.cells #[.int .u8 5, .int .i64 2, .string { data := #[] }, .string { data := #[98] }, .string { data := #[] }, .int .i64 5, .int .u8 0] 24) = w3 at *
  obtain ⟨qHX3, hq⟩ : ∃ x, w2.heap.size = x := ⟨_, rfl⟩
  rw [hq] at HX3 ⊢
  clear hq
  go_wp2_with fail
  refine (c_p2 w3 HG3.out).mono ?_
  rintro e w4 ⟨rfl, hb⟩
  have HG4 := Lib.hid (HG3.out.later hb)
  have HB4 := Lib.hid (stepB HB3.out hb)
  replace HX1 := Lib.hid (HX1.out.later hb)
  replace HX3 := Lib.hid (HX3.out.later hb)
  clear hb
  have hb : Below w4.heap.size w4 (w4.alloc (.cells #[.int .u8 0, .int .i64 0, .string { data := #[] }, .string { data := #[] }, .string { data := #[] }, .int .i64 0, .int .u8 0] 24)) := (Below.refl _ _).alloc (Nat.le_refl _) _
  have HG5 := Lib.hid (HG4.out.later hb)
  have HB5 := Lib.hid (stepB HB4.out hb)
  replace HX1 := Lib.hid (HX1.out.later hb)
  replace HX3 := Lib.hid (HX3.out.later hb)
  clear hb
  go_upto_region 4 with (fail)
  generalize w4.alloc (.cells #[.int .u8 0, .int .i64 0, .string { data := #[] }, .string { data := #[] }, .string { data := #[] }, .int .i64 0, .int .u8 0] 24) = w5 at *
  go_wp2_with fail
  refine (c_p3 w5 HG5.out).mono ?_
  rintro e w6 ⟨rfl, hb⟩
  have HG6 := Lib.hid (HG5.out.later hb)
  have HB6 := Lib.hid (stepB HB5.out hb)
  replace HX1 := Lib.hid (HX1.out.later hb)
  replace HX3 := Lib.hid (HX3.out.later hb)
  clear hb
  have hb : Below w6.heap.size w6 (w6.alloc (.cells #[.int .u8 0, .int .i64 0, .string { data := #[] }, .string { data := #[] }, .string { data := #[] }, .int .i64 0, .int .u8 0] 24)) := (Below.refl _ _).alloc (Nat.le_refl _) _
  have HG7 := Lib.hid (HG6.out.later hb)
  have HB7 := Lib.hid (stepB HB6.out hb)
  replace HX1 := Lib.hid (HX1.out.later hb)
  replace HX3 := Lib.hid (HX3.out.later hb)
  clear hb
  go_upto_region 5 with (fail)
  generalize w6.alloc (.cells #[.int .u8 0, .int .i64 0, .string { data := #[] }, .string { data := #[] }, .string { data := #[] }, .int .i64 0, .int .u8 0] 24) = w7 at *
  go_wp2_with fail
  refine (c_p4 w7 HG7.out).mono ?_
  rintro e w8 ⟨rfl, hb⟩
  have HG8 := Lib.hid (HG7.out.later hb)
  have HB8 := Lib.hid (stepB HB7.out hb)
  replace HX1 := Lib.hid (HX1.out.later hb)
  replace HX3 := Lib.hid (HX3.out.later hb)
  clear hb
  have hb : Below w8.heap.size w8 (w8.alloc (.cells #[.int .u8 0, .int .i64 0, .string { data := #[] }, .string { data := #[] }, .string { data := #[] }, .int .i64 0, .int .u8 0] 24)) := (Below.refl _ _).alloc (Nat.le_refl _) _
  have HG9 := Lib.hid (HG8.out.later hb)
  have HB9 := Lib.hid (stepB HB8.out hb)
  replace HX1 := Lib.hid (HX1.out.later hb)
  replace HX3 := Lib.hid (HX3.out.later hb)
  clear hb
  go_upto_region 6 with (fail)
  generalize w8.alloc (.cells #[.int .u8 0, .int .i64 0, .string { data := #[] }, .string { data := #[] }, .string { data := #[] }, .int .i64 0, .int .u8 0] 24) = w9 at *
  have hb : Below w9.heap.size w9 (w9.alloc (.cells #[.int .i64 1, .int .i64 1, .int .i64 1, .int .i64 2, .int .i64 1, .int .i64 2, .int .i64 1, .int .i64 3] 52)) := (Below.refl _ _).alloc (Nat.le_refl _) _
  have HG10 := Lib.hid (HG9.out.later hb)
  have HB10 := Lib.hid (stepB HB9.out hb)
  replace HX1 := Lib.hid (HX1.out.later hb)
  replace HX3 := Lib.hid (HX3.out.later hb)
  have HXC : Hid (Blk (w9.alloc (.cells #[.int .i64 1, .int .i64 1, .int .i64 1, .int .i64 2, .int .i64 1, .int .i64 2, .int .i64 1, .int .i64 3] 52)) w9.heap.size #[.int .i64 1, .int .i64 1, .int .i64 1, .int .i64 2, .int .i64 1, .int .i64 2, .int .i64 1, .int .i64 3] 52) := Blk.new _ _ _
  clear hb
  go_upto_region 7 with (fail)
  generalize w9.alloc (.cells #[.int .i64 1, .int .i64 1, .int .i64 1, .int .i64 2, .int .i64 1, .int .i64 2, .int .i64 1, .int .i64 3] 52) = w10 at *
  obtain ⟨qHXC, hq⟩ : ∃ x, w9.heap.size = x := ⟨_, rfl⟩
  rw [hq] at HXC ⊢
  clear hq
  have x0 := HX1.out.cell 0
  have y0 := HX3.out.cell 0
  have x1 := HX1.out.cell 1
  have y1 := HX3.out.cell 1
  have x2 := HX1.out.cell 2
  have y2 := HX3.out.cell 2
  have x3 := HX1.out.cell 3
  have y3 := HX3.out.cell 3
  have x4 := HX1.out.cell 4
  have y4 := HX3.out.cell 4
  have x5 := HX1.out.cell 5
  have y5 := HX3.out.cell 5
  have x6 := HX1.out.cell 6
  have y6 := HX3.out.cell 6
  simp only [List.getElem?_toArray, List.getElem?_cons_zero, List.getElem?_cons_succ] at x0 y0 x1 y1 x2 y2 x3 y3 x4 y4 x5 y5 x6 y6
  go_wp2_with fail
  refine (c_h1 w10 HG10.out).mono ?_
  rintro e w11 ⟨rfl, hb⟩
  have HG11 := Lib.hid (HG10.out.later hb)
  have HB11 := Lib.hid (stepB HB10.out hb)
  replace HX1 := Lib.hid (HX1.out.later hb)
  replace HX3 := Lib.hid (HX3.out.later hb)
  replace HXC := Lib.hid (HXC.out.later hb)
  clear hb
  clear x0 y0 x1 y1 x2 y2 x3 y3 x4 y4 x5 y5 x6 y6
  go_wp2_with fail
  refine (c_h2 w11 HG11.out).mono ?_
  rintro e w12 ⟨rfl, hb⟩
  have HG12 := Lib.hid (HG11.out.later hb)
  have HB12 := Lib.hid (stepB HB11.out hb)
  replace HX1 := Lib.hid (HX1.out.later hb)
  replace HX3 := Lib.hid (HX3.out.later hb)
  replace HXC := Lib.hid (HXC.out.later hb)
  clear hb
  go_wp2_with fail
  refine (c_t1 w12 HG12.out).mono ?_
  rintro e w13 ⟨rfl, hb⟩
  have HG13 := Lib.hid (HG12.out.later hb)
  have HB13 := Lib.hid (stepB HB12.out hb)
  replace HX1 := Lib.hid (HX1.out.later hb)
  replace HX3 := Lib.hid (HX3.out.later hb)
  replace HXC := Lib.hid (HXC.out.later hb)
  clear hb
  go_wp2_with fail
  refine (c_t2 w13 HG13.out).mono ?_
  rintro e w14 ⟨rfl, hb⟩
  have HG14 := Lib.hid (HG13.out.later hb)
  have HB14 := Lib.hid (stepB HB13.out hb)
  replace HX1 := Lib.hid (HX1.out.later hb)
  replace HX3 := Lib.hid (HX3.out.later hb)
  replace HXC := Lib.hid (HXC.out.later hb)
  clear hb
  have z0 := HXC.out.cell 0
  have z1 := HXC.out.cell 1
  have z2 := HXC.out.cell 2
  have z3 := HXC.out.cell 3
  have z4 := HXC.out.cell 4
  have z5 := HXC.out.cell 5
  have z6 := HXC.out.cell 6
  have z7 := HXC.out.cell 7
  simp only [List.getElem?_toArray, List.getElem?_cons_zero, List.getElem?_cons_succ] at z0 z1 z2 z3 z4 z5 z6 z7
  go_wp2_with fail
  refine (c_f1 w14 HG14.out).mono ?_
  rintro e w15 ⟨rfl, hb⟩
  have HG15 := Lib.hid (HG14.out.later hb)
  have HB15 := Lib.hid (stepB HB14.out hb)
  replace HX1 := Lib.hid (HX1.out.later hb)
  replace HX3 := Lib.hid (HX3.out.later hb)
  replace HXC := Lib.hid (HXC.out.later hb)
  clear hb
  go_wp2
  go_ret
  exact ⟨rfl, HB15.out⟩
end Go.Proofs.YtkgdmdcnhbaidaaDoor
