/- The examples. -/
import Derived.Test.YtiojjpmkiljngaaK
namespace Go.Proofs.Ytiojjpmkiljngaa
open Go.ChangeShapes Go.WideShapes Go.ChangeAt Go.RowKit
set_option linter.unusedVariables false
set_option linter.unusedSimpArgs false
set_option maxRecDepth 100000 in
set_option maxHeartbeats 8000000 in
theorem awake_any (w : World) : Calls Try.prog 9 #[] w (BoolEnd true w) := by
  go_enter Try.func9, Try.ntmps9
  go_wp2_with fail
  have HB1 : Hid (Below w.heap.size w (((w.alloc (.cells #[.string ⟨#[98]⟩, .string ⟨#[100]⟩, .string ⟨#[102]⟩] 9)).alloc (.cells #[.int .u64 1, .int .u64 2, .int .u64 3] 24)).alloc (.cells #[.bool true, .slice (some ⟨w.heap.size, 0, none⟩) 3 3, .slice none 0 0, .slice (some ⟨w.heap.size + 1, 0, none⟩) 3 3] 28))) := (((Below.refl _ _).alloc (Nat.le_refl _) _).alloc (by simp) _).alloc (by simp; omega) _
  have hl : Nd ((w.alloc (.cells #[.string ⟨#[98]⟩, .string ⟨#[100]⟩, .string ⟨#[102]⟩] 9)).alloc (.cells #[.int .u64 1, .int .u64 2, .int .u64 3] 24)) (some ⟨w.heap.size, 0, none⟩) none (some ⟨w.heap.size + 1, 0, none⟩) 3 3 0 0 3 3 [⟨#[98]⟩, ⟨#[100]⟩, ⟨#[102]⟩] [] [1, 2, 3] := nd_lit2 w [⟨#[98]⟩, ⟨#[100]⟩, ⟨#[102]⟩] [1, 2, 3] (by decide)
  have L1 := Lib.hid (VarAt.new (lf := true) hl)
  clear hl
  generalize (((w.alloc (.cells #[.string ⟨#[98]⟩, .string ⟨#[100]⟩, .string ⟨#[102]⟩] 9)).alloc (.cells #[.int .u64 1, .int .u64 2, .int .u64 3] 24)).alloc (.cells #[.bool true, .slice (some ⟨w.heap.size, 0, none⟩) 3 3, .slice none 0 0, .slice (some ⟨w.heap.size + 1, 0, none⟩) 3 3] 28)) = w1 at *
  simp only [World.size_alloc] at L1 ⊢
  have cL1 := L1.out.1
  generalize w.heap.size + 1 + 1 = bL at L1 cL1 ⊢
  refine (place_c ⟨#[99]⟩ 1 false L1.out.2 (by decide +kernel) (by decide +kernel) (by decide +kernel)).mono ?_
  rintro x w2 ⟨rfl, hb⟩
  have HB2 := Lib.hid (stepB HB1.out hb)
  have L2 := Lib.hid (L1.out.later hb)
  have cL2 := L2.out.1
  clear hb HB1 L1 cL1
  go_wp2_with fail
  refine (place_c ⟨#[100]⟩ 1 true L2.out.2 (by decide +kernel) (by decide +kernel) (by decide +kernel)).mono ?_
  rintro x w3 ⟨rfl, hb⟩
  have HB3 := Lib.hid (stepB HB2.out hb)
  have L3 := Lib.hid (L2.out.later hb)
  have cL3 := L3.out.1
  clear hb HB2 L2 cL2
  go_wp2_with fail
  refine (place_c ⟨#[103]⟩ 3 false L3.out.2 (by decide +kernel) (by decide +kernel) (by decide +kernel)).mono ?_
  rintro x w4 ⟨rfl, hb⟩
  have HB4 := Lib.hid (stepB HB3.out hb)
  have L4 := Lib.hid (L3.out.later hb)
  have cL4 := L4.out.1
  clear hb HB3 L3 cL3
  go_wp2_with fail
  refine (put_c ⟨#[99]⟩ 9 (X := [⟨#[98]⟩, ⟨#[99]⟩, ⟨#[100]⟩, ⟨#[102]⟩]) (R := [1, 9, 2, 3]) (n' := 4) (k' := 4) L4.out.2 (by decide +kernel) (by decide +kernel) (by decide +kernel) (by decide +kernel) rfl rfl (by omega)).mono ?_
  rintro x w5 ⟨AM, BM, CM, cM, dM, eM, rfl, hM, hb⟩
  have HB5 := Lib.hid (stepB HB4.out hb)
  have L5 := Lib.hid (L4.out.later hb)
  have cL5 := L5.out.1
  clear hb HB4 L4 cL4
  go_wp2_with fail
  have HB6 : Hid (Below w.heap.size w (w5.alloc (.cells #[.bool true, .slice AM 4 cM, .slice BM 0 dM, .slice CM 4 eM] 28))) := HB5.out.alloc HB5.out.size _
  have L6 := Lib.hid (L5.out.later (show Below w5.heap.size w5 (w5.alloc (.cells #[.bool true, .slice AM 4 cM, .slice BM 0 dM, .slice CM 4 eM] 28)) from (Below.refl _ _).alloc (Nat.le_refl _) _))
  have M6 := Lib.hid (VarAt.new (lf := true) hM)
  clear HB5 L5 cL5
  generalize w5.alloc (.cells #[.bool true, .slice AM 4 cM, .slice BM 0 dM, .slice CM 4 eM] 28) = w6 at *
  have cL6 := L6.out.1
  have cM6 := M6.out.1
  generalize w5.heap.size = bM at M6 cM6 ⊢
  clear hM
  refine (split_leaf_c 2 ⟨#[100]⟩ (X1 := [⟨#[98]⟩, ⟨#[99]⟩]) (X2 := [⟨#[100]⟩, ⟨#[102]⟩]) (R1 := [1, 9]) (R2 := [2, 3]) (n1 := 2) (k1 := 2) (n2 := 2) (k2 := 2) M6.out.2 (by decide +kernel) (by omega) rfl rfl rfl rfl rfl rfl rfl rfl rfl rfl (by omega) (by omega)).mono ?_
  rintro x w7 ⟨A1, B1, C1, c1, d1, e1, A2, B2, C2, c2, d2, e2, rfl, hl1, hl2, hb⟩
  have HB7 := Lib.hid (stepB HB6.out hb)
  have L7 := Lib.hid (L6.out.later hb)
  have M7 := Lib.hid (M6.out.later hb)
  have cL7 := L7.out.1
  have cM7 := M7.out.1
  clear hb HB6 L6 cL6 M6 cM6
  go_upto_region 7 with (fail)
  have nLA := lt_of_cell cL7.1
  have lA : w.heap.size ≤ w7.heap.size := HB7.out.size
  have nMA := lt_of_cell cM7.1
  have HB8 : Hid (Below w.heap.size w ((w7.alloc (.cells #[.bool true, .slice A1 2 c1, .slice B1 0 d1, .slice C1 2 e1] 28)).alloc (.cells #[.bool true, .slice A2 2 c2, .slice B2 0 d2, .slice C2 2 e2] 28))) := (HB7.out.alloc HB7.out.size _).alloc (by have := HB7.out.size; simp; omega) _
  have L8 := Lib.hid (L7.out.later (show Below w7.heap.size w7 ((w7.alloc (.cells #[.bool true, .slice A1 2 c1, .slice B1 0 d1, .slice C1 2 e1] 28)).alloc (.cells #[.bool true, .slice A2 2 c2, .slice B2 0 d2, .slice C2 2 e2] 28)) from ((Below.refl _ _).alloc (Nat.le_refl _) _).alloc (by simp) _))
  have M8 := Lib.hid (M7.out.later (show Below w7.heap.size w7 ((w7.alloc (.cells #[.bool true, .slice A1 2 c1, .slice B1 0 d1, .slice C1 2 e1] 28)).alloc (.cells #[.bool true, .slice A2 2 c2, .slice B2 0 d2, .slice C2 2 e2] 28)) from ((Below.refl _ _).alloc (Nat.le_refl _) _).alloc (by simp) _))
  have A8 := Lib.hid ((VarAt.new (lf := true) hl1).alloc (.cells #[.bool true, .slice A2 2 c2, .slice B2 0 d2, .slice C2 2 e2] 28))
  have B8 := Lib.hid (VarAt.new (lf := true) (hl2.later (W' := w7.alloc (.cells #[.bool true, .slice A1 2 c1, .slice B1 0 d1, .slice C1 2 e1] 28)) ((Below.refl _ _).alloc (Nat.le_refl _) _)))
  have FA8 := Lib.hid ((Blk.new w7 #[.bool true, .slice A1 2 c1, .slice B1 0 d1, .slice C1 2 e1] 28).alloc (.cells #[.bool true, .slice A2 2 c2, .slice B2 0 d2, .slice C2 2 e2] 28))
  have FB8 := Lib.hid (Blk.new (w7.alloc (.cells #[.bool true, .slice A1 2 c1, .slice B1 0 d1, .slice C1 2 e1] 28)) #[.bool true, .slice A2 2 c2, .slice B2 0 d2, .slice C2 2 e2] 28)
  clear HB7 L7 cL7 M7 cM7
  generalize (w7.alloc (.cells #[.bool true, .slice A1 2 c1, .slice B1 0 d1, .slice C1 2 e1] 28)).alloc (.cells #[.bool true, .slice A2 2 c2, .slice B2 0 d2, .slice C2 2 e2] 28) = w8 at *
  have cL8 := L8.out.1
  have cM8 := M8.out.1
  have cA8 := A8.out.1
  have cB8 := B8.out.1
  clear hl1 hl2
  simp only [World.size_alloc] at B8 cB8 FB8
  have nAB : w7.heap.size < w7.heap.size + 1 := by omega
  generalize w7.heap.size + 1 = bB at B8 cB8 FB8 nAB ⊢
  generalize w7.heap.size = bA at A8 cA8 FA8 nAB nLA nMA lA ⊢
  go_wp2_with fail
  have hE : Below w8.heap.size w8 ((w8.alloc (.cells #[.string ⟨#[98]⟩, .string ⟨#[99]⟩, .string ⟨#[100]⟩, .string ⟨#[102]⟩] 9)).alloc (.cells #[.int .u64 1, .int .u64 9, .int .u64 2, .int .u64 3] 24)) := ((Below.refl _ _).alloc (Nat.le_refl _) _).alloc (by simp) _
  refine (is_c (M8.out.2.later hE) (nd_lit2 w8 [⟨#[98]⟩, ⟨#[99]⟩, ⟨#[100]⟩, ⟨#[102]⟩] [1, 9, 2, 3] (by decide)) rfl).mono ?_
  rintro x w9 ⟨rfl, hb⟩
  replace hb := stepB hE hb
  clear hE
  have HB9 := Lib.hid (stepB HB8.out hb)
  have L9 := Lib.hid (L8.out.later hb)
  have M9 := Lib.hid (M8.out.later hb)
  have A9 := Lib.hid (A8.out.later hb)
  have B9 := Lib.hid (B8.out.later hb)
  have FA9 := Lib.hid (FA8.out.later hb)
  have FB9 := Lib.hid (FB8.out.later hb)
  have cL9 := L9.out.1
  have cM9 := M9.out.1
  have cA9 := A9.out.1
  have cB9 := B9.out.1
  clear hb HB8 L8 cL8 M8 cM8 A8 cA8 B8 cB8 FA8 FB8
  go_wp2_with fail
  have hE : Below w9.heap.size w9 ((w9.alloc (.cells #[.string ⟨#[98]⟩, .string ⟨#[99]⟩] 9)).alloc (.cells #[.int .u64 1, .int .u64 9] 24)) := ((Below.refl _ _).alloc (Nat.le_refl _) _).alloc (by simp) _
  refine (is_c (A9.out.2.later hE) (nd_lit2 w9 [⟨#[98]⟩, ⟨#[99]⟩] [1, 9] (by decide)) rfl).mono ?_
  rintro x w10 ⟨rfl, hb⟩
  replace hb := stepB hE hb
  clear hE
  have HB10 := Lib.hid (stepB HB9.out hb)
  have L10 := Lib.hid (L9.out.later hb)
  have M10 := Lib.hid (M9.out.later hb)
  have A10 := Lib.hid (A9.out.later hb)
  have B10 := Lib.hid (B9.out.later hb)
  have FA10 := Lib.hid (FA9.out.later hb)
  have FB10 := Lib.hid (FB9.out.later hb)
  have cL10 := L10.out.1
  have cM10 := M10.out.1
  have cA10 := A10.out.1
  have cB10 := B10.out.1
  clear hb HB9 L9 cL9 M9 cM9 A9 cA9 B9 cB9 FA9 FB9
  go_wp2_with fail
  have hE : Below w10.heap.size w10 ((w10.alloc (.cells #[.string ⟨#[100]⟩, .string ⟨#[102]⟩] 9)).alloc (.cells #[.int .u64 2, .int .u64 3] 24)) := ((Below.refl _ _).alloc (Nat.le_refl _) _).alloc (by simp) _
  refine (is_c (B10.out.2.later hE) (nd_lit2 w10 [⟨#[100]⟩, ⟨#[102]⟩] [2, 3] (by decide)) rfl).mono ?_
  rintro x w11 ⟨rfl, hb⟩
  replace hb := stepB hE hb
  clear hE
  have HB11 := Lib.hid (stepB HB10.out hb)
  have L11 := Lib.hid (L10.out.later hb)
  have M11 := Lib.hid (M10.out.later hb)
  have A11 := Lib.hid (A10.out.later hb)
  have B11 := Lib.hid (B10.out.later hb)
  have FA11 := Lib.hid (FA10.out.later hb)
  have FB11 := Lib.hid (FB10.out.later hb)
  have cL11 := L11.out.1
  have cM11 := M11.out.1
  have cA11 := A11.out.1
  have cB11 := B11.out.1
  clear hb HB10 L10 cL10 M10 cM10 A10 cA10 B10 cB10 FA10 FB10
  go_wp2_with fail
  clear L11 cL11
  clear M11 cM11
  clear A11 cA11
  clear B11 cB11
  have hl : Nd ((w11.alloc (.cells #[.string ⟨#[98]⟩, .string ⟨#[100]⟩, .string ⟨#[102]⟩] 9)).alloc (.cells #[.int .i64 1, .int .i64 2, .int .i64 3, .int .i64 4] 3)) (some ⟨w11.heap.size, 0, none⟩) (some ⟨w11.heap.size + 1, 0, none⟩) none 3 3 4 4 0 0 [⟨#[98]⟩, ⟨#[100]⟩, ⟨#[102]⟩] [1, 2, 3, 4] [] := nd_lit3 w11 [⟨#[98]⟩, ⟨#[100]⟩, ⟨#[102]⟩] [1, 2, 3, 4] (by decide)
  have nNA : bA < w11.heap.size + 1 + 1 := by have := FA11.out.lt; omega
  have nNB : bB < w11.heap.size + 1 + 1 := by have := FB11.out.lt; omega
  have HB12 : Hid (Below w.heap.size w (((w11.alloc (.cells #[.string ⟨#[98]⟩, .string ⟨#[100]⟩, .string ⟨#[102]⟩] 9)).alloc (.cells #[.int .i64 1, .int .i64 2, .int .i64 3, .int .i64 4] 3)).alloc (.cells #[.bool false, .slice (some ⟨w11.heap.size, 0, none⟩) 3 3, .slice (some ⟨w11.heap.size + 1, 0, none⟩) 4 4, .slice none 0 0] 28))) := stepB HB11.out ((((Below.refl _ _).alloc (Nat.le_refl _) _).alloc (by simp) _).alloc (by simp; omega) _)
  have FA12 := Lib.hid (FA11.out.later (show Below w11.heap.size w11 (((w11.alloc (.cells #[.string ⟨#[98]⟩, .string ⟨#[100]⟩, .string ⟨#[102]⟩] 9)).alloc (.cells #[.int .i64 1, .int .i64 2, .int .i64 3, .int .i64 4] 3)).alloc (.cells #[.bool false, .slice (some ⟨w11.heap.size, 0, none⟩) 3 3, .slice (some ⟨w11.heap.size + 1, 0, none⟩) 4 4, .slice none 0 0] 28)) from (((Below.refl _ _).alloc (Nat.le_refl _) _).alloc (by simp) _).alloc (by simp; omega) _))
  have FB12 := Lib.hid (FB11.out.later (show Below w11.heap.size w11 (((w11.alloc (.cells #[.string ⟨#[98]⟩, .string ⟨#[100]⟩, .string ⟨#[102]⟩] 9)).alloc (.cells #[.int .i64 1, .int .i64 2, .int .i64 3, .int .i64 4] 3)).alloc (.cells #[.bool false, .slice (some ⟨w11.heap.size, 0, none⟩) 3 3, .slice (some ⟨w11.heap.size + 1, 0, none⟩) 4 4, .slice none 0 0] 28)) from (((Below.refl _ _).alloc (Nat.le_refl _) _).alloc (by simp) _).alloc (by simp; omega) _))
  have N12 := Lib.hid (VarAt.new (lf := false) hl)
  clear HB11 FA11 FB11
  generalize ((w11.alloc (.cells #[.string ⟨#[98]⟩, .string ⟨#[100]⟩, .string ⟨#[102]⟩] 9)).alloc (.cells #[.int .i64 1, .int .i64 2, .int .i64 3, .int .i64 4] 3)).alloc (.cells #[.bool false, .slice (some ⟨w11.heap.size, 0, none⟩) 3 3, .slice (some ⟨w11.heap.size + 1, 0, none⟩) 4 4, .slice none 0 0] 28) = w12 at *
  have cN12 := N12.out.1
  clear hl
  simp only [World.size_alloc] at N12 cN12
  generalize w11.heap.size + 1 + 1 = bN at N12 cN12 nNA nNB ⊢
  refine (fence_c 1 ⟨#[100]⟩ true N12.out.2 rfl (by decide +kernel)).mono ?_
  rintro x w13 ⟨rfl, hb⟩
  have HB13 := Lib.hid (stepB HB12.out hb)
  have FA13 := Lib.hid (FA12.out.later hb)
  have FB13 := Lib.hid (FB12.out.later hb)
  have N13 := Lib.hid (N12.out.later hb)
  have cN13 := N13.out.1
  clear hb HB12 FA12 FB12 N12 cN12
  go_wp2_with fail
  refine (fence_c 3 e0 false N13.out.2 rfl (by decide +kernel)).mono ?_
  rintro x w14 ⟨rfl, hb⟩
  have HB14 := Lib.hid (stepB HB13.out hb)
  have FA14 := Lib.hid (FA13.out.later hb)
  have FB14 := Lib.hid (FB13.out.later hb)
  have N14 := Lib.hid (N13.out.later hb)
  have cN14 := N14.out.1
  clear hb HB13 FA13 FB13 N13 cN13
  go_wp2_with fail
  refine (split_inner_c 2 ⟨#[102]⟩ (X1 := [⟨#[98]⟩, ⟨#[100]⟩]) (X2 := []) (R1 := [1, 2, 3]) (R2 := [4]) (n1 := 2) (k1 := 3) (n2 := 0) (k2 := 1) N14.out.2 (by decide +kernel) (by omega) rfl rfl rfl rfl rfl rfl rfl rfl rfl rfl (by omega) (by omega)).mono ?_
  rintro x w15 ⟨A1, B1, C1, c1, d1, e1, A2, B2, C2, c2, d2, e2, rfl, hl1, hl2, hb⟩
  have HB15 := Lib.hid (stepB HB14.out hb)
  have FA15 := Lib.hid (FA14.out.later hb)
  have FB15 := Lib.hid (FB14.out.later hb)
  have N15 := Lib.hid (N14.out.later hb)
  have cN15 := N15.out.1
  clear hb HB14 FA14 FB14 N14 cN14
  have fA := FA15.out.l4
  have fB := FB15.out.l4
  have q1 : ¬ bA = bB := by omega
  have q2 : ¬ bB = bA := by omega
  have q3 : ¬ bN = bA := by omega
  have q4 : ¬ bN = bB := by omega
  go_upto_region 13 with (fail)
  have HB16 : Hid (Below w.heap.size w ((((((((((w15).setCell ⟨bA, 0, none⟩ (.bool false)).setCell ⟨bA, 1, none⟩ (.slice A1 2 c1)).setCell ⟨bA, 2, none⟩ (.slice B1 3 d1)).setCell ⟨bA, 3, none⟩ (.slice C1 0 e1))).setCell ⟨bB, 0, none⟩ (.bool false)).setCell ⟨bB, 1, none⟩ (.slice A2 0 c2)).setCell ⟨bB, 2, none⟩ (.slice B2 1 d2)).setCell ⟨bB, 3, none⟩ (.slice C2 0 e2))) := set4 (set4 HB15.out lA) (by omega)
  have fb : Blk (((((w15).setCell ⟨bA, 0, none⟩ (.bool false)).setCell ⟨bA, 1, none⟩ (.slice A1 2 c1)).setCell ⟨bA, 2, none⟩ (.slice B1 3 d1)).setCell ⟨bA, 3, none⟩ (.slice C1 0 e1)) bB _ 28 := blk_other4 FB15.out q2
  have A16 : Hid (VarAt ((((((((((w15).setCell ⟨bA, 0, none⟩ (.bool false)).setCell ⟨bA, 1, none⟩ (.slice A1 2 c1)).setCell ⟨bA, 2, none⟩ (.slice B1 3 d1)).setCell ⟨bA, 3, none⟩ (.slice C1 0 e1))).setCell ⟨bB, 0, none⟩ (.bool false)).setCell ⟨bB, 1, none⟩ (.slice A2 0 c2)).setCell ⟨bB, 2, none⟩ (.slice B2 1 d2)).setCell ⟨bB, 3, none⟩ (.slice C2 0 e2)) bA false A1 B1 C1 2 c1 3 d1 0 e1 [⟨#[98]⟩, ⟨#[100]⟩] [1, 2, 3] []) := ⟨(blk_other4 (blk_set4 FA15.out) q1).c4, (hl1.set4 FA15.out rfl rfl rfl rfl _ _ _ _).set4 fb rfl rfl rfl rfl _ _ _ _⟩
  have B16 : Hid (VarAt ((((((((((w15).setCell ⟨bA, 0, none⟩ (.bool false)).setCell ⟨bA, 1, none⟩ (.slice A1 2 c1)).setCell ⟨bA, 2, none⟩ (.slice B1 3 d1)).setCell ⟨bA, 3, none⟩ (.slice C1 0 e1))).setCell ⟨bB, 0, none⟩ (.bool false)).setCell ⟨bB, 1, none⟩ (.slice A2 0 c2)).setCell ⟨bB, 2, none⟩ (.slice B2 1 d2)).setCell ⟨bB, 3, none⟩ (.slice C2 0 e2)) bB false A2 B2 C2 0 c2 1 d2 0 e2 [] [4] []) := ⟨(blk_set4 fb).c4, (hl2.set4 FA15.out rfl rfl rfl rfl _ _ _ _).set4 fb rfl rfl rfl rfl _ _ _ _⟩
  have N16 := Lib.hid ((N15.out.set4 FA15.out rfl rfl rfl rfl q3 (.bool false) (.slice A1 2 c1) (.slice B1 3 d1) (.slice C1 0 e1)).set4 fb rfl rfl rfl rfl q4 (.bool false) (.slice A2 0 c2) (.slice B2 1 d2) (.slice C2 0 e2))
  clear hl1 hl2 fb fA fB HB15 FA15 FB15 N15 cN15
  generalize ((((((((((w15).setCell ⟨bA, 0, none⟩ (.bool false)).setCell ⟨bA, 1, none⟩ (.slice A1 2 c1)).setCell ⟨bA, 2, none⟩ (.slice B1 3 d1)).setCell ⟨bA, 3, none⟩ (.slice C1 0 e1))).setCell ⟨bB, 0, none⟩ (.bool false)).setCell ⟨bB, 1, none⟩ (.slice A2 0 c2)).setCell ⟨bB, 2, none⟩ (.slice B2 1 d2)).setCell ⟨bB, 3, none⟩ (.slice C2 0 e2)) = w16 at *
  have cA16 := A16.out.1
  have cB16 := B16.out.1
  have cN16 := N16.out.1
  go_wp2_with fail
  refine (graft_c ⟨#[101]⟩ 9 (X := [⟨#[98]⟩, ⟨#[100]⟩, ⟨#[101]⟩, ⟨#[102]⟩]) (R := [1, 2, 3, 9, 4]) (n' := 4) (k' := 5) N16.out.2 (by decide +kernel) (by decide +kernel) (by decide +kernel) (by decide +kernel) rfl rfl (by omega)).mono ?_
  rintro x w17 ⟨A3, B3, C3, c3, d3, e3, rfl, h3, hb⟩
  have HB17 := Lib.hid (stepB HB16.out hb)
  have A17 := Lib.hid (A16.out.later hb)
  have B17 := Lib.hid (B16.out.later hb)
  have N17 := Lib.hid (N16.out.later hb)
  have cA17 := A17.out.1
  have cB17 := B17.out.1
  have cN17 := N17.out.1
  clear hb HB16 A16 cA16 B16 cB16 N16 cN16
  go_upto_region 14 with (fail)
  have HB18 : Hid (Below w.heap.size w (w17.alloc (.cells #[.bool false, .slice A3 4 c3, .slice B3 5 d3, .slice C3 0 e3] 28))) := HB17.out.alloc HB17.out.size _
  have A18 := Lib.hid (A17.out.later (show Below w17.heap.size w17 (w17.alloc (.cells #[.bool false, .slice A3 4 c3, .slice B3 5 d3, .slice C3 0 e3] 28)) from (Below.refl _ _).alloc (Nat.le_refl _) _))
  have B18 := Lib.hid (B17.out.later (show Below w17.heap.size w17 (w17.alloc (.cells #[.bool false, .slice A3 4 c3, .slice B3 5 d3, .slice C3 0 e3] 28)) from (Below.refl _ _).alloc (Nat.le_refl _) _))
  have N18 := Lib.hid (N17.out.later (show Below w17.heap.size w17 (w17.alloc (.cells #[.bool false, .slice A3 4 c3, .slice B3 5 d3, .slice C3 0 e3] 28)) from (Below.refl _ _).alloc (Nat.le_refl _) _))
  have O18 := Lib.hid (VarAt.new (lf := false) h3)
  clear HB17 A17 cA17 B17 cB17 N17 cN17
  generalize w17.alloc (.cells #[.bool false, .slice A3 4 c3, .slice B3 5 d3, .slice C3 0 e3] 28) = w18 at *
  have cA18 := A18.out.1
  have cB18 := B18.out.1
  have cN18 := N18.out.1
  have cO18 := O18.out.1
  generalize w17.heap.size = bO at O18 cO18 ⊢
  clear h3
  go_wp2_with fail
  refine (cut_c 0 0 (X := [⟨#[100]⟩, ⟨#[102]⟩]) (R := [2, 3, 4]) (n' := 2) (k' := 3) N18.out.2 (by decide +kernel) (by omega) rfl (by omega) rfl rfl rfl rfl (by omega)).mono ?_
  rintro x w19 ⟨A4, B4, C4, c4, d4, e4, rfl, h4, hb⟩
  have HB19 := Lib.hid (stepB HB18.out hb)
  have A19 := Lib.hid (A18.out.later hb)
  have B19 := Lib.hid (B18.out.later hb)
  have N19 := Lib.hid (N18.out.later hb)
  have O19 := Lib.hid (O18.out.later hb)
  have cA19 := A19.out.1
  have cB19 := B19.out.1
  have cN19 := N19.out.1
  have cO19 := O19.out.1
  clear hb HB18 A18 cA18 B18 cB18 N18 cN18 O18 cO18
  go_upto_region 15 with (fail)
  have HB20 : Hid (Below w.heap.size w (w19.alloc (.cells #[.bool false, .slice A4 2 c4, .slice B4 3 d4, .slice C4 0 e4] 28))) := HB19.out.alloc HB19.out.size _
  have A20 := Lib.hid (A19.out.later (show Below w19.heap.size w19 (w19.alloc (.cells #[.bool false, .slice A4 2 c4, .slice B4 3 d4, .slice C4 0 e4] 28)) from (Below.refl _ _).alloc (Nat.le_refl _) _))
  have B20 := Lib.hid (B19.out.later (show Below w19.heap.size w19 (w19.alloc (.cells #[.bool false, .slice A4 2 c4, .slice B4 3 d4, .slice C4 0 e4] 28)) from (Below.refl _ _).alloc (Nat.le_refl _) _))
  have N20 := Lib.hid (N19.out.later (show Below w19.heap.size w19 (w19.alloc (.cells #[.bool false, .slice A4 2 c4, .slice B4 3 d4, .slice C4 0 e4] 28)) from (Below.refl _ _).alloc (Nat.le_refl _) _))
  have O20 := Lib.hid (O19.out.later (show Below w19.heap.size w19 (w19.alloc (.cells #[.bool false, .slice A4 2 c4, .slice B4 3 d4, .slice C4 0 e4] 28)) from (Below.refl _ _).alloc (Nat.le_refl _) _))
  have P20 := Lib.hid (VarAt.new (lf := false) h4)
  clear HB19 A19 cA19 B19 cB19 N19 cN19 O19 cO19
  generalize w19.alloc (.cells #[.bool false, .slice A4 2 c4, .slice B4 3 d4, .slice C4 0 e4] 28) = w20 at *
  have cA20 := A20.out.1
  have cB20 := B20.out.1
  have cN20 := N20.out.1
  have cO20 := O20.out.1
  have cP20 := P20.out.1
  generalize w19.heap.size = bP at P20 cP20 ⊢
  clear h4
  go_wp2_with fail
  refine (cut_c 3 3 (X := [⟨#[98]⟩, ⟨#[100]⟩]) (R := [1, 2, 3]) (n' := 2) (k' := 3) N20.out.2 (by decide +kernel) (by omega) rfl (by omega) rfl rfl rfl rfl (by omega)).mono ?_
  rintro x w21 ⟨A5, B5, C5, c5, d5, e5, rfl, h5, hb⟩
  have HB21 := Lib.hid (stepB HB20.out hb)
  have A21 := Lib.hid (A20.out.later hb)
  have B21 := Lib.hid (B20.out.later hb)
  have N21 := Lib.hid (N20.out.later hb)
  have O21 := Lib.hid (O20.out.later hb)
  have P21 := Lib.hid (P20.out.later hb)
  have cA21 := A21.out.1
  have cB21 := B21.out.1
  have cN21 := N21.out.1
  have cO21 := O21.out.1
  have cP21 := P21.out.1
  clear hb HB20 A20 cA20 B20 cB20 N20 cN20 O20 cO20 P20 cP20
  go_upto_region 16 with (fail)
  have HB22 : Hid (Below w.heap.size w (w21.alloc (.cells #[.bool false, .slice A5 2 c5, .slice B5 3 d5, .slice C5 0 e5] 28))) := HB21.out.alloc HB21.out.size _
  have A22 := Lib.hid (A21.out.later (show Below w21.heap.size w21 (w21.alloc (.cells #[.bool false, .slice A5 2 c5, .slice B5 3 d5, .slice C5 0 e5] 28)) from (Below.refl _ _).alloc (Nat.le_refl _) _))
  have B22 := Lib.hid (B21.out.later (show Below w21.heap.size w21 (w21.alloc (.cells #[.bool false, .slice A5 2 c5, .slice B5 3 d5, .slice C5 0 e5] 28)) from (Below.refl _ _).alloc (Nat.le_refl _) _))
  have N22 := Lib.hid (N21.out.later (show Below w21.heap.size w21 (w21.alloc (.cells #[.bool false, .slice A5 2 c5, .slice B5 3 d5, .slice C5 0 e5] 28)) from (Below.refl _ _).alloc (Nat.le_refl _) _))
  have O22 := Lib.hid (O21.out.later (show Below w21.heap.size w21 (w21.alloc (.cells #[.bool false, .slice A5 2 c5, .slice B5 3 d5, .slice C5 0 e5] 28)) from (Below.refl _ _).alloc (Nat.le_refl _) _))
  have P22 := Lib.hid (P21.out.later (show Below w21.heap.size w21 (w21.alloc (.cells #[.bool false, .slice A5 2 c5, .slice B5 3 d5, .slice C5 0 e5] 28)) from (Below.refl _ _).alloc (Nat.le_refl _) _))
  have Q22 := Lib.hid (VarAt.new (lf := false) h5)
  clear HB21 A21 cA21 B21 cB21 N21 cN21 O21 cO21 P21 cP21
  generalize w21.alloc (.cells #[.bool false, .slice A5 2 c5, .slice B5 3 d5, .slice C5 0 e5] 28) = w22 at *
  have cA22 := A22.out.1
  have cB22 := B22.out.1
  have cN22 := N22.out.1
  have cO22 := O22.out.1
  have cP22 := P22.out.1
  have cQ22 := Q22.out.1
  generalize w21.heap.size = bQ at Q22 cQ22 ⊢
  clear h5
  go_wp2_with fail
  refine (kid_c ⟨#[97]⟩ 0 N22.out.2 (by decide +kernel) (by decide +kernel)).mono ?_
  rintro x w23 ⟨rfl, hb⟩
  have HB23 := Lib.hid (stepB HB22.out hb)
  have A23 := Lib.hid (A22.out.later hb)
  have B23 := Lib.hid (B22.out.later hb)
  have N23 := Lib.hid (N22.out.later hb)
  have O23 := Lib.hid (O22.out.later hb)
  have P23 := Lib.hid (P22.out.later hb)
  have Q23 := Lib.hid (Q22.out.later hb)
  have cA23 := A23.out.1
  have cB23 := B23.out.1
  have cN23 := N23.out.1
  have cO23 := O23.out.1
  have cP23 := P23.out.1
  have cQ23 := Q23.out.1
  clear hb HB22 A22 cA22 B22 cB22 N22 cN22 O22 cO22 P22 cP22 Q22 cQ22
  go_wp2_with fail
  refine (kid_c ⟨#[98]⟩ 1 N23.out.2 (by decide +kernel) (by decide +kernel)).mono ?_
  rintro x w24 ⟨rfl, hb⟩
  have HB24 := Lib.hid (stepB HB23.out hb)
  have A24 := Lib.hid (A23.out.later hb)
  have B24 := Lib.hid (B23.out.later hb)
  have N24 := Lib.hid (N23.out.later hb)
  have O24 := Lib.hid (O23.out.later hb)
  have P24 := Lib.hid (P23.out.later hb)
  have Q24 := Lib.hid (Q23.out.later hb)
  have cA24 := A24.out.1
  have cB24 := B24.out.1
  have cN24 := N24.out.1
  have cO24 := O24.out.1
  have cP24 := P24.out.1
  have cQ24 := Q24.out.1
  clear hb HB23 A23 cA23 B23 cB23 N23 cN23 O23 cO23 P23 cP23 Q23 cQ23
  go_wp2_with fail
  refine (kid_c ⟨#[103]⟩ 3 N24.out.2 (by decide +kernel) (by decide +kernel)).mono ?_
  rintro x w25 ⟨rfl, hb⟩
  have HB25 := Lib.hid (stepB HB24.out hb)
  have A25 := Lib.hid (A24.out.later hb)
  have B25 := Lib.hid (B24.out.later hb)
  have N25 := Lib.hid (N24.out.later hb)
  have O25 := Lib.hid (O24.out.later hb)
  have P25 := Lib.hid (P24.out.later hb)
  have Q25 := Lib.hid (Q24.out.later hb)
  have cA25 := A25.out.1
  have cB25 := B25.out.1
  have cN25 := N25.out.1
  have cO25 := O25.out.1
  have cP25 := P25.out.1
  have cQ25 := Q25.out.1
  clear hb HB24 A24 cA24 B24 cB24 N24 cN24 O24 cO24 P24 cP24 Q24 cQ24
  go_wp2_with fail
  have hE : Below w25.heap.size w25 ((w25.alloc (.cells #[.string ⟨#[98]⟩, .string ⟨#[100]⟩] 9)).alloc (.cells #[.int .i64 1, .int .i64 2, .int .i64 3] 3)) := ((Below.refl _ _).alloc (Nat.le_refl _) _).alloc (by simp) _
  refine (is_c (A25.out.2.later hE) (nd_lit3 w25 [⟨#[98]⟩, ⟨#[100]⟩] [1, 2, 3] (by decide)) rfl).mono ?_
  rintro x w26 ⟨rfl, hb⟩
  replace hb := stepB hE hb
  clear hE
  have HB26 := Lib.hid (stepB HB25.out hb)
  have A26 := Lib.hid (A25.out.later hb)
  have B26 := Lib.hid (B25.out.later hb)
  have N26 := Lib.hid (N25.out.later hb)
  have O26 := Lib.hid (O25.out.later hb)
  have P26 := Lib.hid (P25.out.later hb)
  have Q26 := Lib.hid (Q25.out.later hb)
  have cA26 := A26.out.1
  have cB26 := B26.out.1
  have cN26 := N26.out.1
  have cO26 := O26.out.1
  have cP26 := P26.out.1
  have cQ26 := Q26.out.1
  clear hb HB25 A25 cA25 B25 cB25 N25 cN25 O25 cO25 P25 cP25 Q25 cQ25
  go_wp2_with fail
  have hE : Below w26.heap.size w26 (w26.alloc (.cells #[.int .i64 4] 3)) := (Below.refl _ _).alloc (Nat.le_refl _) _
  refine (is_c (B26.out.2.later hE) (nd_lit1 w26 [4] (by decide)) rfl).mono ?_
  rintro x w27 ⟨rfl, hb⟩
  replace hb := stepB hE hb
  clear hE
  have HB27 := Lib.hid (stepB HB26.out hb)
  have A27 := Lib.hid (A26.out.later hb)
  have B27 := Lib.hid (B26.out.later hb)
  have N27 := Lib.hid (N26.out.later hb)
  have O27 := Lib.hid (O26.out.later hb)
  have P27 := Lib.hid (P26.out.later hb)
  have Q27 := Lib.hid (Q26.out.later hb)
  have cA27 := A27.out.1
  have cB27 := B27.out.1
  have cN27 := N27.out.1
  have cO27 := O27.out.1
  have cP27 := P27.out.1
  have cQ27 := Q27.out.1
  clear hb HB26 A26 cA26 B26 cB26 N26 cN26 O26 cO26 P26 cP26 Q26 cQ26
  go_wp2_with fail
  have hE : Below w27.heap.size w27 ((w27.alloc (.cells #[.string ⟨#[98]⟩, .string ⟨#[100]⟩, .string ⟨#[101]⟩, .string ⟨#[102]⟩] 9)).alloc (.cells #[.int .i64 1, .int .i64 2, .int .i64 3, .int .i64 9, .int .i64 4] 3)) := ((Below.refl _ _).alloc (Nat.le_refl _) _).alloc (by simp) _
  refine (is_c (O27.out.2.later hE) (nd_lit3 w27 [⟨#[98]⟩, ⟨#[100]⟩, ⟨#[101]⟩, ⟨#[102]⟩] [1, 2, 3, 9, 4] (by decide)) rfl).mono ?_
  rintro x w28 ⟨rfl, hb⟩
  replace hb := stepB hE hb
  clear hE
  have HB28 := Lib.hid (stepB HB27.out hb)
  have A28 := Lib.hid (A27.out.later hb)
  have B28 := Lib.hid (B27.out.later hb)
  have N28 := Lib.hid (N27.out.later hb)
  have O28 := Lib.hid (O27.out.later hb)
  have P28 := Lib.hid (P27.out.later hb)
  have Q28 := Lib.hid (Q27.out.later hb)
  have cA28 := A28.out.1
  have cB28 := B28.out.1
  have cN28 := N28.out.1
  have cO28 := O28.out.1
  have cP28 := P28.out.1
  have cQ28 := Q28.out.1
  clear hb HB27 A27 cA27 B27 cB27 N27 cN27 O27 cO27 P27 cP27 Q27 cQ27
  go_wp2_with fail
  have hE : Below w28.heap.size w28 ((w28.alloc (.cells #[.string ⟨#[100]⟩, .string ⟨#[102]⟩] 9)).alloc (.cells #[.int .i64 2, .int .i64 3, .int .i64 4] 3)) := ((Below.refl _ _).alloc (Nat.le_refl _) _).alloc (by simp) _
  refine (is_c (P28.out.2.later hE) (nd_lit3 w28 [⟨#[100]⟩, ⟨#[102]⟩] [2, 3, 4] (by decide)) rfl).mono ?_
  rintro x w29 ⟨rfl, hb⟩
  replace hb := stepB hE hb
  clear hE
  have HB29 := Lib.hid (stepB HB28.out hb)
  have A29 := Lib.hid (A28.out.later hb)
  have B29 := Lib.hid (B28.out.later hb)
  have N29 := Lib.hid (N28.out.later hb)
  have O29 := Lib.hid (O28.out.later hb)
  have P29 := Lib.hid (P28.out.later hb)
  have Q29 := Lib.hid (Q28.out.later hb)
  have cA29 := A29.out.1
  have cB29 := B29.out.1
  have cN29 := N29.out.1
  have cO29 := O29.out.1
  have cP29 := P29.out.1
  have cQ29 := Q29.out.1
  clear hb HB28 A28 cA28 B28 cB28 N28 cN28 O28 cO28 P28 cP28 Q28 cQ28
  go_wp2_with fail
  have hE : Below w29.heap.size w29 ((w29.alloc (.cells #[.string ⟨#[98]⟩, .string ⟨#[100]⟩] 9)).alloc (.cells #[.int .i64 1, .int .i64 2, .int .i64 3] 3)) := ((Below.refl _ _).alloc (Nat.le_refl _) _).alloc (by simp) _
  refine (is_c (Q29.out.2.later hE) (nd_lit3 w29 [⟨#[98]⟩, ⟨#[100]⟩] [1, 2, 3] (by decide)) rfl).mono ?_
  rintro x w30 ⟨rfl, hb⟩
  replace hb := stepB hE hb
  clear hE
  have HB30 := Lib.hid (stepB HB29.out hb)
  have A30 := Lib.hid (A29.out.later hb)
  have B30 := Lib.hid (B29.out.later hb)
  have N30 := Lib.hid (N29.out.later hb)
  have O30 := Lib.hid (O29.out.later hb)
  have P30 := Lib.hid (P29.out.later hb)
  have Q30 := Lib.hid (Q29.out.later hb)
  have cA30 := A30.out.1
  have cB30 := B30.out.1
  have cN30 := N30.out.1
  have cO30 := O30.out.1
  have cP30 := P30.out.1
  have cQ30 := Q30.out.1
  clear hb HB29 A29 cA29 B29 cB29 N29 cN29 O29 cO29 P29 cP29 Q29 cQ29
  go_wp2
  go_ret
  exact bool_end rfl HB30.out
end Go.Proofs.Ytiojjpmkiljngaa
