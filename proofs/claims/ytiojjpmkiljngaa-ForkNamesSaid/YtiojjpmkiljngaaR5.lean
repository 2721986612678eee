/-
The examples; nodes that may not be; what is refused; what is safe (closed).
-/
import Derived.Test.YtiojjpmkiljngaaL
import Derived.Test.YtiojjpmkiljngaaO
import Derived.Test.YtiojjpmkiljngaaQ
import Derived.Test.YtiojjpmkiljngaaLF
namespace Go.Proofs.Ytiojjpmkiljngaa.forkNames
open Go.ChangeShapes Go.WideShapes Go.ChangeAt Go.RowKit
set_option linter.unusedVariables false
set_option linter.unusedSimpArgs false

theorem own : ownKnob Try.prog.godebug = none := by kernel_rfl
theorem laidOut : laidOutB Try.prog = true := by kernel_rfl

set_option maxRecDepth 100000 in
set_option maxHeartbeats 16000000 in
theorem walk (w : World) : Calls Try.prog 3 #[] w (fun e w' => e = .returned (.bool true) ∧ Below w.heap.size w w') := by
  have HB0 : Hid (Below w.heap.size w w) := Below.refl _ _
  go_enter Try.func3, Try.ntmps3
  go_upto_region 2 with (fail)
  have hl : Nd ((w.alloc (.cells #[.string ⟨#[]⟩, .string ⟨#[97]⟩] 9)).alloc (.cells #[.int .u64 1, .int .u64 2] 24)) (some ⟨w.heap.size, 0, none⟩) none (some ⟨w.heap.size + 1, 0, none⟩) 2 2 0 0 2 2 [⟨#[]⟩, ⟨#[97]⟩] [] [1, 2] := nd_lit2 w [⟨#[]⟩, ⟨#[97]⟩] [1, 2] (by decide)
  have hbw : Below w.heap.size w (((w.alloc (.cells #[.string ⟨#[]⟩, .string ⟨#[97]⟩] 9)).alloc (.cells #[.int .u64 1, .int .u64 2] 24)).alloc (.cells #[.bool true, .slice (some ⟨w.heap.size, 0, none⟩) 2 2, .slice none 0 0, .slice (some ⟨w.heap.size + 1, 0, none⟩) 2 2] 28)) := (((Below.refl _ _).alloc (Nat.le_refl _) _).alloc (by simp) _).alloc (by simp; omega) _
  have L1 := Lib.hid (VarAt.new (lf := true) hl)
  have HB1 := Lib.hid (stepB HB0.out hbw)
  clear  HB0
  clear hbw
  have cL1 := L1.out.1
  try simp only [World.size_alloc] at L1 cL1
  generalize (((w.alloc (.cells #[.string ⟨#[]⟩, .string ⟨#[97]⟩] 9)).alloc (.cells #[.int .u64 1, .int .u64 2] 24)).alloc (.cells #[.bool true, .slice (some ⟨w.heap.size, 0, none⟩) 2 2, .slice none 0 0, .slice (some ⟨w.heap.size + 1, 0, none⟩) 2 2] 28)) = w1 at *
  clear hl
  generalize w.heap.size + 1 + 1 = bL at L1 cL1 ⊢
  go_upto_region 3 with (fail)
  have hl : Nd ((w1.alloc (.cells #[.string ⟨#[97]⟩] 9)).alloc (.cells #[.int .i64 1, .int .i64 2] 3)) (some ⟨w1.heap.size, 0, none⟩) (some ⟨w1.heap.size + 1, 0, none⟩) none 1 1 2 2 0 0 [⟨#[97]⟩] [1, 2] [] := nd_lit3 w1 [⟨#[97]⟩] [1, 2] (by decide)
  have hbw : Below w1.heap.size w1 (((w1.alloc (.cells #[.string ⟨#[97]⟩] 9)).alloc (.cells #[.int .i64 1, .int .i64 2] 3)).alloc (.cells #[.bool false, .slice (some ⟨w1.heap.size, 0, none⟩) 1 1, .slice (some ⟨w1.heap.size + 1, 0, none⟩) 2 2, .slice none 0 0] 28)) := (((Below.refl _ _).alloc (Nat.le_refl _) _).alloc (by simp) _).alloc (by simp; omega) _
  have I2 := Lib.hid (VarAt.new (lf := false) hl)
  have HB2 := Lib.hid (stepB HB1.out hbw)
  have L2 := Lib.hid (L1.out.later hbw)
  have cL2 := L2.out.1
  clear L1 cL1 HB1
  clear hbw
  have cI2 := I2.out.1
  try simp only [World.size_alloc] at I2 cI2
  generalize (((w1.alloc (.cells #[.string ⟨#[97]⟩] 9)).alloc (.cells #[.int .i64 1, .int .i64 2] 3)).alloc (.cells #[.bool false, .slice (some ⟨w1.heap.size, 0, none⟩) 1 1, .slice (some ⟨w1.heap.size + 1, 0, none⟩) 2 2, .slice none 0 0] 28)) = w2 at *
  clear hl
  generalize w1.heap.size + 1 + 1 = bI at I2 cI2 ⊢
  go_upto_region 4 with (fail)
  have hl : Nd (w2.alloc (.cells #[.int .i64 5] 3)) none (some ⟨w2.heap.size, 0, none⟩) none 0 0 1 1 0 0 [] [5] [] := nd_lit1 w2 [5] (by decide)
  have hbw : Below w2.heap.size w2 ((w2.alloc (.cells #[.int .i64 5] 3)).alloc (.cells #[.bool false, .slice none 0 0, .slice (some ⟨w2.heap.size, 0, none⟩) 1 1, .slice none 0 0] 28)) := ((Below.refl _ _).alloc (Nat.le_refl _) _).alloc (by simp) _
  have G3 := Lib.hid (VarAt.new (lf := false) hl)
  have HB3 := Lib.hid (stepB HB2.out hbw)
  have L3 := Lib.hid (L2.out.later hbw)
  have I3 := Lib.hid (I2.out.later hbw)
  have cL3 := L3.out.1
  have cI3 := I3.out.1
  clear L2 cL2 I2 cI2 HB2
  clear hbw
  have cG3 := G3.out.1
  try simp only [World.size_alloc] at G3 cG3
  generalize ((w2.alloc (.cells #[.int .i64 5] 3)).alloc (.cells #[.bool false, .slice none 0 0, .slice (some ⟨w2.heap.size, 0, none⟩) 1 1, .slice none 0 0] 28)) = w3 at *
  clear hl
  generalize w2.heap.size + 1 = bG at G3 cG3 ⊢
  go_wp2_with fail
  refine (awake_any _).mono ?_
  rintro x w4 ⟨rfl, hb⟩
  have HB4 := Lib.hid (stepB HB3.out hb)
  have L4 := Lib.hid (L3.out.later hb)
  have I4 := Lib.hid (I3.out.later hb)
  have G4 := Lib.hid (G3.out.later hb)
  have cL4 := L4.out.1
  have cI4 := I4.out.1
  have cG4 := G4.out.1
  clear L3 cL3 I3 cI3 G3 cG3 HB3
  clear hb
  go_wp2_with fail
  refine (may_c true L4.out.2 (by decide +kernel)).mono ?_
  rintro x w5 ⟨rfl, hb⟩
  have HB5 := Lib.hid (stepB HB4.out hb)
  have L5 := Lib.hid (L4.out.later hb)
  have I5 := Lib.hid (I4.out.later hb)
  have G5 := Lib.hid (G4.out.later hb)
  have cL5 := L5.out.1
  have cI5 := I5.out.1
  have cG5 := G5.out.1
  clear L4 cL4 I4 cI4 G4 cG4 HB4
  clear hb
  go_wp2_with fail
  refine (may_c true I5.out.2 (by decide +kernel)).mono ?_
  rintro x w6 ⟨rfl, hb⟩
  have HB6 := Lib.hid (stepB HB5.out hb)
  have L6 := Lib.hid (L5.out.later hb)
  have I6 := Lib.hid (I5.out.later hb)
  have G6 := Lib.hid (G5.out.later hb)
  have cL6 := L6.out.1
  have cI6 := I6.out.1
  have cG6 := G6.out.1
  clear L5 cL5 I5 cI5 G5 cG5 HB5
  clear hb
  go_wp2_with fail
  refine (may_c true G6.out.2 (by decide +kernel)).mono ?_
  rintro x w7 ⟨rfl, hb⟩
  have HB7 := Lib.hid (stepB HB6.out hb)
  have L7 := Lib.hid (L6.out.later hb)
  have I7 := Lib.hid (I6.out.later hb)
  have G7 := Lib.hid (G6.out.later hb)
  have cL7 := L7.out.1
  have cI7 := I7.out.1
  have cG7 := G7.out.1
  clear L6 cL6 I6 cI6 G6 cG6 HB6
  clear hb
  go_wp2_with fail
  refine (may_c (w := w7) (lf := true) (A := none) (B := none) (C := none) (n := 0) (c := 0) (m := 0) (d := 0) (k := 0) (e := 0) (xs := []) (ks := []) (rs := []) true ⟨Sl.empty _, Sl.empty _, Sl.empty _, by omega⟩ rfl).mono ?_
  rintro x w8 ⟨rfl, hb⟩
  have HB8 := Lib.hid (stepB HB7.out hb)
  have L8 := Lib.hid (L7.out.later hb)
  have I8 := Lib.hid (I7.out.later hb)
  have G8 := Lib.hid (G7.out.later hb)
  have cL8 := L8.out.1
  have cI8 := I8.out.1
  have cG8 := G8.out.1
  clear L7 cL7 I7 cI7 G7 cG7 HB7
  clear hb
  go_wp2_with fail
  refine (kid_c ⟨#[120]⟩ 0 G8.out.2 (by decide +kernel) (by decide +kernel)).mono ?_
  rintro x w9 ⟨rfl, hb⟩
  have HB9 := Lib.hid (stepB HB8.out hb)
  have L9 := Lib.hid (L8.out.later hb)
  have I9 := Lib.hid (I8.out.later hb)
  have G9 := Lib.hid (G8.out.later hb)
  have cL9 := L9.out.1
  have cI9 := I9.out.1
  have cG9 := G9.out.1
  clear L8 cL8 I8 cI8 G8 cG8 HB8
  clear hb
  go_upto_region 7 with (fail)
  rw [show (((((((((((((((w9.alloc (.cells #[.string ⟨#[97]⟩] 9)).alloc (.cells #[.int .u64 1] 24)).alloc (.cells #[.int .i64 1] 3)).alloc (.cells #[.string ⟨#[97]⟩] 9)).alloc (.cells #[.int .i64 1] 3)).alloc (.cells #[.int .i64 1] 3)).alloc (.cells #[.int .u64 1] 24)).alloc (.cells #[.int .i64 1, .int .i64 2] 3)).alloc (.cells #[.string ⟨#[97]⟩, .string ⟨#[97]⟩] 9)).alloc (.cells #[.int .u64 1, .int .u64 2] 24)).alloc (.cells #[.string ⟨#[98]⟩, .string ⟨#[97]⟩, .string ⟨#[99]⟩] 9)).alloc (.cells #[.int .u64 1, .int .u64 2, .int .u64 3] 24)).alloc (.cells #[.string ⟨#[98]⟩, .string ⟨#[99]⟩, .string ⟨#[97]⟩] 9)).alloc (.cells #[.int .i64 1, .int .i64 2, .int .i64 3, .int .i64 4] 3)).alloc (.cells #[.bool false, .slice none 0 0, .slice none 0 0, .slice none 0 0, .bool true, .slice (some ⟨w9.heap.size, 0, none⟩) 1 1, .slice none 0 0, .slice none 0 0, .bool true, .slice none 0 0, .slice none 0 0, .slice (some ⟨w9.heap.size + 1, 0, none⟩) 1 1, .bool true, .slice none 0 0, .slice (some ⟨w9.heap.size + 1 + 1, 0, none⟩) 1 1, .slice none 0 0, .bool false, .slice (some ⟨w9.heap.size + 1 + 1 + 1, 0, none⟩) 1 1, .slice (some ⟨w9.heap.size + 1 + 1 + 1 + 1, 0, none⟩) 1 1, .slice none 0 0, .bool false, .slice none 0 0, .slice (some ⟨w9.heap.size + 1 + 1 + 1 + 1 + 1, 0, none⟩) 1 1, .slice (some ⟨w9.heap.size + 1 + 1 + 1 + 1 + 1 + 1, 0, none⟩) 1 1, .bool false, .slice none 0 0, .slice (some ⟨w9.heap.size + 1 + 1 + 1 + 1 + 1 + 1 + 1, 0, none⟩) 2 2, .slice none 0 0, .bool true, .slice (some ⟨w9.heap.size + 1 + 1 + 1 + 1 + 1 + 1 + 1 + 1, 0, none⟩) 2 2, .slice none 0 0, .slice (some ⟨w9.heap.size + 1 + 1 + 1 + 1 + 1 + 1 + 1 + 1 + 1, 0, none⟩) 2 2, .bool true, .slice (some ⟨w9.heap.size + 1 + 1 + 1 + 1 + 1 + 1 + 1 + 1 + 1 + 1, 0, none⟩) 3 3, .slice none 0 0, .slice (some ⟨w9.heap.size + 1 + 1 + 1 + 1 + 1 + 1 + 1 + 1 + 1 + 1 + 1, 0, none⟩) 3 3, .bool false, .slice (some ⟨w9.heap.size + 1 + 1 + 1 + 1 + 1 + 1 + 1 + 1 + 1 + 1 + 1 + 1, 0, none⟩) 3 3, .slice (some ⟨w9.heap.size + 1 + 1 + 1 + 1 + 1 + 1 + 1 + 1 + 1 + 1 + 1 + 1 + 1, 0, none⟩) 4 4, .slice none 0 0] 28)) = LW w9 from rfl]
  have hbw := LW.below w9
  have HLIT : Hid (∀ (W : World), Below (LW w9).heap.size (LW w9) W → ∀ j, j < 10 → ∃ (lf : Bool) (A B C : Option Addr) (n m k : Nat) (xs : List ByteArray) (ks rs : List Int), (W.cell? ⟨w9.heap.size + 1 + 1 + 1 + 1 + 1 + 1 + 1 + 1 + 1 + 1 + 1 + 1 + 1 + 1, j * 4, none⟩ = some (.bool lf) ∧ W.cell? ⟨w9.heap.size + 1 + 1 + 1 + 1 + 1 + 1 + 1 + 1 + 1 + 1 + 1 + 1 + 1 + 1, j * 4 + 1, none⟩ = some (.slice A n n) ∧ W.cell? ⟨w9.heap.size + 1 + 1 + 1 + 1 + 1 + 1 + 1 + 1 + 1 + 1 + 1 + 1 + 1 + 1, j * 4 + 2, none⟩ = some (.slice B m m) ∧ W.cell? ⟨w9.heap.size + 1 + 1 + 1 + 1 + 1 + 1 + 1 + 1 + 1 + 1 + 1 + 1 + 1 + 1, j * 4 + 3, none⟩ = some (.slice C k k)) ∧ Nd W A B C n n m m k k xs ks rs ∧ mayB lf xs m k = false) := fun W h j hj => lit_at w9 W h j hj
  have HB10 := Lib.hid (stepB HB9.out hbw)
  have L10 := Lib.hid (L9.out.later hbw)
  have I10 := Lib.hid (I9.out.later hbw)
  have G10 := Lib.hid (G9.out.later hbw)
  have cL10 := L10.out.1
  have cI10 := I10.out.1
  have cG10 := G10.out.1
  clear L9 cL9 I9 cI9 G9 cG9 HB9
  clear hbw
  generalize LW w9 = w10 at *
  generalize w9.heap.size + 1 + 1 + 1 + 1 + 1 + 1 + 1 + 1 + 1 + 1 + 1 + 1 + 1 + 1 = bT at *
  go_loopw [118] (fun i wr => ∃ k : Nat, k ≤ 10 ∧ i = .int .i64 k ∧ Below w10.heap.size w10 wr) (fun i _ => 10 - (intOf i).toNat)
  case atStart => exact ⟨0, by omega, rfl, Below.refl _ _⟩
  case round =>
    obtain ⟨j, hj, rfl, hbr⟩ := hrel
    obtain ⟨wr0, rfl⟩ : ∃ W : World, W = wr := ⟨_, rfl⟩
    by_cases hlt : j < 10
    · obtain ⟨lf, A, B, C, n, m, k, xs, ks, rs, ⟨x0, x1, x2, x3⟩, hnd, hM⟩ := HLIT.out wr0 hbr j hlt
      have HBr0 := Lib.hid hbr
      have HM := Lib.hid hM
      have HND := Lib.hid hnd
      have HMN : Hid ((!lf && mayB lf xs m k) = false) := by show _ = _; rw [HM.out, Bool.and_false]
      have HFN : Hid (fenceB lf xs m k 0 = false) := by show _ = _; unfold fenceB; rw [HMN.out]; rfl
      have hx : ∀ W, (Instr.indexAt 32 (.slice (some ⟨bT, 0, none⟩) 10 10) (.int .i64 (j : Int))).run Try.prog W = .ok (.pointer (some ⟨bT, j * 4, none⟩)) W := fun W => by
        have h1 : (0 : Int) ≤ (j : Int) ∧ (j : Int) < 10 := by omega
        go_simp
      have hi1 : (j : Int) < 10 := by omega
      clear hbr hM hnd
      go_upto_region 9 with (fail)
      have hbw : Below wr0.heap.size wr0 (wr0.alloc (.cells #[.bool lf, .slice A n n, .slice B m m, .slice C k k] 28)) := (Below.refl _ _).alloc (Nat.le_refl _) _
      have Xr1 := Lib.hid (VarAt.new (lf := lf) HND.out)
      have HBr1 := Lib.hid (stepB HBr0.out hbw)
      clear  HBr0
      clear hbw
      have cXr1 := Xr1.out.1
      try simp only [World.size_alloc] at Xr1 cXr1
      generalize (wr0.alloc (.cells #[.bool lf, .slice A n n, .slice B m m, .slice C k k] 28)) = wr1 at *
      generalize wr0.heap.size = bX at Xr1 cXr1 ⊢
      clear x0 x1 x2 x3 hx HND
      go_wp2_with fail
      refine (place_no ⟨#[97]⟩ Xr1.out.2 HM.out).mono ?_
      rintro x wr2 ⟨rfl, hb⟩
      have HBr2 := Lib.hid (stepB HBr1.out hb)
      have Xr2 := Lib.hid (Xr1.out.later hb)
      have cXr2 := Xr2.out.1
      clear Xr1 cXr1 HBr1
      clear hb
      go_wp2_with fail
      refine (put_no ⟨#[120]⟩ 1 Xr2.out.2 (.inl HM.out)).mono ?_
      rintro x wr3 ⟨A0, B0, C0, c0, d0, e0, rfl, h0, hb⟩
      have HBr3 := Lib.hid (stepB HBr2.out hb)
      have Xr3 := Lib.hid (Xr2.out.later hb)
      have cXr3 := Xr3.out.1
      clear Xr2 cXr2 HBr2
      clear hb
      clear h0
      go_upto_region 11 with (fail)
      have hbw : Below wr3.heap.size wr3 (wr3.alloc (.cells #[.bool false, .slice A0 0 c0, .slice B0 0 d0, .slice C0 0 e0] 28)) := (Below.refl _ _).alloc (Nat.le_refl _) _
      have HBr4 := Lib.hid (stepB HBr3.out hbw)
      have Xr4 := Lib.hid (Xr3.out.later hbw)
      have cXr4 := Xr4.out.1
      clear Xr3 cXr3 HBr3
      clear hbw
      generalize (wr3.alloc (.cells #[.bool false, .slice A0 0 c0, .slice B0 0 d0, .slice C0 0 e0] 28)) = wr4 at *
      go_wp2_with fail
      refine (take_no ⟨#[97]⟩ Xr4.out.2 (.inl HM.out)).mono ?_
      rintro x wr5 ⟨A0, B0, C0, c0, d0, e0, rfl, h0, hb⟩
      have HBr5 := Lib.hid (stepB HBr4.out hb)
      have Xr5 := Lib.hid (Xr4.out.later hb)
      have cXr5 := Xr5.out.1
      clear Xr4 cXr4 HBr4
      clear hb
      clear h0
      go_upto_region 12 with (fail)
      have hbw : Below wr5.heap.size wr5 (wr5.alloc (.cells #[.bool false, .slice A0 0 c0, .slice B0 0 d0, .slice C0 0 e0] 28)) := (Below.refl _ _).alloc (Nat.le_refl _) _
      have HBr6 := Lib.hid (stepB HBr5.out hbw)
      have Xr6 := Lib.hid (Xr5.out.later hbw)
      have cXr6 := Xr6.out.1
      clear Xr5 cXr5 HBr5
      clear hbw
      generalize (wr5.alloc (.cells #[.bool false, .slice A0 0 c0, .slice B0 0 d0, .slice C0 0 e0] 28)) = wr6 at *
      go_wp2_with fail
      refine (split_no Xr6.out.2 (.inl HM.out)).mono ?_
      rintro x wr7 ⟨A0, B0, C0, c0, d0, e0, A0', B0', C0', c0', d0', e0', rfl, hb⟩
      have HBr7 := Lib.hid (stepB HBr6.out hb)
      have Xr7 := Lib.hid (Xr6.out.later hb)
      have cXr7 := Xr7.out.1
      clear Xr6 cXr6 HBr6
      clear hb
      go_upto_region 13 with (fail)
      have hbw : Below wr7.heap.size wr7 ((wr7.alloc (.cells #[.bool false, .slice A0 0 c0, .slice B0 0 d0, .slice C0 0 e0] 28)).alloc (.cells #[.bool false, .slice A0' 0 c0', .slice B0' 0 d0', .slice C0' 0 e0'] 28)) := ((Below.refl _ _).alloc (Nat.le_refl _) _).alloc (by simp) _
      have HBr8 := Lib.hid (stepB HBr7.out hbw)
      have Xr8 := Lib.hid (Xr7.out.later hbw)
      have cXr8 := Xr8.out.1
      clear Xr7 cXr7 HBr7
      clear hbw
      generalize ((wr7.alloc (.cells #[.bool false, .slice A0 0 c0, .slice B0 0 d0, .slice C0 0 e0] 28)).alloc (.cells #[.bool false, .slice A0' 0 c0', .slice B0' 0 d0', .slice C0' 0 e0'] 28)) = wr8 at *
      go_wp2_with fail
      refine (graft_no ⟨#[120]⟩ 1 Xr8.out.2 HMN.out).mono ?_
      rintro x wr9 ⟨A0, B0, C0, c0, d0, e0, rfl, h0, hb⟩
      have HBr9 := Lib.hid (stepB HBr8.out hb)
      have Xr9 := Lib.hid (Xr8.out.later hb)
      have cXr9 := Xr9.out.1
      clear Xr8 cXr8 HBr8
      clear hb
      clear h0
      go_upto_region 14 with (fail)
      have hbw : Below wr9.heap.size wr9 (wr9.alloc (.cells #[.bool false, .slice A0 0 c0, .slice B0 0 d0, .slice C0 0 e0] 28)) := (Below.refl _ _).alloc (Nat.le_refl _) _
      have HBr10 := Lib.hid (stepB HBr9.out hbw)
      have Xr10 := Lib.hid (Xr9.out.later hbw)
      have cXr10 := Xr10.out.1
      clear Xr9 cXr9 HBr9
      clear hbw
      generalize (wr9.alloc (.cells #[.bool false, .slice A0 0 c0, .slice B0 0 d0, .slice C0 0 e0] 28)) = wr10 at *
      go_wp2_with fail
      refine (cut_no 0 Xr10.out.2 HMN.out).mono ?_
      rintro x wr11 ⟨A0, B0, C0, c0, d0, e0, rfl, h0, hb⟩
      have HBr11 := Lib.hid (stepB HBr10.out hb)
      have Xr11 := Lib.hid (Xr10.out.later hb)
      have cXr11 := Xr11.out.1
      clear Xr10 cXr10 HBr10
      clear hb
      clear h0
      go_upto_region 15 with (fail)
      have hbw : Below wr11.heap.size wr11 (wr11.alloc (.cells #[.bool false, .slice A0 0 c0, .slice B0 0 d0, .slice C0 0 e0] 28)) := (Below.refl _ _).alloc (Nat.le_refl _) _
      have HBr12 := Lib.hid (stepB HBr11.out hbw)
      have Xr12 := Lib.hid (Xr11.out.later hbw)
      have cXr12 := Xr12.out.1
      clear Xr11 cXr11 HBr11
      clear hbw
      generalize (wr11.alloc (.cells #[.bool false, .slice A0 0 c0, .slice B0 0 d0, .slice C0 0 e0] 28)) = wr12 at *
      go_wp2_with fail
      refine (fence_no_c 0 Xr12.out.2 HFN.out).mono ?_
      rintro x wr13 ⟨rfl, hb⟩
      have HBr13 := Lib.hid (stepB HBr12.out hb)
      have Xr13 := Lib.hid (Xr12.out.later hb)
      have cXr13 := Xr13.out.1
      clear Xr12 cXr12 HBr12
      clear hb
      go_wp2_with fail
      refine (may_c false Xr13.out.2 HM.out).mono ?_
      rintro x wr14 ⟨rfl, hb⟩
      have HBr14 := Lib.hid (stepB HBr13.out hb)
      have Xr14 := Lib.hid (Xr13.out.later hb)
      have cXr14 := Xr14.out.1
      clear Xr13 cXr13 HBr13
      clear hb
      go_wp2_with fail
      refine (kid_no ⟨#[122]⟩ Xr14.out.2 HM.out).mono ?_
      rintro x wr15 ⟨rfl, hb⟩
      have HBr15 := Lib.hid (stepB HBr14.out hb)
      have Xr15 := Lib.hid (Xr14.out.later hb)
      have cXr15 := Xr15.out.1
      clear Xr14 cXr14 HBr14
      clear hb
      go_wp2
      go_roundw
      case rel => exact ⟨j + 1, by omega, by go_num, HBr15.out⟩
      case measure => simp [intOf]; omega
    · have hi2 : ¬ (j : Int) < 10 := by omega
      obtain ⟨w11, rfl⟩ : ∃ W : World, W = wr0 := ⟨_, rfl⟩
      have HB11 := Lib.hid (stepB HB10.out hbr)
      have L11 := Lib.hid (L10.out.later hbr)
      have I11 := Lib.hid (I10.out.later hbr)
      have G11 := Lib.hid (G10.out.later hbr)
      have cL11 := L11.out.1
      have cI11 := I11.out.1
      have cG11 := G11.out.1
      clear L10 cL10 I10 cI10 G10 cG10 HB10
      clear hbr HLIT
      go_upto_region 19 with (fail)
      clear hi2 hlt hj
      go_wp2_with fail
      refine ((put_twice _ _ _ 2 _ _ _ 2 _ _ _ _ ⟨#[97]⟩ 9 _ L11.out.2 (by decide +kernel) (by decide +kernel)).mono (fun x w' h => no_of h)).mono ?_
      rintro x w12 ⟨A0, B0, C0, c0, d0, e0, rfl, h0, hb⟩
      have HB12 := Lib.hid (stepB HB11.out hb)
      have L12 := Lib.hid (L11.out.later hb)
      have I12 := Lib.hid (I11.out.later hb)
      have G12 := Lib.hid (G11.out.later hb)
      have cL12 := L12.out.1
      have cI12 := I12.out.1
      have cG12 := G12.out.1
      clear L11 cL11 I11 cI11 G11 cG11 HB11
      clear hb
      clear h0
      go_upto_region 20 with (fail)
      have hbw : Below w12.heap.size w12 (w12.alloc (.cells #[.bool false, .slice A0 0 c0, .slice B0 0 d0, .slice C0 0 e0] 28)) := (Below.refl _ _).alloc (Nat.le_refl _) _
      have HB13 := Lib.hid (stepB HB12.out hbw)
      have L13 := Lib.hid (L12.out.later hbw)
      have I13 := Lib.hid (I12.out.later hbw)
      have G13 := Lib.hid (G12.out.later hbw)
      have cL13 := L13.out.1
      have cI13 := I13.out.1
      have cG13 := G13.out.1
      clear L12 cL12 I12 cI12 G12 cG12 HB12
      clear hbw
      generalize (w12.alloc (.cells #[.bool false, .slice A0 0 c0, .slice B0 0 d0, .slice C0 0 e0] 28)) = w13 at *
      go_wp2_with fail
      refine ((take_none _ _ _ 2 _ _ _ 2 _ _ _ _ ⟨#[98]⟩ _ L13.out.2 (by decide +kernel) (by decide +kernel)).mono (fun x w' h => no_of h)).mono ?_
      rintro x w14 ⟨A0, B0, C0, c0, d0, e0, rfl, h0, hb⟩
      have HB14 := Lib.hid (stepB HB13.out hb)
      have L14 := Lib.hid (L13.out.later hb)
      have I14 := Lib.hid (I13.out.later hb)
      have G14 := Lib.hid (G13.out.later hb)
      have cL14 := L14.out.1
      have cI14 := I14.out.1
      have cG14 := G14.out.1
      clear L13 cL13 I13 cI13 G13 cG13 HB13
      clear hb
      clear h0
      go_upto_region 21 with (fail)
      have hbw : Below w14.heap.size w14 (w14.alloc (.cells #[.bool false, .slice A0 0 c0, .slice B0 0 d0, .slice C0 0 e0] 28)) := (Below.refl _ _).alloc (Nat.le_refl _) _
      have HB15 := Lib.hid (stepB HB14.out hbw)
      have L15 := Lib.hid (L14.out.later hbw)
      have I15 := Lib.hid (I14.out.later hbw)
      have G15 := Lib.hid (G14.out.later hbw)
      have cL15 := L15.out.1
      have cI15 := I15.out.1
      have cG15 := G15.out.1
      clear L14 cL14 I14 cI14 G14 cG14 HB14
      clear hbw
      generalize (w14.alloc (.cells #[.bool false, .slice A0 0 c0, .slice B0 0 d0, .slice C0 0 e0] 28)) = w15 at *
      go_wp2_with fail
      refine (split_no L15.out.2 (.inr ⟨by decide +kernel, by omega⟩)).mono ?_
      rintro x w16 ⟨A0, B0, C0, c0, d0, e0, A0', B0', C0', c0', d0', e0', rfl, hb⟩
      have HB16 := Lib.hid (stepB HB15.out hb)
      have L16 := Lib.hid (L15.out.later hb)
      have I16 := Lib.hid (I15.out.later hb)
      have G16 := Lib.hid (G15.out.later hb)
      have cL16 := L16.out.1
      have cI16 := I16.out.1
      have cG16 := G16.out.1
      clear L15 cL15 I15 cI15 G15 cG15 HB15
      clear hb
      go_upto_region 22 with (fail)
      have hbw : Below w16.heap.size w16 ((w16.alloc (.cells #[.bool false, .slice A0 0 c0, .slice B0 0 d0, .slice C0 0 e0] 28)).alloc (.cells #[.bool false, .slice A0' 0 c0', .slice B0' 0 d0', .slice C0' 0 e0'] 28)) := ((Below.refl _ _).alloc (Nat.le_refl _) _).alloc (by simp) _
      have HB17 := Lib.hid (stepB HB16.out hbw)
      have L17 := Lib.hid (L16.out.later hbw)
      have I17 := Lib.hid (I16.out.later hbw)
      have G17 := Lib.hid (G16.out.later hbw)
      have cL17 := L17.out.1
      have cI17 := I17.out.1
      have cG17 := G17.out.1
      clear L16 cL16 I16 cI16 G16 cG16 HB16
      clear hbw
      generalize ((w16.alloc (.cells #[.bool false, .slice A0 0 c0, .slice B0 0 d0, .slice C0 0 e0] 28)).alloc (.cells #[.bool false, .slice A0' 0 c0', .slice B0' 0 d0', .slice C0' 0 e0'] 28)) = w17 at *
      go_wp2_with fail
      refine (graft_no ⟨#[120]⟩ 1 L17.out.2 rfl).mono ?_
      rintro x w18 ⟨A0, B0, C0, c0, d0, e0, rfl, h0, hb⟩
      have HB18 := Lib.hid (stepB HB17.out hb)
      have L18 := Lib.hid (L17.out.later hb)
      have I18 := Lib.hid (I17.out.later hb)
      have G18 := Lib.hid (G17.out.later hb)
      have cL18 := L18.out.1
      have cI18 := I18.out.1
      have cG18 := G18.out.1
      clear L17 cL17 I17 cI17 G17 cG17 HB17
      clear hb
      clear h0
      go_upto_region 23 with (fail)
      have hbw : Below w18.heap.size w18 (w18.alloc (.cells #[.bool false, .slice A0 0 c0, .slice B0 0 d0, .slice C0 0 e0] 28)) := (Below.refl _ _).alloc (Nat.le_refl _) _
      have HB19 := Lib.hid (stepB HB18.out hbw)
      have L19 := Lib.hid (L18.out.later hbw)
      have I19 := Lib.hid (I18.out.later hbw)
      have G19 := Lib.hid (G18.out.later hbw)
      have cL19 := L19.out.1
      have cI19 := I19.out.1
      have cG19 := G19.out.1
      clear L18 cL18 I18 cI18 G18 cG18 HB18
      clear hbw
      generalize (w18.alloc (.cells #[.bool false, .slice A0 0 c0, .slice B0 0 d0, .slice C0 0 e0] 28)) = w19 at *
      go_wp2_with fail
      refine (cut_no 0 L19.out.2 rfl).mono ?_
      rintro x w20 ⟨A0, B0, C0, c0, d0, e0, rfl, h0, hb⟩
      have HB20 := Lib.hid (stepB HB19.out hb)
      have L20 := Lib.hid (L19.out.later hb)
      have I20 := Lib.hid (I19.out.later hb)
      have G20 := Lib.hid (G19.out.later hb)
      have cL20 := L20.out.1
      have cI20 := I20.out.1
      have cG20 := G20.out.1
      clear L19 cL19 I19 cI19 G19 cG19 HB19
      clear hb
      clear h0
      go_upto_region 24 with (fail)
      have hbw : Below w20.heap.size w20 (w20.alloc (.cells #[.bool false, .slice A0 0 c0, .slice B0 0 d0, .slice C0 0 e0] 28)) := (Below.refl _ _).alloc (Nat.le_refl _) _
      have HB21 := Lib.hid (stepB HB20.out hbw)
      have L21 := Lib.hid (L20.out.later hbw)
      have I21 := Lib.hid (I20.out.later hbw)
      have G21 := Lib.hid (G20.out.later hbw)
      have cL21 := L21.out.1
      have cI21 := I21.out.1
      have cG21 := G21.out.1
      clear L20 cL20 I20 cI20 G20 cG20 HB20
      clear hbw
      generalize (w20.alloc (.cells #[.bool false, .slice A0 0 c0, .slice B0 0 d0, .slice C0 0 e0] 28)) = w21 at *
      go_wp2_with fail
      refine (put_no ⟨#[120]⟩ 1 I21.out.2 (.inr rfl)).mono ?_
      rintro x w22 ⟨A0, B0, C0, c0, d0, e0, rfl, h0, hb⟩
      have HB22 := Lib.hid (stepB HB21.out hb)
      have L22 := Lib.hid (L21.out.later hb)
      have I22 := Lib.hid (I21.out.later hb)
      have G22 := Lib.hid (G21.out.later hb)
      have cL22 := L22.out.1
      have cI22 := I22.out.1
      have cG22 := G22.out.1
      clear L21 cL21 I21 cI21 G21 cG21 HB21
      clear hb
      clear h0
      go_upto_region 25 with (fail)
      have hbw : Below w22.heap.size w22 (w22.alloc (.cells #[.bool false, .slice A0 0 c0, .slice B0 0 d0, .slice C0 0 e0] 28)) := (Below.refl _ _).alloc (Nat.le_refl _) _
      have HB23 := Lib.hid (stepB HB22.out hbw)
      have L23 := Lib.hid (L22.out.later hbw)
      have I23 := Lib.hid (I22.out.later hbw)
      have G23 := Lib.hid (G22.out.later hbw)
      have cL23 := L23.out.1
      have cI23 := I23.out.1
      have cG23 := G23.out.1
      clear L22 cL22 I22 cI22 G22 cG22 HB22
      clear hbw
      generalize (w22.alloc (.cells #[.bool false, .slice A0 0 c0, .slice B0 0 d0, .slice C0 0 e0] 28)) = w23 at *
      go_wp2_with fail
      refine (take_no ⟨#[97]⟩ I23.out.2 (.inr rfl)).mono ?_
      rintro x w24 ⟨A0, B0, C0, c0, d0, e0, rfl, h0, hb⟩
      have HB24 := Lib.hid (stepB HB23.out hb)
      have L24 := Lib.hid (L23.out.later hb)
      have I24 := Lib.hid (I23.out.later hb)
      have G24 := Lib.hid (G23.out.later hb)
      have cL24 := L24.out.1
      have cI24 := I24.out.1
      have cG24 := G24.out.1
      clear L23 cL23 I23 cI23 G23 cG23 HB23
      clear hb
      clear h0
      go_upto_region 26 with (fail)
      have hbw : Below w24.heap.size w24 (w24.alloc (.cells #[.bool false, .slice A0 0 c0, .slice B0 0 d0, .slice C0 0 e0] 28)) := (Below.refl _ _).alloc (Nat.le_refl _) _
      have HB25 := Lib.hid (stepB HB24.out hbw)
      have L25 := Lib.hid (L24.out.later hbw)
      have I25 := Lib.hid (I24.out.later hbw)
      have G25 := Lib.hid (G24.out.later hbw)
      have cL25 := L25.out.1
      have cI25 := I25.out.1
      have cG25 := G25.out.1
      clear L24 cL24 I24 cI24 G24 cG24 HB24
      clear hbw
      generalize (w24.alloc (.cells #[.bool false, .slice A0 0 c0, .slice B0 0 d0, .slice C0 0 e0] 28)) = w25 at *
      go_wp2_with fail
      refine ((graft_twice _ _ _ 1 _ 2 _ _ _ _ _ _ ⟨#[97]⟩ 1 _ I25.out.2 (by decide +kernel) (by decide +kernel)).mono (fun x w' h => no_of h)).mono ?_
      rintro x w26 ⟨A0, B0, C0, c0, d0, e0, rfl, h0, hb⟩
      have HB26 := Lib.hid (stepB HB25.out hb)
      have L26 := Lib.hid (L25.out.later hb)
      have I26 := Lib.hid (I25.out.later hb)
      have G26 := Lib.hid (G25.out.later hb)
      have cL26 := L26.out.1
      have cI26 := I26.out.1
      have cG26 := G26.out.1
      clear L25 cL25 I25 cI25 G25 cG25 HB25
      clear hb
      clear h0
      go_upto_region 27 with (fail)
      have hbw : Below w26.heap.size w26 (w26.alloc (.cells #[.bool false, .slice A0 0 c0, .slice B0 0 d0, .slice C0 0 e0] 28)) := (Below.refl _ _).alloc (Nat.le_refl _) _
      have HB27 := Lib.hid (stepB HB26.out hbw)
      have L27 := Lib.hid (L26.out.later hbw)
      have I27 := Lib.hid (I26.out.later hbw)
      have G27 := Lib.hid (G26.out.later hbw)
      have cL27 := L27.out.1
      have cI27 := I27.out.1
      have cG27 := G27.out.1
      clear L26 cL26 I26 cI26 G26 cG26 HB26
      clear hbw
      generalize (w26.alloc (.cells #[.bool false, .slice A0 0 c0, .slice B0 0 d0, .slice C0 0 e0] 28)) = w27 at *
      go_wp2_with fail
      refine ((cut_none_high _ _ _ 1 _ 2 _ _ _ _ _ _ 2 _ I27.out.2 (by decide +kernel) (by omega) (by omega)).mono (fun x w' h => no_of h)).mono ?_
      rintro x w28 ⟨A0, B0, C0, c0, d0, e0, rfl, h0, hb⟩
      have HB28 := Lib.hid (stepB HB27.out hb)
      have L28 := Lib.hid (L27.out.later hb)
      have I28 := Lib.hid (I27.out.later hb)
      have G28 := Lib.hid (G27.out.later hb)
      have cL28 := L28.out.1
      have cI28 := I28.out.1
      have cG28 := G28.out.1
      clear L27 cL27 I27 cI27 G27 cG27 HB27
      clear hb
      clear h0
      go_upto_region 28 with (fail)
      have hbw : Below w28.heap.size w28 (w28.alloc (.cells #[.bool false, .slice A0 0 c0, .slice B0 0 d0, .slice C0 0 e0] 28)) := (Below.refl _ _).alloc (Nat.le_refl _) _
      have HB29 := Lib.hid (stepB HB28.out hbw)
      have L29 := Lib.hid (L28.out.later hbw)
      have I29 := Lib.hid (I28.out.later hbw)
      have G29 := Lib.hid (G28.out.later hbw)
      have cL29 := L29.out.1
      have cI29 := I29.out.1
      have cG29 := G29.out.1
      clear L28 cL28 I28 cI28 G28 cG28 HB28
      clear hbw
      generalize (w28.alloc (.cells #[.bool false, .slice A0 0 c0, .slice B0 0 d0, .slice C0 0 e0] 28)) = w29 at *
      go_wp2_with fail
      refine ((cut_none_low _ _ _ 1 _ 2 _ _ _ _ _ _ (-1) _ I29.out.2 (by decide +kernel) (by omega) (by omega)).mono (fun x w' h => no_of h)).mono ?_
      rintro x w30 ⟨A0, B0, C0, c0, d0, e0, rfl, h0, hb⟩
      have HB30 := Lib.hid (stepB HB29.out hb)
      have L30 := Lib.hid (L29.out.later hb)
      have I30 := Lib.hid (I29.out.later hb)
      have G30 := Lib.hid (G29.out.later hb)
      have cL30 := L30.out.1
      have cI30 := I30.out.1
      have cG30 := G30.out.1
      clear L29 cL29 I29 cI29 G29 cG29 HB29
      clear hb
      clear h0
      go_upto_region 29 with (fail)
      have hbw : Below w30.heap.size w30 (w30.alloc (.cells #[.bool false, .slice A0 0 c0, .slice B0 0 d0, .slice C0 0 e0] 28)) := (Below.refl _ _).alloc (Nat.le_refl _) _
      have HB31 := Lib.hid (stepB HB30.out hbw)
      have L31 := Lib.hid (L30.out.later hbw)
      have I31 := Lib.hid (I30.out.later hbw)
      have G31 := Lib.hid (G30.out.later hbw)
      have cL31 := L31.out.1
      have cI31 := I31.out.1
      have cG31 := G31.out.1
      clear L30 cL30 I30 cI30 G30 cG30 HB30
      clear hbw
      generalize (w30.alloc (.cells #[.bool false, .slice A0 0 c0, .slice B0 0 d0, .slice C0 0 e0] 28)) = w31 at *
      go_wp2_with fail
      refine ((cut_one _ _ _ _ _ 1 _ _ _ _ _ _ 0 _ G31.out.2 (by decide +kernel) rfl).mono (fun x w' h => no_of h)).mono ?_
      rintro x w32 ⟨A0, B0, C0, c0, d0, e0, rfl, h0, hb⟩
      have HB32 := Lib.hid (stepB HB31.out hb)
      have L32 := Lib.hid (L31.out.later hb)
      have I32 := Lib.hid (I31.out.later hb)
      have G32 := Lib.hid (G31.out.later hb)
      have cL32 := L32.out.1
      have cI32 := I32.out.1
      have cG32 := G32.out.1
      clear L31 cL31 I31 cI31 G31 cG31 HB31
      clear hb
      clear h0
      go_upto_region 30 with (fail)
      have hbw : Below w32.heap.size w32 (w32.alloc (.cells #[.bool false, .slice A0 0 c0, .slice B0 0 d0, .slice C0 0 e0] 28)) := (Below.refl _ _).alloc (Nat.le_refl _) _
      have HB33 := Lib.hid (stepB HB32.out hbw)
      have L33 := Lib.hid (L32.out.later hbw)
      have I33 := Lib.hid (I32.out.later hbw)
      have G33 := Lib.hid (G32.out.later hbw)
      have cL33 := L33.out.1
      have cI33 := I33.out.1
      have cG33 := G33.out.1
      clear L32 cL32 I32 cI32 G32 cG32 HB32
      clear hbw
      generalize (w32.alloc (.cells #[.bool false, .slice A0 0 c0, .slice B0 0 d0, .slice C0 0 e0] 28)) = w33 at *
      go_wp2_with fail
      refine (fence_no_c 0 L33.out.2 (by decide +kernel)).mono ?_
      rintro x w34 ⟨rfl, hb⟩
      have HB34 := Lib.hid (stepB HB33.out hb)
      have L34 := Lib.hid (L33.out.later hb)
      have I34 := Lib.hid (I33.out.later hb)
      have G34 := Lib.hid (G33.out.later hb)
      have cL34 := L34.out.1
      have cI34 := I34.out.1
      have cG34 := G34.out.1
      clear L33 cL33 I33 cI33 G33 cG33 HB33
      clear hb
      go_wp2_with fail
      refine (fence_no_c (-1) I34.out.2 (by decide +kernel)).mono ?_
      rintro x w35 ⟨rfl, hb⟩
      have HB35 := Lib.hid (stepB HB34.out hb)
      have L35 := Lib.hid (L34.out.later hb)
      have I35 := Lib.hid (I34.out.later hb)
      have G35 := Lib.hid (G34.out.later hb)
      have cL35 := L35.out.1
      have cI35 := I35.out.1
      have cG35 := G35.out.1
      clear L34 cL34 I34 cI34 G34 cG34 HB34
      clear hb
      go_upto_region 35 with (fail)
      have hl : Nd ((w35.alloc (.cells #[.string ⟨#[97]⟩] 9)).alloc (.cells #[.int .u64 1] 24)) (some ⟨w35.heap.size, 0, none⟩) none (some ⟨w35.heap.size + 1, 0, none⟩) 1 1 0 0 1 1 [⟨#[97]⟩] [] [1] := nd_lit2 w35 [⟨#[97]⟩] [1] (by decide)
      have hbw : Below w35.heap.size w35 (((w35.alloc (.cells #[.string ⟨#[97]⟩] 9)).alloc (.cells #[.int .u64 1] 24)).alloc (.cells #[.bool true, .slice (some ⟨w35.heap.size, 0, none⟩) 1 1, .slice none 0 0, .slice (some ⟨w35.heap.size + 1, 0, none⟩) 1 1] 28)) := (((Below.refl _ _).alloc (Nat.le_refl _) _).alloc (by simp) _).alloc (by simp; omega) _
      have O36 := Lib.hid (VarAt.new (lf := true) hl)
      have HB36 := Lib.hid (stepB HB35.out hbw)
      have L36 := Lib.hid (L35.out.later hbw)
      have I36 := Lib.hid (I35.out.later hbw)
      have G36 := Lib.hid (G35.out.later hbw)
      have cL36 := L36.out.1
      have cI36 := I36.out.1
      have cG36 := G36.out.1
      clear L35 cL35 I35 cI35 G35 cG35 HB35
      clear hbw
      have cO36 := O36.out.1
      try simp only [World.size_alloc] at O36 cO36
      generalize (((w35.alloc (.cells #[.string ⟨#[97]⟩] 9)).alloc (.cells #[.int .u64 1] 24)).alloc (.cells #[.bool true, .slice (some ⟨w35.heap.size, 0, none⟩) 1 1, .slice none 0 0, .slice (some ⟨w35.heap.size + 1, 0, none⟩) 1 1] 28)) = w36 at *
      clear hl
      generalize w35.heap.size + 1 + 1 = bO at O36 cO36 ⊢
      go_wp2_with fail
      refine (safe_c 0 0 false true O36.out.2 (by decide +kernel)).mono ?_
      rintro x w37 ⟨rfl, hb⟩
      have HB37 := Lib.hid (stepB HB36.out hb)
      have L37 := Lib.hid (L36.out.later hb)
      have I37 := Lib.hid (I36.out.later hb)
      have G37 := Lib.hid (G36.out.later hb)
      have O37 := Lib.hid (O36.out.later hb)
      have cL37 := L37.out.1
      have cI37 := I37.out.1
      have cG37 := G37.out.1
      have cO37 := O37.out.1
      clear L36 cL36 I36 cI36 G36 cG36 O36 cO36 HB36
      clear hb
      go_wp2_with fail
      refine (safe_c 1 1 true false O37.out.2 (by decide +kernel)).mono ?_
      rintro x w38 ⟨rfl, hb⟩
      have HB38 := Lib.hid (stepB HB37.out hb)
      have L38 := Lib.hid (L37.out.later hb)
      have I38 := Lib.hid (I37.out.later hb)
      have G38 := Lib.hid (G37.out.later hb)
      have O38 := Lib.hid (O37.out.later hb)
      have cL38 := L38.out.1
      have cI38 := I38.out.1
      have cG38 := G38.out.1
      have cO38 := O38.out.1
      clear L37 cL37 I37 cI37 G37 cG37 O37 cO37 HB37
      clear hb
      go_wp2_with fail
      refine (safe_c 2 1 false true O38.out.2 (by decide +kernel)).mono ?_
      rintro x w39 ⟨rfl, hb⟩
      have HB39 := Lib.hid (stepB HB38.out hb)
      have L39 := Lib.hid (L38.out.later hb)
      have I39 := Lib.hid (I38.out.later hb)
      have G39 := Lib.hid (G38.out.later hb)
      have O39 := Lib.hid (O38.out.later hb)
      have cL39 := L39.out.1
      have cI39 := I39.out.1
      have cG39 := G39.out.1
      have cO39 := O39.out.1
      clear L38 cL38 I38 cI38 G38 cG38 O38 cO38 HB38
      clear hb
      go_wp2_with fail
      refine (safe_c 9 2 false false O39.out.2 (by decide +kernel)).mono ?_
      rintro x w40 ⟨rfl, hb⟩
      have HB40 := Lib.hid (stepB HB39.out hb)
      have L40 := Lib.hid (L39.out.later hb)
      have I40 := Lib.hid (I39.out.later hb)
      have G40 := Lib.hid (G39.out.later hb)
      have O40 := Lib.hid (O39.out.later hb)
      have cL40 := L40.out.1
      have cI40 := I40.out.1
      have cG40 := G40.out.1
      have cO40 := O40.out.1
      clear L39 cL39 I39 cI39 G39 cG39 O39 cO39 HB39
      clear hb
      go_wp2_with fail
      refine (safe_c 9 2 true true O40.out.2 (by decide +kernel)).mono ?_
      rintro x w41 ⟨rfl, hb⟩
      have HB41 := Lib.hid (stepB HB40.out hb)
      have L41 := Lib.hid (L40.out.later hb)
      have I41 := Lib.hid (I40.out.later hb)
      have G41 := Lib.hid (G40.out.later hb)
      have O41 := Lib.hid (O40.out.later hb)
      have cL41 := L41.out.1
      have cI41 := I41.out.1
      have cG41 := G41.out.1
      have cO41 := O41.out.1
      clear L40 cL40 I40 cI40 G40 cG40 O40 cO40 HB40
      clear hb
      go_wp2_with fail
      refine (safe_c 9 2 false true L41.out.2 (by decide +kernel)).mono ?_
      rintro x w42 ⟨rfl, hb⟩
      have HB42 := Lib.hid (stepB HB41.out hb)
      have L42 := Lib.hid (L41.out.later hb)
      have I42 := Lib.hid (I41.out.later hb)
      have G42 := Lib.hid (G41.out.later hb)
      have O42 := Lib.hid (O41.out.later hb)
      have cL42 := L42.out.1
      have cI42 := I42.out.1
      have cG42 := G42.out.1
      have cO42 := O42.out.1
      clear L41 cL41 I41 cI41 G41 cG41 O41 cO41 HB41
      clear hb
      go_wp2_with fail
      refine (safe_c 9 2 false false G42.out.2 (by decide +kernel)).mono ?_
      rintro x w43 ⟨rfl, hb⟩
      have HB43 := Lib.hid (stepB HB42.out hb)
      have L43 := Lib.hid (L42.out.later hb)
      have I43 := Lib.hid (I42.out.later hb)
      have G43 := Lib.hid (G42.out.later hb)
      have O43 := Lib.hid (O42.out.later hb)
      have cL43 := L43.out.1
      have cI43 := I43.out.1
      have cG43 := G43.out.1
      have cO43 := O43.out.1
      clear L42 cL42 I42 cI42 G42 cG42 O42 cO42 HB42
      clear hb
      go_wp2_with fail
      refine (safe_c 9 2 false true I43.out.2 (by decide +kernel)).mono ?_
      rintro x w44 ⟨rfl, hb⟩
      have HB44 := Lib.hid (stepB HB43.out hb)
      have L44 := Lib.hid (L43.out.later hb)
      have I44 := Lib.hid (I43.out.later hb)
      have G44 := Lib.hid (G43.out.later hb)
      have O44 := Lib.hid (O43.out.later hb)
      have cL44 := L44.out.1
      have cI44 := I44.out.1
      have cG44 := G44.out.1
      have cO44 := O44.out.1
      clear L43 cL43 I43 cI43 G43 cG43 O43 cO43 HB43
      clear hb
      go_wp2_with fail
      refine (safe_c 9 2 true false I44.out.2 (by decide +kernel)).mono ?_
      rintro x w45 ⟨rfl, hb⟩
      have HB45 := Lib.hid (stepB HB44.out hb)
      have L45 := Lib.hid (L44.out.later hb)
      have I45 := Lib.hid (I44.out.later hb)
      have G45 := Lib.hid (G44.out.later hb)
      have O45 := Lib.hid (O44.out.later hb)
      have cL45 := L45.out.1
      have cI45 := I45.out.1
      have cG45 := G45.out.1
      have cO45 := O45.out.1
      clear L44 cL44 I44 cI44 G44 cG44 O44 cO44 HB44
      clear hb
      go_wp2_with fail
      refine (safe_c 9 3 true false L45.out.2 (by decide +kernel)).mono ?_
      rintro x w46 ⟨rfl, hb⟩
      have HB46 := Lib.hid (stepB HB45.out hb)
      have L46 := Lib.hid (L45.out.later hb)
      have I46 := Lib.hid (I45.out.later hb)
      have G46 := Lib.hid (G45.out.later hb)
      have O46 := Lib.hid (O45.out.later hb)
      have cL46 := L46.out.1
      have cI46 := I46.out.1
      have cG46 := G46.out.1
      have cO46 := O46.out.1
      clear L45 cL45 I45 cI45 G45 cG45 O45 cO45 HB45
      clear hb
      go_wp2
      go_ret
      exact ⟨rfl, HB46.out⟩


set_option maxRecDepth 100000 in
theorem lifted (os : Os) (started : os.Started) (H : Type) (enc : TypeId × Value → H) :
    ReturnsInHanded {} Try.checked os 3 .any (Rows.forkNamesSpec.pre6 enc Try.prog Try.f3 Rows.forkNamesRow.domain false) (Rows.forkNamesSpec.post enc Try.prog Try.f3 false true false false) := by
  refine returnsInHanded_of_change_sized (C := Try.checked) own started (by kernel_rfl) Try.func3
    (ChangeSpec.witness6 (enc := enc) (C := Try.checked) false ⟨#[], #[], []⟩ 8 (by kernel_rfl) (by kernel_rfl) (by kernel_rfl) (by kernel_rfl)) ?_
  intro W base args ds gs before hval0 hW _ hsz _
  have hval : ∀ (j : Nat) t v, Try.f3.params[j]? = some t → args[j]? = some v → Value.okWide Try.prog W .any base t v := hval0
  have hW' := hW
  obtain ⟨p, q, hA0, hV, hbef, _, _⟩ := hW
  have hA : DataW.TrodAll enc Try.prog W 0 (fun _ => true) true Try.f3.params.toList args.toList ds p := hA0
  rw [Try.params3] at hA hval
  obtain ⟨h1, rfl, rfl⟩ := trodAll_nil hA
  obtain rfl : args = #[] := by cases args; simp_all
  obtain ⟨rfl, rfl⟩ := trodVars_none hV

  refine (walk W).mono fun e W' ⟨he, hb⟩ => ?_
  subst he
  exact ⟨_, rfl, law_post laidOut (of_decide_eq_true (by kernel_rfl)) rfl Try.underlying4 rfl rfl hW' hb⟩

theorem over : Rows.forkNamesRow.holds Try.pinned (OpenSpec.ofChange Rows.forkNamesSpec) :=
  OpenClaim.holds_of_wide 3 Try.f3 rfl rfl rfl rfl rfl rfl rfl ⟨rfl, rfl, rfl, rfl, rfl⟩ rfl rfl rfl rfl rfl (by kernel_rfl) Try.func3 (by kernel_rfl)
    (of_decide_eq_true (by kernel_rfl)) (by unfold Func.isWrapper; first | (rw [if_pos (by decide +kernel)]; kernel_rfl) | (rw [if_neg (by decide +kernel)]; exact ⟨rfl, rfl⟩))
    (fun os started H enc _ => lifted os started H enc)

end Go.Proofs.Ytiojjpmkiljngaa.forkNames
namespace Go.Proofs.Ytiojjpmkiljngaa
theorem forkNames_holds : Rows.ForkNamesSaid := forkNames.over
end Go.Proofs.Ytiojjpmkiljngaa
