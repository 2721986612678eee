/-
The examples; versions that may not be; handles that name nothing; nobody's engine.
-/
import Derived.Test.YtbncpfkoeahhpaaOA
import Derived.Test.YtbncpfkoeahhpaaCS
import Derived.Test.YtbncpfkoeahhpaaCT
import Derived.Test.YtbncpfkoeahhpaaRows
import Derived.Test.YtbncpfkoeahhpaaLF
namespace Go.Proofs.Ytbncpfkoeahhpaa.chainNames
open Go.ChangeShapes Go.WideShapes Go.ChangeAt Go.RowKit Go.Maps
set_option linter.unusedVariables false
set_option linter.unusedSimpArgs false

theorem own : ownKnob Try.prog.godebug = none := by kernel_rfl
theorem laidOut : laidOutB Try.prog = true := by kernel_rfl

def badL : List Vn := [(0, 0, false, { data := #[] }), (-1, 0, false, { data := #[] }), (1, -1, false, { data := #[] }), (1, 1048577, false, { data := #[] }), (1, 0, false, { data := #[97, 98, 99, 100] }), (1, 0, true, { data := #[97] })]
theorem badM : ∀ k, k < 6 → (badL.getD k vn0).2.2.2.size ≤ maxLen ∧ mayV 3 (badL.getD k vn0) = false := by decide
theorem hb_ {w a b : World} (h : Hid (Below w.heap.size w a)) (k : Below a.heap.size a b) : Below w.heap.size w b := stepB h.out k
set_option maxRecDepth 100000 in
set_option maxHeartbeats 16000000 in
theorem front (w : World) : Calls Try.prog 3 #[] w fun e w' => e = .returned (.bool true) ∧ Below w.heap.size w w' := by
  have HB0 : Hid (Below w.heap.size w w) := Below.refl _ _
  have hbt1 : Try.prog.built 29 [(0, .int .i64 1)] = some #[.int .i64 1, .int .i64 0, .bool false, .string { data := #[] }] := by kernel_rfl
  have hbt2 : Try.prog.built 29 [] = some #[.int .i64 0, .int .i64 0, .bool false, .string { data := #[] }] := by kernel_rfl
  go_enter Try.func3, Try.ntmps3
  go_wp2_with fail
  refine (nil_make 0 1 0 false { data := #[] } _).mono ?_
  rintro e w1 ⟨rfl, hb⟩
  have HB1 := Lib.hid (hb_ HB0 hb)
  clear hb HB0
  go_wp2_with fail
  refine (nil_read 1 _).mono ?_
  rintro e w2 ⟨rfl, hb⟩
  have HB2 := Lib.hid (hb_ HB1 (hb.alloc hb.size (.cells #[.int .i64 0, .int .i64 0, .bool false, .string { data := #[] }, .int .u64 0] 31)))
  clear hb HB1
  go_wp2_with fail
  refine (awake_any _).mono ?_
  rintro e w3 ⟨rfl, hb⟩
  have HB3 := Lib.hid (hb_ HB2 hb)
  clear hb HB2
  go_wp2_with fail
  refine (nil_change 1 0 0 false { data := #[] } _).mono ?_
  rintro e w4 ⟨rfl, hb⟩
  have HB4 := Lib.hid (hb_ HB3 hb)
  clear hb HB3
  go_wp2_with fail
  refine (nil_stamp 1 0 _).mono ?_
  rintro e w5 ⟨rfl, hb⟩
  have HB5 := Lib.hid (hb_ HB4 hb)
  clear hb HB4
  go_wp2_with fail
  refine (nil_cut 1 _).mono ?_
  rintro e w6 ⟨rfl, hb⟩
  have HB6 := Lib.hid (hb_ HB5 hb)
  clear hb HB5
  go_wp2_with fail
  refine (nil_free 1 _).mono ?_
  rintro e w7 ⟨rfl, hb⟩
  have HB7 := Lib.hid (hb_ HB6 hb)
  clear hb HB6
  go_wp2_with fail
  refine (nil_list 1 _).mono ?_
  rintro e w8 ⟨vb, rfl, ho, hb⟩
  obtain ⟨A0, c0, rfl, _, _⟩ := ho.sl
  have HB8 := Lib.hid (hb_ HB7 hb)
  clear ho hb HB7
  go_wp2_with fail
  refine (nil_used _).mono ?_
  rintro e w9 ⟨rfl, hb⟩
  have HB9 := Lib.hid (hb_ HB8 hb)
  clear hb HB8
  go_wp2_with fail
  refine (nil_copy _).mono ?_
  rintro e w10 ⟨rfl, hb⟩
  have HB10 := Lib.hid (hb_ HB9 hb)
  clear hb HB9
  go_wp2_with fail
  refine (some_any _).mono ?_
  rintro e w11 ⟨he, hb⟩
  have he : e = .returned (.agg #[.int .i64 2, .int .i64 2, .int .i64 3, .int .i64 3, .int .i64 9, .int .i64 4, .int .i64 3, .int .i64 3]) := he
  subst he
  have HB11 := Lib.hid (hb_ HB10 hb)
  clear hb HB10
  have HB12 : Hid (Below w.heap.size w (w11.alloc (.cells #[.int .i64 2, .int .i64 2, .int .i64 3, .int .i64 3, .int .i64 9, .int .i64 4, .int .i64 3, .int .i64 2] 43))) := HB11.out.alloc HB11.out.size _
  go_wp2_with fail
  refine (show Calls Try.prog 19 #[.agg #[.int .i64 2, .int .i64 2, .int .i64 3, .int .i64 3, .int .i64 9, .int .i64 4, .int .i64 3, .int .i64 2]] _ _ from chnew_no ⟨2, 2, 3, 3, 9, 4, 3, 2⟩ _ (by decide)).mono ?_
  rintro e w13 ⟨rfl, hb⟩
  have HB13 := Lib.hid (hb_ HB12 hb)
  clear hb HB11 HB12
  go_wp2_with fail
  refine (some_any _).mono ?_
  rintro e w14 ⟨rfl, hb⟩
  have HB14 := Lib.hid (hb_ HB13 hb)
  clear hb HB13
  go_wp2_with fail
  refine (xnew cS 3 w14 cS_may rfl (fun _ => nd0)).mono ?_
  rintro e w15 ⟨q, a, S0, rfl, hx, hb⟩
  have HWB := Lib.hid HB14.out.size
  have HB15 := Lib.hid (hb_ HB14 hb)
  have HX15 := Lib.hid hx
  clear hx hb HB14
  obtain ⟨B, hB⟩ : ∃ B, w14.heap.size = B := ⟨_, rfl⟩
  rw [hB] at HX15 HWB
  clear hB hbt1 hbt2
  have hbt3 : Try.prog.built 29 [(0, .int .i64 9223372036854775807), (1, .int .i64 1048576), (3, .string { data := #[97, 98, 99] })] = some #[.int .i64 9223372036854775807, .int .i64 1048576, .bool false, .string { data := #[97, 98, 99] }] := by kernel_rfl
  go_wp2_with fail
  refine (xmake B q cS a 3 (0, [], []) S0 (fun _ => nd0) [] 0 w15 HX15.out 9223372036854775807 1048576 false { data := #[97, 98, 99] } 18446744073709551615 (by decide) (by decide) (by decide) ⟨by decide, by decide⟩ (by decide)).mono ?_
  rintro e w16 ⟨y1, ⟨hr1, _, _, hn1⟩, rfl, st1, S1, hx, his, hs, hf⟩
  have HX16 := Lib.hid hx
  have HB16 : Hid (Below w.heap.size w w16) := HX15.out.cr.ar.frBelow hf HB15.out HWB.out HB15.out.size
  have HR1 := Lib.hid hr1
  have HI1 : Hid (∀ x, hR x → isA st1 x = decide (x = y1)) := fun x hx => by have e := his x hx; simp only at e; rw [e]; simp [isA]
  have hrd := chread_any B q cS a 3 st1 S1 _ _ _ w16 hx.cr hx.ci y1 hr1
  rw [HI1.out y1 hr1, decide_eq_true rfl, if_pos rfl] at hrd
  unfold ndv setN at hrd
  rw [if_pos rfl] at hrd
  have HRD := Lib.hid hrd
  have q1 : (y1 == 0) = false := by rw [beq_eq_false_iff_ne]; exact hn1
  clear hrd hx his hs hf hr1 hn1 HX15 HB15
  go_wp2_with fail
  refine HRD.out.mono ?_
  rintro e w17 ⟨rfl, hb⟩
  have HB18 : Hid (Below w.heap.size w (w17.alloc (.cells #[.int .i64 9223372036854775807, .int .i64 1048576, .bool false, .string { data := #[97, 98, 99] }, .int .u64 18446744073709551615] 31))) := (hb_ HB16 hb).alloc (hb_ HB16 hb).size _
  have HX18 := Lib.hid (HX16.out.later (hb.alloc hb.size (.cells #[.int .i64 9223372036854775807, .int .i64 1048576, .bool false, .string { data := #[97, 98, 99] }, .int .u64 18446744073709551615] 31)))
  have hbt4 : Try.prog.built 31 [(0, .agg #[.int .i64 9223372036854775807, .int .i64 1048576, .bool false, .string { data := #[97, 98, 99] }]), (1, .int .u64 18446744073709551615)] = some #[.int .i64 9223372036854775807, .int .i64 1048576, .bool false, .string { data := #[97, 98, 99] }, .int .u64 18446744073709551615] := by kernel_rfl
  have hbu0 : Try.prog.built 29 [] = some #[.int .i64 0, .int .i64 0, .bool false, .string { data := #[] }] := by kernel_rfl
  have hbu1 : Try.prog.built 29 [(0, .int .i64 (-1))] = some #[.int .i64 (-1), .int .i64 0, .bool false, .string { data := #[] }] := by kernel_rfl
  have hbu2 : Try.prog.built 29 [(0, .int .i64 1), (1, .int .i64 (-1))] = some #[.int .i64 1, .int .i64 (-1), .bool false, .string { data := #[] }] := by kernel_rfl
  have hbu3 : Try.prog.built 29 [(0, .int .i64 1), (1, .int .i64 1048577)] = some #[.int .i64 1, .int .i64 1048577, .bool false, .string { data := #[] }] := by kernel_rfl
  have hbu4 : Try.prog.built 29 [(0, .int .i64 1), (3, .string { data := #[97, 98, 99, 100] })] = some #[.int .i64 1, .int .i64 0, .bool false, .string { data := #[97, 98, 99, 100] }] := by kernel_rfl
  have hbu5 : Try.prog.built 29 [(0, .int .i64 1), (2, .bool true), (3, .string { data := #[97] })] = some #[.int .i64 1, .int .i64 0, .bool true, .string { data := #[97] }] := by kernel_rfl
  clear hb HRD HX16 HB16
  go_upto_region 16 with (fail)
  generalize w17.alloc (.cells #[.int .i64 9223372036854775807, .int .i64 1048576, .bool false, .string { data := #[97, 98, 99] }, .int .u64 18446744073709551615] 31) = w18 at *
  obtain ⟨nd1, hnd1⟩ : ∃ nd, nd = setN (fun _ => nd0) y1 ((9223372036854775807, 1048576, false, { data := #[97, 98, 99] }), 18446744073709551615) := ⟨_, rfl⟩
  have HXn : Hid (CX w18 B q cS a 3 st1 S1 nd1 [y1] 1) := by rw [hnd1]; exact HX18.out
  clear HX18 hnd1 hbt3 hbt4
  have hb5 : Below w18.heap.size w18 (w18.alloc (.cells #[.int .i64 0, .int .i64 0, .bool false, .string { data := #[] }, .int .i64 (-1), .int .i64 0, .bool false, .string { data := #[] }, .int .i64 1, .int .i64 (-1), .bool false, .string { data := #[] }, .int .i64 1, .int .i64 1048577, .bool false, .string { data := #[] }, .int .i64 1, .int .i64 0, .bool false, .string { data := #[97, 98, 99, 100] }, .int .i64 1, .int .i64 0, .bool true, .string { data := #[97] }] 29)) := (Below.refl _ _).alloc (Nat.le_refl _) _
  have HBAD : Hid (RSl vec 4 (w18.alloc (.cells #[.int .i64 0, .int .i64 0, .bool false, .string { data := #[] }, .int .i64 (-1), .int .i64 0, .bool false, .string { data := #[] }, .int .i64 1, .int .i64 (-1), .bool false, .string { data := #[] }, .int .i64 1, .int .i64 1048577, .bool false, .string { data := #[] }, .int .i64 1, .int .i64 0, .bool false, .string { data := #[97, 98, 99, 100] }, .int .i64 1, .int .i64 0, .bool true, .string { data := #[97] }] 29)) (some ⟨w18.heap.size, 0, none⟩) 6 badL) := blk_rsl (L := badL) (t := 29) (Blk.new w18 #[.int .i64 0, .int .i64 0, .bool false, .string { data := #[] }, .int .i64 (-1), .int .i64 0, .bool false, .string { data := #[] }, .int .i64 1, .int .i64 (-1), .bool false, .string { data := #[] }, .int .i64 1, .int .i64 1048577, .bool false, .string { data := #[] }, .int .i64 1, .int .i64 0, .bool false, .string { data := #[97, 98, 99, 100] }, .int .i64 1, .int .i64 0, .bool true, .string { data := #[97] }] 29)
  have HX5 := Lib.hid (HXn.out.later hb5)
  have HB5 := Lib.hid (stepB HB18.out hb5)
  clear HXn HB18 hb5
  go_wp2
  generalize w18.alloc (.cells #[.int .i64 0, .int .i64 0, .bool false, .string { data := #[] }, .int .i64 (-1), .int .i64 0, .bool false, .string { data := #[] }, .int .i64 1, .int .i64 (-1), .bool false, .string { data := #[] }, .int .i64 1, .int .i64 1048577, .bool false, .string { data := #[] }, .int .i64 1, .int .i64 0, .bool false, .string { data := #[97, 98, 99, 100] }, .int .i64 1, .int .i64 0, .bool true, .string { data := #[97] }] 29) = w5_ at *
  obtain ⟨gb, hgb⟩ : ∃ g, w18.heap.size = g := ⟨_, rfl⟩
  rw [hgb] at HBAD ⊢
  clear hgb
  go_loopw [139] (fun ix W => ∃ k : Nat, k ≤ 6 ∧ ix = .int .i64 k ∧ CX W B q cS a 3 st1 S1 nd1 [y1] 1 ∧ RSl vec 4 W (some ⟨gb, 0, none⟩) 6 badL ∧ Below w.heap.size w W) (fun ix _ => 6 - (intOf ix).toNat)
  case atStart => exact ⟨0, by omega, rfl, HX5.out, HBAD.out, HB5.out⟩
  case round =>
    obtain ⟨k, hk, rfl, hx, hro, hb⟩ := hrel
    have HX6 := Lib.hid hx
    have HRO := Lib.hid hro
    have HB6 := Lib.hid hb
    clear hx hro hb HX5 HB5 HBAD
    by_cases hlt : k < 6
    · have d2 : decide ((k : Int) < 6) = true := decide_eq_true (by omega)
      have w3_ : IntKind.i64.wrap ((k : Int) + 1) = (k : Int) + 1 := IntWalk.i64_in _ (by omega)
      obtain ⟨g9, off, hA, hg, a0, a1, a2, a3⟩ := rsl_at HRO.out hlt
      cases hA
      have hx1 := index_run gb 0 6 6 k (k : Int) rfl hlt
      have hbm := badM k hlt
      simp only [Nat.zero_add] at a0 a1 a2 a3 hx1
      obtain ⟨x, hx⟩ : ∃ x, badL.getD k vn0 = x := ⟨_, rfl⟩
      rw [hx] at a0 a1 a2 a3 hbm
      obtain ⟨wr2, t, b, v⟩ := x
      simp only at a0 a1 a2 a3 hbm
      have hby : Below wr.heap.size wr (wr.alloc (.cells #[.int .i64 wr2, .int .i64 t, .bool b, .string v] 29)) := (Below.refl _ _).alloc (Nat.le_refl _) _
      have HV7 : Hid (Blk (wr.alloc (.cells #[.int .i64 wr2, .int .i64 t, .bool b, .string v] 29)) wr.heap.size #[.int .i64 wr2, .int .i64 t, .bool b, .string v] 29) := Blk.new _ _ _
      have HX7 := Lib.hid (HX6.out.later hby)
      have HB7 := Lib.hid (stepB HB6.out hby)
      have HR7 := Lib.hid (HRO.out.later hby)
      have HBM := Lib.hid hbm
      clear hby hx hg hbm HX6 HB6 HRO
      go_wp2_with fail
      refine (chmake_no B q cS a 3 st1 S1 _ HX7.out.cr wr2 t b v 0 HBM.out.1 HBM.out.2).mono ?_
      rintro e wa ⟨rfl, hb⟩
      have HX8 := Lib.hid (HX7.out.later hb)
      have HB8 := Lib.hid (stepB HB7.out hb)
      have HR8 := Lib.hid (HR7.out.later hb)
      have HV8 := Lib.hid (HV7.out.later hb)
      clear hb HX7 HB7 HR7 HV7 a0 a1 a2 a3 hx1
      have e0 := HV8.out.cell 0
      have e1 := HV8.out.cell 1
      have e2 := HV8.out.cell 2
      have e3 := HV8.out.cell 3
      simp only [List.getElem?_toArray, List.getElem?_cons_zero, List.getElem?_cons_succ] at e0 e1 e2 e3
      go_wp2_with fail
      refine (chchange_bad B q cS a 3 st1 S1 _ HX8.out.cr y1 wr2 t b v HBM.out.1 HBM.out.2).mono ?_
      rintro e wq9 ⟨rfl, hb⟩
      have HX9 := Lib.hid (HX8.out.later hb)
      have HB9 := Lib.hid (stepB HB8.out hb)
      have HR9 := Lib.hid (HR8.out.later hb)
      have HV9 := Lib.hid (HV8.out.later hb)
      clear hb HX8 HB8 HR8 HV8 e0 e1 e2 e3
      have e0 := HV9.out.cell 0
      have e1 := HV9.out.cell 1
      have e2 := HV9.out.cell 2
      have e3 := HV9.out.cell 3
      simp only [List.getElem?_toArray, List.getElem?_cons_zero, List.getElem?_cons_succ] at e0 e1 e2 e3
      go_wp2_with fail
      refine (chchange_bad B q cS a 3 st1 S1 _ HX9.out.cr 0 wr2 t b v HBM.out.1 HBM.out.2).mono ?_
      rintro e wq10 ⟨rfl, hb⟩
      have HX10 := Lib.hid (HX9.out.later hb)
      have HB10 := Lib.hid (stepB HB9.out hb)
      have HR10 := Lib.hid (HR9.out.later hb)
      have HV10 := Lib.hid (HV9.out.later hb)
      clear hb HX9 HB9 HR9 HV9 e0 e1 e2 e3
      go_wp2
      go_roundw
      case rel => exact ⟨k + 1, by omega, by go_num, HX10.out, HR10.out, HB10.out⟩
      case measure => simp [intOf]; omega
    · obtain rfl : k = 6 := by omega
      have hbtR : Try.prog.built 29 [(0, .int .i64 1)] = some #[.int .i64 1, .int .i64 0, .bool false, .string { data := #[] }] := by kernel_rfl
      have hby : Below wr.heap.size wr (wr.alloc (.cells #[.int .i64 1, .int .i64 0, .bool false, .string { data := #[] }] 29)) := (Below.refl _ _).alloc (Nat.le_refl _) _
      have HV : Hid (Blk (wr.alloc (.cells #[.int .i64 1, .int .i64 0, .bool false, .string { data := #[] }] 29)) wr.heap.size #[.int .i64 1, .int .i64 0, .bool false, .string { data := #[] }] 29) := Blk.new _ _ _
      have HX := Lib.hid (HX6.out.later hby)
      have HB := Lib.hid (stepB HB6.out hby)
      have HUS := Lib.hid (show usA st1 = 1 by
        have e1 := HI1.out y1 HR1.out
        rw [HX6.out.us (by decide), List.countP_cons, List.countP_nil, e1]
        simp)
      clear hby HX6 HB6 HRO
      go_upto_region 24 with (fail)
      generalize wr.alloc (.cells #[.int .i64 1, .int .i64 0, .bool false, .string { data := #[] }] 29) = wx at *
      obtain ⟨pv, hpv⟩ : ∃ p, wr.heap.size = p := ⟨_, rfl⟩
      rw [hpv] at HV ⊢
      clear hpv hbtR
      have hus := chused_any B q cS a 3 st1 S1 wx HX.out.cr
      rw [HUS.out] at hus
      have HUC := Lib.hid hus
      clear hus
      go_wp2_with fail
      refine HUC.out.mono ?_
      clear HUC
      rintro e wy ⟨rfl, rfl⟩
      try clear e0 e1 e2 e3
      have e0 := HV.out.cell 0
      have e1 := HV.out.cell 1
      have e2 := HV.out.cell 2
      have e3 := HV.out.cell 3
      simp only [List.getElem?_toArray, List.getElem?_cons_zero, List.getElem?_cons_succ] at e0 e1 e2 e3
      go_wp2_with fail
      refine (chchange_no B q cS a 3 st1 S1 nd1 _ _ _ HX.out.cr HX.out.ci 0 ⟨by decide, by decide⟩ 1 0 false { data := #[] } (by decide) (by decide) HX.out.ci.ti.zero).mono ?_
      rintro e wx ⟨rfl, hb⟩
      replace HB := Lib.hid (stepB HB.out hb)
      replace HV := Lib.hid (HV.out.later hb)
      replace HX := Lib.hid (HX.out.later hb)
      clear hb
      try clear e0 e1 e2 e3
      have e0 := HV.out.cell 0
      have e1 := HV.out.cell 1
      have e2 := HV.out.cell 2
      have e3 := HV.out.cell 3
      simp only [List.getElem?_toArray, List.getElem?_cons_zero, List.getElem?_cons_succ] at e0 e1 e2 e3
      go_wp2_with fail
      refine (stamp_no B q cS a 3 st1 S1 nd1 _ _ _ HX.out.cr HX.out.ci 0 ⟨by decide, by decide⟩ HX.out.ci.ti.zero 1 ⟨by decide, by decide⟩).mono ?_
      rintro e wx ⟨rfl, hb⟩
      replace HB := Lib.hid (stepB HB.out hb)
      replace HV := Lib.hid (HV.out.later hb)
      replace HX := Lib.hid (HX.out.later hb)
      clear hb
      try clear e0 e1 e2 e3
      have e0 := HV.out.cell 0
      have e1 := HV.out.cell 1
      have e2 := HV.out.cell 2
      have e3 := HV.out.cell 3
      simp only [List.getElem?_toArray, List.getElem?_cons_zero, List.getElem?_cons_succ] at e0 e1 e2 e3
      go_wp2_with fail
      refine (stamp_bad q y1 0 _ (by decide)).mono ?_
      rintro e wx ⟨rfl, hb⟩
      replace HB := Lib.hid (stepB HB.out hb)
      replace HV := Lib.hid (HV.out.later hb)
      replace HX := Lib.hid (HX.out.later hb)
      clear hb
      try clear e0 e1 e2 e3
      have e0 := HV.out.cell 0
      have e1 := HV.out.cell 1
      have e2 := HV.out.cell 2
      have e3 := HV.out.cell 3
      simp only [List.getElem?_toArray, List.getElem?_cons_zero, List.getElem?_cons_succ] at e0 e1 e2 e3
      go_wp2_with fail
      refine (stamp_bad q y1 1048577 _ (by decide)).mono ?_
      rintro e wx ⟨rfl, hb⟩
      replace HB := Lib.hid (stepB HB.out hb)
      replace HV := Lib.hid (HV.out.later hb)
      replace HX := Lib.hid (HX.out.later hb)
      clear hb
      try clear e0 e1 e2 e3
      have e0 := HV.out.cell 0
      have e1 := HV.out.cell 1
      have e2 := HV.out.cell 2
      have e3 := HV.out.cell 3
      simp only [List.getElem?_toArray, List.getElem?_cons_zero, List.getElem?_cons_succ] at e0 e1 e2 e3
      go_wp2_with fail
      refine (stamp_bad q 0 0 _ (by decide)).mono ?_
      rintro e wx ⟨rfl, hb⟩
      replace HB := Lib.hid (stepB HB.out hb)
      replace HV := Lib.hid (HV.out.later hb)
      replace HX := Lib.hid (HX.out.later hb)
      clear hb
      try clear e0 e1 e2 e3
      have e0 := HV.out.cell 0
      have e1 := HV.out.cell 1
      have e2 := HV.out.cell 2
      have e3 := HV.out.cell 3
      simp only [List.getElem?_toArray, List.getElem?_cons_zero, List.getElem?_cons_succ] at e0 e1 e2 e3
      go_wp2_with fail
      refine (cut_no B q cS a 3 st1 S1 nd1 _ _ _ HX.out.cr HX.out.ci 0 ⟨by decide, by decide⟩ HX.out.ci.ti.zero).mono ?_
      rintro e wx ⟨rfl, hb⟩
      replace HB := Lib.hid (stepB HB.out hb)
      replace HV := Lib.hid (HV.out.later hb)
      replace HX := Lib.hid (HX.out.later hb)
      clear hb
      try clear e0 e1 e2 e3
      have e0 := HV.out.cell 0
      have e1 := HV.out.cell 1
      have e2 := HV.out.cell 2
      have e3 := HV.out.cell 3
      simp only [List.getElem?_toArray, List.getElem?_cons_zero, List.getElem?_cons_succ] at e0 e1 e2 e3
      have hfr := chfree_any B q cS a 3 st1 S1 _ HX.out.cr 0 ⟨by decide, by decide⟩
      rw [show frA 0 st1 = st1 by unfold frA; rw [HX.out.ci.ti.zero]; rfl, show frAE 0 st1 = 5 by unfold frAE; rw [HX.out.ci.ti.zero]; rfl] at hfr
      have HFR := Lib.hid hfr
      clear hfr
      go_wp2_with fail
      refine HFR.out.mono ?_
      clear HFR
      rintro e wx ⟨rfl, S2, hc, hs, hf⟩
      replace HB := Lib.hid (HX.out.cr.ar.frBelow hf HB.out HWB.out HB.out.size)
      replace HV := Lib.hid (HX.out.cr.ar.blk hf HV.out (by decide))
      replace HX := Lib.hid (CX.mk hc HX.out.ci HX.out.pg)
      clear hc hs hf
      try clear e0 e1 e2 e3
      have e0 := HV.out.cell 0
      have e1 := HV.out.cell 1
      have e2 := HV.out.cell 2
      have e3 := HV.out.cell 3
      simp only [List.getElem?_toArray, List.getElem?_cons_zero, List.getElem?_cons_succ] at e0 e1 e2 e3
      go_wp2_with fail
      refine (xchange B q cS a 3 st1 S2 nd1 _ _ _ HX.out y1 HR1.out 1 0 false { data := #[] } (by decide) (by decide) (by decide) (by rw [HI1.out y1 HR1.out]; simp)).mono ?_
      rintro e wx ⟨rfl, st2, S3, hx2, his, hs, hf⟩
      replace HB := Lib.hid (HX.out.cr.ar.frBelow hf HB.out HWB.out HB.out.size)
      replace HV := Lib.hid (HX.out.cr.ar.blk hf HV.out (by decide))
      replace HX := Lib.hid (hx2)
      have HI2 : Hid (∀ x, hR x → isA st2 x = decide (x = y1)) := fun x hx => by have e := his x hx; simp only at e; rw [e, HI1.out x hx]
      clear hx2 his hs hf
      try clear e0 e1 e2 e3
      have e0 := HV.out.cell 0
      have e1 := HV.out.cell 1
      have e2 := HV.out.cell 2
      have e3 := HV.out.cell 3
      simp only [List.getElem?_toArray, List.getElem?_cons_zero, List.getElem?_cons_succ] at e0 e1 e2 e3
      have hfr := xfree B q cS a 3 st2 S3 _ _ _ _ HX.out y1 HR1.out
      rw [show frAE y1 st2 = 0 by unfold frAE; rw [HI2.out y1 HR1.out, if_pos (by simp)]] at hfr
      have HFR := Lib.hid hfr
      clear hfr
      go_wp2_with fail
      refine HFR.out.mono ?_
      clear HFR
      rintro e wx ⟨rfl, st3, S4, hx3, his, hs, hf⟩
      replace HB := Lib.hid (HX.out.cr.ar.frBelow hf HB.out HWB.out HB.out.size)
      replace HV := Lib.hid (HX.out.cr.ar.blk hf HV.out (by decide))
      replace HX := Lib.hid (hx3)
      have HI3 : Hid (∀ x, hR x → isA st3 x = false) := fun x hx => by have e := his x hx; simp only at e; rw [e, HI2.out x hx]; by_cases q : x = y1 <;> simp [q]
      clear hx3 his hs hf
      try clear e0 e1 e2 e3
      have e0 := HV.out.cell 0
      have e1 := HV.out.cell 1
      have e2 := HV.out.cell 2
      have e3 := HV.out.cell 3
      simp only [List.getElem?_toArray, List.getElem?_cons_zero, List.getElem?_cons_succ] at e0 e1 e2 e3
      have hfr := chfree_any B q cS a 3 st3 S4 _ HX.out.cr y1 HR1.out
      rw [show frA y1 st3 = st3 by unfold frA; rw [HI3.out y1 HR1.out]; rfl, show frAE y1 st3 = 5 by unfold frAE; rw [HI3.out y1 HR1.out]; rfl] at hfr
      have HFR := Lib.hid hfr
      clear hfr
      go_wp2_with fail
      refine HFR.out.mono ?_
      clear HFR
      rintro e wx ⟨rfl, S5, hc, hs, hf⟩
      replace HB := Lib.hid (HX.out.cr.ar.frBelow hf HB.out HWB.out HB.out.size)
      replace HV := Lib.hid (HX.out.cr.ar.blk hf HV.out (by decide))
      replace HX := Lib.hid (CX.mk hc HX.out.ci HX.out.pg)
      clear hc hs hf
      try clear e0 e1 e2 e3
      have e0 := HV.out.cell 0
      have e1 := HV.out.cell 1
      have e2 := HV.out.cell 2
      have e3 := HV.out.cell 3
      simp only [List.getElem?_toArray, List.getElem?_cons_zero, List.getElem?_cons_succ] at e0 e1 e2 e3
      go_wp2_with fail
      refine (xmake B q cS a 3 st3 S5 _ _ 1 _ HX.out 1 0 false { data := #[] } 0 (by decide) (by decide) (by decide) ⟨by decide, by decide⟩ (by decide)).mono ?_
      rintro e wx ⟨y2, ⟨hr2, hm2, _, hn2⟩, rfl, st4, S6, hx4, his, hs, hf⟩
      replace HB := Lib.hid (HX.out.cr.ar.frBelow hf HB.out HWB.out HB.out.size)
      replace HV := Lib.hid (HX.out.cr.ar.blk hf HV.out (by decide))
      replace HX := Lib.hid (hx4)
      have hne : y2 ≠ y1 := fun e => hm2 (by rw [e]; simp)
      have HI4 : Hid (∀ x, hR x → isA st4 x = decide (x = y2)) := fun x hx => by have e := his x hx; simp only at e; rw [e, HI3.out x hx]; simp
      have q2 : (y2 != y1) = true := by rw [bne_iff_ne]; exact hne
      have HNO := Lib.hid (show isA st4 y1 = false by rw [HI4.out y1 HR1.out]; exact decide_eq_false (fun e => hne e.symm))
      have HUS4 := Lib.hid (show usA st4 = 1 by
        have e1 := HNO.out
        have e2 := HI4.out y2 hr2
        rw [HX.out.us (by decide), show ([y1] ++ [y2] : List Int) = [y1, y2] from rfl, List.countP_cons, List.countP_cons, List.countP_nil, e1, e2]
        simp)
      clear hx4 his hs hf hr2 hm2 hn2 hne
      have hrd := chread_any B q cS a 3 st4 S6 _ _ _ _ HX.out.cr HX.out.ci y1 HR1.out
      rw [HNO.out, if_neg (by decide)] at hrd
      unfold ndv nd0 at hrd
      have HRD := Lib.hid hrd
      clear hrd
      go_wp2_with fail
      refine HRD.out.mono ?_
      rintro e wx ⟨rfl, hb⟩
      clear HRD
      have hb2 := hb.alloc hb.size (.cells #[.int .i64 0, .int .i64 0, .bool false, .string { data := #[] }, .int .u64 0] 31)
      replace HB := Lib.hid (stepB HB.out hb2)
      replace HX := Lib.hid (HX.out.later hb2)
      clear hb hb2 HV
      go_wp2_with fail
      refine (cut_no B q cS a 3 st4 S6 _ _ _ _ HX.out.cr HX.out.ci y1 HR1.out HNO.out).mono ?_
      rintro e wz ⟨rfl, hb⟩
      replace HB := Lib.hid (stepB HB.out hb)
      replace HX := Lib.hid (HX.out.later hb)
      clear hb
      have hus := chused_any B q cS a 3 st4 S6 _ HX.out.cr
      rw [HUS4.out] at hus
      have HUC := Lib.hid hus
      clear hus
      go_wp2_with fail
      refine HUC.out.mono ?_
      clear HUC
      rintro e wy ⟨rfl, rfl⟩
      go_wp2
      go_ret
      exact ⟨rfl, HB.out⟩


set_option maxRecDepth 100000 in
theorem lifted (os : Os) (started : os.Started) (H : Type) (enc : TypeId × Value → H) :
    ReturnsInHanded {} Try.checked os 3 .any (Rows.chainNamesSpec.pre6 enc Try.prog Try.f3 Rows.chainNamesRow.domain false) (Rows.chainNamesSpec.post enc Try.prog Try.f3 false true false false) := by
  refine returnsInHanded_of_change_sized (C := Try.checked) own started (by kernel_rfl) Try.func3
    (ChangeSpec.witness6 (enc := enc) (C := Try.checked) false ⟨#[], #[], []⟩ 8 (by kernel_rfl) (by kernel_rfl) (by kernel_rfl) (by kernel_rfl)) ?_
  intro W base args ds gs before hval0 hW _ hsz _
  have hval : ∀ (j : Nat) t v, Try.f3.params[j]? = some t → args[j]? = some v → Value.okWide Try.prog W .any base t v := hval0
  have hW' := hW
  obtain ⟨p, q, hA0, hV, hbef, _, _⟩ := hW
  have hA : DataW.TrodAll enc Try.prog W 0 (fun _ => true) true Try.f3.params.toList args.toList ds p := hA0
  rw [Try.params3] at hA hval
  obtain ⟨h1, rfl, rfl⟩ := trodAll_nil hA
  obtain rfl : args = #[] := by cases args; simp_all
  obtain ⟨rfl, rfl⟩ := trodVars_none hV
  refine (front W).mono fun e W' ⟨he, hb⟩ => ?_
  subst he
  exact ⟨_, rfl, law_post laidOut (of_decide_eq_true (by kernel_rfl)) rfl Try.underlying4 rfl rfl hW' hb⟩

theorem over : Rows.chainNamesRow.holds Try.pinned (OpenSpec.ofChange Rows.chainNamesSpec) :=
  OpenClaim.holds_of_wide 3 Try.f3 rfl rfl rfl rfl rfl rfl rfl ⟨rfl, rfl, rfl, rfl, rfl⟩ rfl rfl rfl rfl rfl (by kernel_rfl) Try.func3 (by kernel_rfl)
    (of_decide_eq_true (by kernel_rfl)) (by unfold Func.isWrapper; first | (rw [if_pos (by decide +kernel)]; kernel_rfl) | (rw [if_neg (by decide +kernel)]; exact ⟨rfl, rfl⟩))
    (fun os started H enc _ => lifted os started H enc)

end Go.Proofs.Ytbncpfkoeahhpaa.chainNames
namespace Go.Proofs.Ytbncpfkoeahhpaa
theorem chainNames_holds : Rows.ChainNamesSaid := chainNames.over
end Go.Proofs.Ytbncpfkoeahhpaa
