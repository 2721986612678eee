/-
The examples, the limits, what is asked of nil.
-/
import Derived.Test.YtlnfdcaljmfbjaaW
import Derived.Test.YtlnfdcaljmfbjaaRows
namespace Go.Proofs.Ytlnfdcaljmfbjaa.deadNames
open Go.ChangeShapes Go.WideShapes Go.ChangeAt Go.RowKit Go.Maps
set_option linter.unusedVariables false
set_option linter.unusedSimpArgs false

theorem own : ownKnob Try.prog.godebug = none := by kernel_rfl
theorem laidOut : laidOutB Try.prog = true := by kernel_rfl

set_option maxRecDepth 100000 in
set_option maxHeartbeats 4000000 in
theorem add_n (w : World) : Calls Try.prog 10 #[.pointer none, .int .i64 1] w fun x w' => x = .returned (.int .i64 2) ∧ w = w' := by
  go_enter Try.func10, Try.ntmps10
  go_wp2
  go_ret
  exact ⟨rfl, rfl⟩
set_option maxRecDepth 100000 in
set_option maxHeartbeats 4000000 in
theorem of_n (w : World) : Calls Try.prog 13 #[.pointer none, .int .i64 1] w fun x w' => x = .returned (.int .i64 0) ∧ w = w' := by
  go_enter Try.func13, Try.ntmps13
  go_wp2
  go_ret
  exact ⟨rfl, rfl⟩
set_option maxRecDepth 100000 in
set_option maxHeartbeats 4000000 in
theorem less_n (w : World) : Calls Try.prog 11 #[.pointer none, .int .i64 1] w fun x w' => x = .returned (.bool false) ∧ w = w' := by
  go_enter Try.func11, Try.ntmps11
  go_wp2_with fail
  refine (of_n w).mono ?_
  rintro x _ ⟨rfl, rfl⟩
  go_wp2
  go_ret
  exact ⟨rfl, rfl⟩
set_option maxRecDepth 100000 in
set_option maxHeartbeats 4000000 in
theorem pass_n (w : World) : Calls Try.prog 12 #[.pointer none, .int .i64 9] w fun x w' => x = .returned (.int .i64 0) ∧ w = w' := by
  go_enter Try.func12, Try.ntmps12
  go_wp2
  go_ret
  exact ⟨rfl, rfl⟩
set_option maxRecDepth 100000 in
set_option maxHeartbeats 4000000 in
theorem all_n (w : World) : Calls Try.prog 14 #[.pointer none] w fun x w' => x = .returned (.int .i64 0) ∧ w = w' := by
  go_enter Try.func14, Try.ntmps14
  go_wp2
  go_ret
  exact ⟨rfl, rfl⟩
set_option maxRecDepth 100000 in
set_option maxHeartbeats 4000000 in
theorem counts_n (w : World) : Calls Try.prog 15 #[.pointer none] w fun x w' => x = .returned (.slice none 0 0) ∧ w = w' := by
  go_enter Try.func15, Try.ntmps15
  go_wp2
  go_ret
  exact ⟨rfl, rfl⟩
set_option maxRecDepth 100000 in
set_option maxHeartbeats 4000000 in
theorem copy_n (w : World) : Calls Try.prog 16 #[.pointer none] w fun x w' => x = .returned (.pointer none) ∧ w = w' := by
  go_enter Try.func16, Try.ntmps16
  go_wp2
  go_ret
  exact ⟨rfl, rfl⟩
def cK : Nat → List Ct
  | 0 => [(1048576, 1)]
  | j + 1 => [(7, (j : Int) + 1), (1048576, 1)]
theorem cK_add : ∀ j, j < 63 → addE (cK j) 7 = 0 ∧ addS (cK j) 7 = cK (j + 1) := by decide +kernel
set_option maxRecDepth 100000 in
set_option maxHeartbeats 8000000 in
theorem walk (w : World) : Calls Try.prog 3 #[] w (fun e w' => e = .returned (.bool true) ∧ Below w.heap.size w w') := by
  go_enter Try.func3, Try.ntmps3
  go_wp2_with fail
  refine (works_any w).mono ?_
  rintro x w1 ⟨rfl, hb⟩
  have HBw := Lib.hid hb
  clear hb
  go_wp2_with fail
  refine (add_n w1).mono ?_
  rintro x _ ⟨rfl, rfl⟩
  go_wp2_with fail
  refine (less_n w1).mono ?_
  rintro x _ ⟨rfl, rfl⟩
  go_wp2_with fail
  refine (pass_n w1).mono ?_
  rintro x _ ⟨rfl, rfl⟩
  go_wp2_with fail
  refine (of_n w1).mono ?_
  rintro x _ ⟨rfl, rfl⟩
  go_wp2_with fail
  refine (all_n w1).mono ?_
  rintro x _ ⟨rfl, rfl⟩
  go_wp2_with fail
  refine (counts_n w1).mono ?_
  rintro x _ ⟨rfl, rfl⟩
  go_wp2_with fail
  refine (copy_n w1).mono ?_
  rintro x _ ⟨rfl, rfl⟩
  go_wp2_with fail
  refine (new_any w1).mono ?_
  rintro x w0 ⟨rfl, ho, hb⟩
  have O0 := Lib.hid (ho.base HBw.out.size)
  have HB0 := Lib.hid (stepB HBw.out hb)
  clear ho hb HBw
  generalize w1.heap.size + 1 = p at *
  generalize w1.heap.size = b at *
  go_wp2_with fail
  refine (add_k (C' := []) (c := 1) (-1) O0.out (by decide +kernel) (by decide +kernel)).mono ?_
  rintro x w1 ⟨rfl, ho, hg⟩
  have HB1 := Lib.hid (O0.out.below HB0.out hg)
  have O1 := Lib.hid ho
  clear ho hg O0 HB0
  go_wp2_with fail
  refine (add_k (C' := []) (c := 1) (1048577) O1.out (by decide +kernel) (by decide +kernel)).mono ?_
  rintro x w2 ⟨rfl, ho, hg⟩
  have HB2 := Lib.hid (O1.out.below HB1.out hg)
  have O2 := Lib.hid ho
  clear ho hg O1 HB1
  go_wp2_with fail
  refine (add_k (C' := [(1048576, 1)]) (c := 0) (1048576) O2.out (by decide +kernel) (by decide +kernel)).mono ?_
  rintro x w3 ⟨rfl, ho, hg⟩
  have HB3 := Lib.hid (O2.out.below HB2.out hg)
  have O3 := Lib.hid ho
  clear ho hg O2 HB2
  go_wp2_with fail
  refine (add_k (C' := [(1, 1), (1048576, 1)]) (c := 0) (1) O3.out (by decide +kernel) (by decide +kernel)).mono ?_
  rintro x w4 ⟨rfl, ho, hg⟩
  have HB4 := Lib.hid (O3.out.below HB3.out hg)
  have O4 := Lib.hid ho
  clear ho hg O3 HB3
  go_wp2_with fail
  refine (pass_k (C' := [(1, 1), (1048576, 1)]) (c := 0) (0) O4.out (by decide +kernel) (by decide +kernel)).mono ?_
  rintro x w5 ⟨rfl, ho, hg⟩
  have HB5 := Lib.hid (O4.out.below HB4.out hg)
  have O5 := Lib.hid ho
  clear ho hg O4 HB4
  go_wp2_with fail
  refine (pass_k (C' := [(1, 1), (1048576, 1)]) (c := 0) (-5) O5.out (by decide +kernel) (by decide +kernel)).mono ?_
  rintro x w6 ⟨rfl, ho, hg⟩
  have HB6 := Lib.hid (O5.out.below HB5.out hg)
  have O6 := Lib.hid ho
  clear ho hg O5 HB5
  go_wp2_with fail
  refine (pass_k (C' := [(1048576, 1)]) (c := 1) (1) O6.out (by decide +kernel) (by decide +kernel)).mono ?_
  rintro x w7 ⟨rfl, ho, hg⟩
  have HB7 := Lib.hid (O6.out.below HB6.out hg)
  have O7 := Lib.hid ho
  clear ho hg O6 HB6
  go_wp2_with fail
  refine (pass_k (C' := [(1048576, 1)]) (c := 0) (1048575) O7.out (by decide +kernel) (by decide +kernel)).mono ?_
  rintro x w8 ⟨rfl, ho, hg⟩
  have HB8 := Lib.hid (O7.out.below HB7.out hg)
  have O8 := Lib.hid ho
  clear ho hg O7 HB7
  go_wp2_with fail
  refine (less_k (C' := [(1048576, 1)]) (r := false) (0) O8.out (wf64 (by decide)) (by decide +kernel) (by decide +kernel)).mono ?_
  rintro x w9 ⟨rfl, ho, hg⟩
  have HB9 := Lib.hid (O8.out.below HB8.out hg)
  have O9 := Lib.hid ho
  clear ho hg O8 HB8
  go_wp2_with fail
  refine (of_k (c := 0) 0 O9.out (wf64 (by decide)) (by decide +kernel)).mono ?_
  rintro x _ ⟨rfl, rfl⟩
  go_wp2
  go_loopw [3] (fun i wr => ∃ j : Nat, j ≤ 63 ∧ i = .int .i64 ((j : Int) + 1) ∧ DdAt wr w.heap.size p b (cK j) ∧ Below w.heap.size w wr) (fun i _ => 64 - (intOf i).toNat)
  case atStart => exact ⟨0, Nat.zero_le _, rfl, O9.out, HB9.out⟩
  case round =>
    obtain ⟨j, hj, rfl, ho, hb⟩ := hrel
    have L0 := Lib.hid ho
    have HL0 := Lib.hid hb
    clear ho hb O9 HB9
    by_cases hlt : j < 63
    · have d2 : decide ((j : Int) + 1 < 64) = true := decide_eq_true (by omega)
      have wk : IntKind.i64.wrap ((j : Int) + 1 + 1) = (j : Int) + 1 + 1 := IntWalk.i64_in _ (by omega)
      have hc := cK_add j hlt
      go_wp2_with fail
      refine (add_k 7 L0.out hc.1 hc.2).mono ?_
      rintro x w2 ⟨rfl, ho, hg⟩
      have HB2 := Lib.hid (L0.out.below HL0.out hg)
      have O2 := Lib.hid ho
      clear ho hg L0 HL0 hc
      go_wp2
      go_roundw
      case rel => exact ⟨j + 1, by omega, by go_num, O2.out, HB2.out⟩
      case measure => simp [intOf]; omega
    · obtain rfl : j = 63 := by omega
      have O0 : Hid (DdAt _ w.heap.size p b [(7, 63), (1048576, 1)]) := L0
      have HB0 := HL0
      clear L0 HL0
      go_wp2_with fail
      refine (add_k (C' := [(7, 63), (1048576, 1)]) (c := 41) (7) O0.out (by decide +kernel) (by decide +kernel)).mono ?_
      rintro x w1 ⟨rfl, ho, hg⟩
      have HB1 := Lib.hid (O0.out.below HB0.out hg)
      have O1 := Lib.hid ho
      clear ho hg O0 HB0
      go_wp2_with fail
      refine (add_k (C' := [(7, 63), (1048576, 1)]) (c := 1) (0) O1.out (by decide +kernel) (by decide +kernel)).mono ?_
      rintro x w2 ⟨rfl, ho, hg⟩
      have HB2 := Lib.hid (O1.out.below HB1.out hg)
      have O2 := Lib.hid ho
      clear ho hg O1 HB1
      go_wp2_with fail
      refine (all_k (c := 64) O2.out (by decide +kernel)).mono ?_
      rintro x w3 ⟨rfl, hb⟩
      have O3 := Lib.hid (O2.out.later hb)
      have HB3 := Lib.hid (stepB HB2.out hb)
      clear hb O2 HB2
      go_wp2_with fail
      refine (of_k (c := 63) 7 O3.out (wf64 (by decide)) (by decide +kernel)).mono ?_
      rintro x _ ⟨rfl, rfl⟩
      go_wp2_with fail
      refine (less_k (C' := [(7, 62), (1048576, 1)]) (r := true) 7 O3.out (wf64 (by decide)) (by decide +kernel) (by decide +kernel)).mono ?_
      rintro x w4 ⟨rfl, ho, hg⟩
      have HB4 := Lib.hid (O3.out.below HB3.out hg)
      have O4 := Lib.hid ho
      clear ho hg O3 HB3
      go_wp2_with fail
      refine (add_k (C' := [(7, 62), (8, 1), (1048576, 1)]) (c := 0) (8) O4.out (by decide +kernel) (by decide +kernel)).mono ?_
      rintro x w5 ⟨rfl, ho, hg⟩
      have HB5 := Lib.hid (O4.out.below HB4.out hg)
      have O5 := Lib.hid ho
      clear ho hg O4 HB4
      go_wp2_with fail
      refine (add_k (C' := [(7, 62), (8, 1), (1048576, 1)]) (c := 41) (8) O5.out (by decide +kernel) (by decide +kernel)).mono ?_
      rintro x w6 ⟨rfl, ho, hg⟩
      have HB6 := Lib.hid (O5.out.below HB5.out hg)
      have O6 := Lib.hid ho
      clear ho hg O5 HB5
      go_wp2_with fail
      refine (pass_k (C' := []) (c := 64) 1099511627776 O6.out (by decide +kernel) (by decide +kernel)).mono ?_
      rintro x w7 ⟨rfl, ho, hg⟩
      have HB7 := Lib.hid (O6.out.below HB6.out hg)
      have O7 := Lib.hid ho
      clear ho hg O6 HB6
      go_wp2_with fail
      refine (all_k (c := 0) O7.out (by decide +kernel)).mono ?_
      rintro x w8 ⟨rfl, hb⟩
      have O8 := Lib.hid (O7.out.later hb)
      have HB8 := Lib.hid (stepB HB7.out hb)
      clear hb O7 HB7
      go_wp2_with fail
      refine (counts_any _ _ _ _ _ O8.out).mono ?_
      rintro x w9 ⟨A, c, rfl, hsl, hb⟩
      have HB9 := Lib.hid (stepB HB8.out hb)
      clear hb hsl O8 HB8
      go_wp2
      go_ret
      exact ⟨rfl, HB9.out⟩


set_option maxRecDepth 100000 in
theorem lifted (os : Os) (started : os.Started) (H : Type) (enc : TypeId × Value → H) :
    ReturnsInHanded {} Try.checked os 3 .any (Rows.deadNamesSpec.pre6 enc Try.prog Try.f3 Rows.deadNamesRow.domain false) (Rows.deadNamesSpec.post enc Try.prog Try.f3 false true false false) := by
  refine returnsInHanded_of_change_sized (C := Try.checked) own started (by kernel_rfl) Try.func3
    (ChangeSpec.witness6 (enc := enc) (C := Try.checked) false ⟨#[], #[], []⟩ 8 (by kernel_rfl) (by kernel_rfl) (by kernel_rfl) (by kernel_rfl)) ?_
  intro W base args ds gs before hval0 hW _ hsz _
  have hval : ∀ (j : Nat) t v, Try.f3.params[j]? = some t → args[j]? = some v → Value.okWide Try.prog W .any base t v := hval0
  have hW' := hW
  obtain ⟨p, q, hA0, hV, hbef, _, _⟩ := hW
  have hA : DataW.TrodAll enc Try.prog W 0 (fun _ => true) true Try.f3.params.toList args.toList ds p := hA0
  rw [Try.params3] at hA hval
  obtain ⟨h1, rfl, rfl⟩ := trodAll_nil hA
  obtain rfl : args = #[] := by cases args; simp_all
  obtain ⟨rfl, rfl⟩ := trodVars_none hV

  refine (walk W).mono fun e W' ⟨he, hb⟩ => ?_
  subst he
  exact ⟨_, rfl, law_post laidOut (of_decide_eq_true (by kernel_rfl)) rfl Try.underlying4 rfl rfl hW' hb⟩

theorem over : Rows.deadNamesRow.holds Try.pinned (OpenSpec.ofChange Rows.deadNamesSpec) :=
  OpenClaim.holds_of_wide 3 Try.f3 rfl rfl rfl rfl rfl rfl rfl ⟨rfl, rfl, rfl, rfl, rfl⟩ rfl rfl rfl rfl rfl (by kernel_rfl) Try.func3 (by kernel_rfl)
    (of_decide_eq_true (by kernel_rfl)) (by unfold Func.isWrapper; first | (rw [if_pos (by decide +kernel)]; kernel_rfl) | (rw [if_neg (by decide +kernel)]; exact ⟨rfl, rfl⟩))
    (fun os started H enc _ => lifted os started H enc)

end Go.Proofs.Ytlnfdcaljmfbjaa.deadNames
namespace Go.Proofs.Ytlnfdcaljmfbjaa
theorem deadNames_holds : Rows.DeadNamesSaid := deadNames.over
end Go.Proofs.Ytlnfdcaljmfbjaa
