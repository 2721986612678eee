/-
All is the sum of the counts, and turns as the steps answer. For any steps.
-/
import Derived.Test.YtlnfdcaljmfbjaaT
import Derived.Test.YtlnfdcaljmfbjaaRows
namespace Go.Proofs.Ytlnfdcaljmfbjaa.deadSum
open Go.ChangeShapes Go.WideShapes Go.ChangeAt Go.RowKit Go.Maps
set_option linter.unusedVariables false
set_option linter.unusedSimpArgs false

theorem own : ownKnob Try.prog.godebug = none := by kernel_rfl
theorem laidOut : laidOutB Try.prog = true := by kernel_rfl

set_option maxRecDepth 100000 in
set_option maxHeartbeats 4000000 in
theorem w_long (A : Option Addr) (n c : Nat) (w : World) (hn : 300 < n) : Calls Try.prog 5 #[.slice A n c] w (fun e w' => e = .returned (.bool true) ∧ Below w.heap.size w w') := by
  have d1 : decide ((300 : Int) < (n : Int)) = true := decide_eq_true (by omega)
  go_enter Try.func5, Try.ntmps5
  go_wp2_with fail
  refine (works_any w).mono ?_
  rintro x w1 ⟨rfl, hb⟩
  have HB1 := Lib.hid hb
  clear hb
  go_wp2_with fail
  refine (works_any w1).mono ?_
  rintro x w2 ⟨rfl, hb⟩
  have HB2 := Lib.hid (stepB HB1.out hb)
  clear hb HB1
  go_wp2
  go_ret
  exact ⟨rfl, HB2.out⟩
set_option maxRecDepth 100000 in
set_option maxHeartbeats 4000000 in
theorem w_main (A : Option Addr) (n c : Nat) (S : List Stp) (w : World) (hS : Steps w.heap.size w A n S) (hn : ¬ 300 < n) : Calls Try.prog 5 #[.slice A n c] w (fun e w' => e = .returned (.bool true) ∧ Below w.heap.size w w') := by
  have d1 : decide ((300 : Int) < (n : Int)) = false := decide_eq_false (by omega)
  have HS := Lib.hid hS
  clear hS
  go_enter Try.func5, Try.ntmps5
  go_wp2_with fail
  refine (works_any w).mono ?_
  rintro x w1 ⟨rfl, hb⟩
  have HB1 := Lib.hid hb
  clear hb
  go_wp2_with fail
  refine (new_any w1).mono ?_
  rintro x w2 ⟨rfl, ho, hb⟩
  have O2 := Lib.hid (ho.base HB1.out.size)
  have HB2 := Lib.hid (stepB HB1.out hb)
  clear ho hb HB1
  generalize w1.heap.size + 1 = p at *
  generalize w1.heap.size = b at *
  go_wp2
  go_loopw [4] (fun i wr => ∃ (k : Nat) (C : List Ct), k ≤ n ∧ i = .int .i64 k ∧ DdAt wr w.heap.size p b C ∧ Below w.heap.size w wr) (fun i _ => n - (intOf i).toNat)
  case atStart => exact ⟨0, _, Nat.zero_le _, rfl, O2.out, HB2.out⟩
  case round =>
    obtain ⟨k, C, hk, rfl, ho, hb⟩ := hrel
    have O0 := Lib.hid ho
    have HB0 := Lib.hid hb
    clear ho hb O2 HB2
    by_cases hlt : k < n
    · have d2 : decide ((k : Int) < (n : Int)) = true := decide_eq_true (by omega)
      have wk : IntKind.i64.wrap ((k : Int) + 1) = (k : Int) + 1 := IntWalk.i64_in _ (by omega)
      obtain ⟨g, off, rfl, hg, hcell⟩ := (HS.out.later HB0.out).2 (by omega)
      have i1 := sindex g off n c k (k : Int) rfl hlt
      clear hg hcell
      go_wp2_with fail
      refine (all_any w.heap.size p b C _ O0.out).mono ?_
      rintro x w1 ⟨rfl, hb⟩
      have O1 := Lib.hid (O0.out.later hb)
      have HB1 := Lib.hid (stepB HB0.out hb)
      clear hb O0 HB0
      obtain ⟨g', off', e', hg', hcell⟩ := (HS.out.later HB1.out).2 (by omega)
      cases e'
      obtain ⟨x0, x1, hwf⟩ := hcell k hlt
      obtain ⟨⟨wh, ts⟩, hx⟩ : ∃ x, S.getD k stp0 = x := ⟨_, rfl⟩
      rw [hx] at x0 x1 hwf
      simp only at x0 x1 hwf
      clear hcell hx hg'
      go_wp2_with fail
      refine (do_any w.heap.size p b C wh ts _ O1.out hwf).mono ?_
      rintro x w2 ⟨rfl, ho, hg⟩
      have hsum := do_sum O1.out.ok wh ts
      have hs1 := sum_nn O1.out.ok.pos
      have hs2 := O1.out.ok.sum
      have hs3 := sum_nn ho.ok.pos
      have hs4 := ho.ok.sum
      have HB2 := Lib.hid (O1.out.below HB1.out hg)
      have O2 := Lib.hid ho
      generalize doC C wh ts = C2 at *
      generalize doR C wh ts = r at *
      generalize hsC : sumC C = s0 at *
      obtain ⟨s1, hs⟩ : ∃ s1, sumC C2 = s1 := ⟨_, rfl⟩
      rw [hs] at hsum hs3 hs4
      have HSS := Lib.hid hs
      have ws : IntKind.i64.wrap (s1 - s0) = s1 - s0 := IntWalk.i64_in _ (by omega)
      have dn : (r != s1 - s0) = false := ine_no (by omega)
      have dl : decide (s1 < 0) = false := decide_eq_false (by omega)
      have dg : decide (64 < s1) = false := decide_eq_false (by omega)
      clear ho hg hs O1 HB1 x0 x1 hwf hsC i1 hsum hs1 hs2 hs3 hs4
      go_wp2_with fail
      refine (all_any w.heap.size p b C2 _ O2.out).mono ?_
      rintro x w3 ⟨rfl, hb⟩
      have O3 := Lib.hid (O2.out.later hb)
      have HB3 := Lib.hid (stepB HB2.out hb)
      clear hb O2 HB2
      rw [HSS.out]
      go_wp2_with fail
      refine (summed_any w.heap.size p b C2 _ O3.out).mono ?_
      rintro x w4 ⟨rfl, hb⟩
      have O4 := Lib.hid (O3.out.later hb)
      have HB4 := Lib.hid (stepB HB3.out hb)
      clear hb O3 HB3
      rw [HSS.out]
      go_wp2_with fail
      refine (all_any w.heap.size p b C2 _ O4.out).mono ?_
      rintro x w5 ⟨rfl, hb⟩
      have O5 := Lib.hid (O4.out.later hb)
      have HB5 := Lib.hid (stepB HB4.out hb)
      clear hb O4 HB4
      rw [HSS.out]
      go_wp2_with fail
      refine (all_any w.heap.size p b C2 _ O5.out).mono ?_
      rintro x w6 ⟨rfl, hb⟩
      have O6 := Lib.hid (O5.out.later hb)
      have HB6 := Lib.hid (stepB HB5.out hb)
      clear hb O5 HB5
      rw [HSS.out]
      go_wp2_with fail
      refine (all_any w.heap.size p b C2 _ O6.out).mono ?_
      rintro x w7 ⟨rfl, hb⟩
      have O7 := Lib.hid (O6.out.later hb)
      have HB7 := Lib.hid (stepB HB6.out hb)
      clear hb O6 HB6
      rw [HSS.out]
      go_wp2
      go_roundw
      case rel => exact ⟨k + 1, C2, by omega, by go_num, O7.out, HB7.out⟩
      case measure => simp [intOf]; omega
    · obtain rfl : k = n := by omega
      have d2 : decide ((k : Int) < (k : Int)) = false := decide_eq_false (by omega)
      go_wp2
      go_ret
      exact ⟨rfl, HB0.out⟩
theorem walk (A : Option Addr) (n c : Nat) (S : List Stp) (w : World) (hS : Steps w.heap.size w A n S) (hm : n ≤ maxLen) : Calls Try.prog 5 #[.slice A n c] w (fun e w' => e = .returned (.bool true) ∧ Below w.heap.size w w') := by
  by_cases hn : 300 < n
  · exact w_long A n c w hn
  · exact w_main A n c S w hS hn


set_option maxRecDepth 100000 in
theorem lifted (os : Os) (started : os.Started) (H : Type) (enc : TypeId × Value → H) :
    ReturnsInHanded {} Try.checked os 5 .any (Rows.deadSumSpec.pre6 enc Try.prog Try.f5 Rows.deadSumRow.domain false) (Rows.deadSumSpec.post enc Try.prog Try.f5 false true false false) := by
  refine returnsInHanded_of_change_sized (C := Try.checked) own started (by kernel_rfl) Try.func5
    (ChangeSpec.witness6 (enc := enc) (C := Try.checked) false ⟨#[], #[.slice none 0 0], []⟩ 8 (by kernel_rfl) (by kernel_rfl) (by kernel_rfl) (by kernel_rfl)) ?_
  intro W base args ds gs before hval0 hW _ hsz _
  have hval : ∀ (j : Nat) t v, Try.f5.params[j]? = some t → args[j]? = some v → Value.okWide Try.prog W .any base t v := hval0
  have hW' := hW
  obtain ⟨p, q, hA0, hV, hbef, _, _⟩ := hW
  have hA : DataW.TrodAll enc Try.prog W 0 (fun _ => true) true Try.f5.params.toList args.toList ds p := hA0
  rw [Try.params5] at hA hval
  obtain ⟨v0, vs0, d0, ds0, p0, q0, hargs, rfl, rfl, h0, r0⟩ := trodAll_cons hA
  obtain ⟨rfl, rfl, rfl⟩ := trodAll_nil r0
  obtain rfl : args = #[v0] := by cases args; simp_all
  obtain ⟨rfl, rfl⟩ := trodVars_none hV
  obtain ⟨A0, n0, c0, S0, rfl, st0, mx0⟩ := open_steps (hval 0 32 v0 rfl rfl) h0
  refine (walk A0 n0 c0 S0 W st0 mx0).mono fun e W' ⟨he, hb⟩ => ?_
  subst he
  exact ⟨_, rfl, law_post laidOut (of_decide_eq_true (by kernel_rfl)) rfl Try.underlying4 rfl rfl hW' hb⟩

theorem over : Rows.deadSumRow.holds Try.pinned (OpenSpec.ofChange Rows.deadSumSpec) :=
  OpenClaim.holds_of_wide 5 Try.f5 rfl rfl rfl rfl rfl rfl rfl ⟨rfl, rfl, rfl, rfl, rfl⟩ rfl rfl rfl rfl rfl (by kernel_rfl) Try.func5 (by kernel_rfl)
    (of_decide_eq_true (by kernel_rfl)) (by unfold Func.isWrapper; first | (rw [if_pos (by decide +kernel)]; kernel_rfl) | (rw [if_neg (by decide +kernel)]; exact ⟨rfl, rfl⟩))
    (fun os started H enc _ => lifted os started H enc)

end Go.Proofs.Ytlnfdcaljmfbjaa.deadSum
namespace Go.Proofs.Ytlnfdcaljmfbjaa
theorem deadSum_holds : Rows.DeadSumSaid := deadSum.over
end Go.Proofs.Ytlnfdcaljmfbjaa
