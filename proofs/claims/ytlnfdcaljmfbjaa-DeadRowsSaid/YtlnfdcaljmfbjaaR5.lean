/-
The same Adds in whatever row come to the same; an Add, and a Less of it, to nothing.
-/
import Derived.Test.YtlnfdcaljmfbjaaY1
import Derived.Test.YtlnfdcaljmfbjaaRows
namespace Go.Proofs.Ytlnfdcaljmfbjaa.deadRows
open Go.ChangeShapes Go.WideShapes Go.ChangeAt Go.RowKit Go.Maps
set_option linter.unusedVariables false
set_option linter.unusedSimpArgs false

theorem own : ownKnob Try.prog.godebug = none := by kernel_rfl
theorem laidOut : laidOutB Try.prog = true := by kernel_rfl

set_option maxRecDepth 100000 in
set_option maxHeartbeats 4000000 in
theorem w_long (A : Option Addr) (n c : Nat) (by_ one : Int) (w : World) (hn : 64 < n) : Calls Try.prog 6 #[.slice A n c, .int .i64 by_, .int .i64 one] w (fun e w' => e = .returned (.bool true) ∧ Below w.heap.size w w') := by
  have d1 : decide ((64 : Int) < (n : Int)) = true := decide_eq_true (by omega)
  go_enter Try.func6, Try.ntmps6
  go_wp2_with fail
  refine (works_any w).mono ?_
  rintro x w1 ⟨rfl, hb⟩
  have HB1 := Lib.hid hb
  clear hb
  go_wp2_with fail
  refine (works_any w1).mono ?_
  rintro x w2 ⟨rfl, hb⟩
  have HB2 := Lib.hid (stepB HB1.out hb)
  clear hb HB1
  go_wp2
  go_ret
  exact ⟨rfl, HB2.out⟩
set_option maxRecDepth 100000 in
set_option maxHeartbeats 4000000 in
theorem w_main (A : Option Addr) (n c : Nat) (S : List Int) (by_ one : Int) (w : World) (hS : Nums w.heap.size w A n S) (hw : (Lit.int .i64 one).wf = true) (hn : ¬ 64 < n) : Calls Try.prog 6 #[.slice A n c, .int .i64 by_, .int .i64 one] w (fun e w' => e = .returned (.bool true) ∧ Below w.heap.size w w') := by
  have d1 : decide ((64 : Int) < (n : Int)) = false := decide_eq_false (by omega)
  have HS := Lib.hid hS
  obtain ⟨U, hU⟩ : ∃ U : Nat, IntKind.u64.wrap by_ = (U : Int) ∧ U < 18446744073709551616 := ⟨(by_ % 18446744073709551616).toNat, by simp [IntKind.wrap, IntKind.bits, IntKind.signed]; omega, by omega⟩
  obtain ⟨hU, hU2⟩ := hU
  obtain ⟨back, hback⟩ : ∃ back, (by_.tmod 2 == 0) = back := ⟨_, rfl⟩
  clear hS
  go_enter Try.func6, Try.ntmps6
  go_wp2_with fail
  refine (works_any w).mono ?_
  rintro x w1 ⟨rfl, hb⟩
  have HB1 := Lib.hid hb
  clear hb
  go_wp2_with fail
  refine (new_any w1).mono ?_
  rintro x w2 ⟨rfl, ho, hb⟩
  have P2 := Lib.hid (ho.base HB1.out.size)
  have HB2 := Lib.hid (stepB HB1.out hb)
  have hbl := ho.blt
  clear ho hb HB1 d1
  generalize w1.heap.size + 1 = p at *
  generalize w1.heap.size = b at *
  go_wp2_with fail
  refine (new_any w2).mono ?_
  rintro x w3 ⟨rfl, ho, hb⟩
  have HNE := Lib.hid (show b ≠ w2.heap.size from by omega)
  have Q3 := Lib.hid (ho.base HB2.out.size)
  have P3 := Lib.hid (P2.out.later hb)
  have HB3 := Lib.hid (stepB HB2.out hb)
  clear ho hb HB2 P2 hbl
  generalize w2.heap.size + 1 = q at *
  generalize w2.heap.size = b2 at *
  go_wp2
  go_loopw [9] (fun i wr => ∃ k : Nat, k ≤ n ∧ i = .int .i64 k ∧ DdAt wr w.heap.size p b (addK S k) ∧ DdAt wr w.heap.size q b2 (addK (turned S n (U % n) back) k) ∧ Below w.heap.size w wr) (fun i _ => n - (intOf i).toNat)
  case atStart => exact ⟨0, Nat.zero_le _, rfl, P3.out, Q3.out, HB3.out⟩
  case round =>
    obtain ⟨k, hk, rfl, hp, hq, hb⟩ := hrel
    have P4 := Lib.hid hp
    have Q4 := Lib.hid hq
    have HB4 := Lib.hid hb
    clear hp hq hb P3 Q3 HB3
    by_cases hlt : k < n
    · have d2 : decide ((k : Int) < (n : Int)) = true := decide_eq_true (by omega)
      have wk : IntKind.i64.wrap ((k : Int) + 1) = (k : Int) + 1 := IntWalk.i64_in _ (by omega)
      obtain ⟨g, off, rfl, hg, hcell⟩ := (HS.out.later HB4.out).2 (by omega)
      have i1 := nindex g off n c k (k : Int) rfl hlt
      have x0 := hcell k hlt
      clear hg hcell
      go_wp2_with fail
      refine (add_any w.heap.size p b (addK S k) (S.getD k 0) _ P4.out).mono ?_
      rintro x w5 ⟨rfl, ho, hg⟩
      have HB5 := Lib.hid (P4.out.below HB4.out hg)
      have Q5 := Lib.hid (Q4.out.other P4.out hg (fun e => HNE.out e.symm))
      have P5 := Lib.hid ho
      clear ho hg P4 Q4 HB4
      clear x0 i1
      obtain ⟨r, hr⟩ : ∃ r, U % n = r := ⟨_, rfl⟩
      have hrn : r < n := by rw [← hr]; exact Nat.mod_lt _ (by omega)
      rw [hr] at Q5
      obtain ⟨s, hs⟩ : ∃ s, (k + r) % n = s := ⟨_, rfl⟩
      have hsn : s < n := by rw [← hs]; exact Nat.mod_lt _ (by omega)
      have hn0 : ((n : Int) == 0) = false := by rw [beq_eq_false_iff_ne]; omega
      have wn : IntKind.u64.wrap (n : Int) = (n : Int) := by simp [IntKind.wrap, IntKind.bits, IntKind.signed]; omega
      have t1 : (U : Int).tmod (n : Int) = (r : Int) := by rw [← hr]; exact (Int.ofNat_tmod U n).symm
      have wr1 : IntKind.u64.wrap (r : Int) = (r : Int) := by simp [IntKind.wrap, IntKind.bits, IntKind.signed]; omega
      have wr2 : IntKind.i64.wrap (r : Int) = (r : Int) := IntWalk.i64_in _ (by omega)
      have wr3 : IntKind.i64.wrap ((k : Int) + (r : Int)) = (k : Int) + (r : Int) := IntWalk.i64_in _ (by omega)
      have t2 : ((k : Int) + (r : Int)).tmod (n : Int) = (s : Int) := by rw [← hs]; exact (Int.ofNat_tmod (k + r) n).symm
      have ws : IntKind.i64.wrap (s : Int) = (s : Int) := IntWalk.i64_in _ (by omega)
      have wn1 : IntKind.i64.wrap ((n : Int) - 1) = (n : Int) - 1 := IntWalk.i64_in _ (by omega)
      have wn2 : IntKind.i64.wrap ((n : Int) - 1 - (s : Int)) = (n : Int) - 1 - (s : Int) := IntWalk.i64_in _ (by omega)
      have HSS := Lib.hid hs
      have HRR := Lib.hid hr
      clear hs hr
      cases back
      · have HT : Hid ((turned S n r false).getD k 0 = S.getD s 0) := by
          show _ = _
          rw [turned_at hlt, HSS.out]; rfl
        go_upto_region 11 with (fail)
        obtain ⟨g', off', e', hg', hcell⟩ := (HS.out.later HB5.out).2 (by omega)
        cases e'
        have x1 := hcell s (by omega)
        have i2 := nindex g off n c s (s : Int) (by omega) (by omega)
        clear hcell hg'
        go_wp2_with fail
        refine (add_any w.heap.size q b2 (addK (turned S n r false) k) (S.getD s 0) _ Q5.out).mono ?_
        rintro x w6 ⟨rfl, ho, hg⟩
        have HB6 := Lib.hid (Q5.out.below HB5.out hg)
        have P6 := Lib.hid (P5.out.other Q5.out hg HNE.out)
        have Q6 := Lib.hid ho
        clear ho hg Q5 P5 HB5
        have HQ : Hid (DdAt w6 w.heap.size q b2 (addK (turned S n r false) (k + 1))) := by
          have h := Q6.out
          rw [← HT.out] at h
          exact h
        clear x1 i2 Q6 HT
        go_wp2
        go_roundw
        case rel => exact ⟨k + 1, by omega, by go_num, P6.out, by rw [HRR.out]; exact HQ.out, HB6.out⟩
        case measure => simp [intOf]; omega
      · have HT : Hid ((turned S n r true).getD k 0 = S.getD (n - 1 - s) 0) := by
          show _ = _
          rw [turned_at hlt, HSS.out]; rfl
        go_upto_region 11 with (fail)
        obtain ⟨g', off', e', hg', hcell⟩ := (HS.out.later HB5.out).2 (by omega)
        cases e'
        have x1 := hcell (n - 1 - s) (by omega)
        have i2 := nindex g off n c (n - 1 - s) ((n : Int) - 1 - (s : Int)) (by omega) (by omega)
        clear hcell hg'
        go_wp2_with fail
        refine (add_any w.heap.size q b2 (addK (turned S n r true) k) (S.getD (n - 1 - s) 0) _ Q5.out).mono ?_
        rintro x w6 ⟨rfl, ho, hg⟩
        have HB6 := Lib.hid (Q5.out.below HB5.out hg)
        have P6 := Lib.hid (P5.out.other Q5.out hg HNE.out)
        have Q6 := Lib.hid ho
        clear ho hg Q5 P5 HB5
        have HQ : Hid (DdAt w6 w.heap.size q b2 (addK (turned S n r true) (k + 1))) := by
          have h := Q6.out
          rw [← HT.out] at h
          exact h
        clear x1 i2 Q6 HT
        go_wp2
        go_roundw
        case rel => exact ⟨k + 1, by omega, by go_num, P6.out, by rw [HRR.out]; exact HQ.out, HB6.out⟩
        case measure => simp [intOf]; omega
    · obtain rfl : k = n := by omega
      have d2 : decide ((k : Int) < (k : Int)) = false := decide_eq_false (by omega)
      have hT : addK (turned S k (U % k) back) k = addK S k := by
        rcases Nat.eq_zero_or_pos k with h0 | h0
        · subst h0; rfl
        · exact add_turned S (Nat.mod_lt _ h0) (by omega) back
      rw [hT] at Q4
      have HOK := Lib.hid (addK_ok S k)
      clear hT hback hU hU2 HS
      generalize addK S k = C at *
      go_wp2_with fail
      refine (same_any w.heap.size p b w.heap.size q b2 C _ P4.out Q4.out).mono ?_
      rintro x w4 ⟨rfl, hb⟩
      have P3 := Lib.hid (P4.out.later hb)
      have Q3 := Lib.hid (Q4.out.later hb)
      have HB3 := Lib.hid (stepB HB4.out hb)
      clear hb P4 Q4 HB4 d2
      by_cases e1 : addE C one = 0
      · have ha := less_add HOK.out e1
        have CA := Lib.hid (add_any w.heap.size p b C one _ P3.out)
        rw [e1] at CA
        clear e1
        go_wp2_with fail
        refine (CA.out).mono ?_
        rintro x w4 ⟨rfl, ho, hg⟩
        have HB4 := Lib.hid (P3.out.below HB3.out hg)
        have Q4 := Lib.hid (Q3.out.other P3.out hg (fun e => HNE.out e.symm))
        have P4 := Lib.hid ho
        clear ho hg P3 Q3 HB3
        have CL := Lib.hid (less_any w.heap.size p b (addS C one) one _ P4.out hw)
        rw [decide_eq_true ha.1, ha.2] at CL
        clear ha CA
        go_wp2_with fail
        refine (CL.out).mono ?_
        rintro x w5 ⟨rfl, ho, hg⟩
        have HB5 := Lib.hid (P4.out.below HB4.out hg)
        have Q5 := Lib.hid (Q4.out.other P4.out hg (fun e => HNE.out e.symm))
        have P5 := Lib.hid ho
        clear ho hg P4 Q4 HB4
        clear CL
        by_cases e2 : ofC C one ≠ 0
        · have ha := add_less HOK.out e2
          have CL := Lib.hid (less_any w.heap.size q b2 C one _ Q5.out hw)
          rw [decide_eq_true e2] at CL
          clear e2
          go_wp2_with fail
          refine (CL.out).mono ?_
          rintro x w6 ⟨rfl, ho, hg⟩
          have HB6 := Lib.hid (Q5.out.below HB5.out hg)
          have P6 := Lib.hid (P5.out.other Q5.out hg HNE.out)
          have Q6 := Lib.hid ho
          clear ho hg Q5 P5 HB5
          clear CL
          go_wp2_with fail
          refine (add_any w.heap.size q b2 (lessS C one) one _ Q6.out).mono ?_
          rintro x w7 ⟨rfl, ho, hg⟩
          have HB7 := Lib.hid (Q6.out.below HB6.out hg)
          have P7 := Lib.hid (P6.out.other Q6.out hg HNE.out)
          have Q7 := Lib.hid ho
          clear ho hg Q6 P6 HB6
          rw [ha.1]
          rw [ha.2] at Q7
          clear ha
          have P9 := P7
          have Q9 := Q7
          have HB9 := HB7
          clear P7 Q7 HB7
          go_wp2_with fail
          refine (same_any w.heap.size p b w.heap.size q b2 C _ P9.out Q9.out).mono ?_
          rintro x w9 ⟨rfl, hb⟩
          have HBz := Lib.hid (stepB HB9.out hb)
          clear hb
          go_wp2
          go_ret
          exact ⟨rfl, HBz.out⟩
        · have hl : lessS C one = C := if_pos (by simpa using e2)
          have CL := Lib.hid (less_any w.heap.size q b2 C one _ Q5.out hw)
          rw [decide_eq_false e2, hl] at CL
          clear e2 hl
          go_wp2_with fail
          refine (CL.out).mono ?_
          rintro x w6 ⟨rfl, ho, hg⟩
          have HB6 := Lib.hid (Q5.out.below HB5.out hg)
          have P6 := Lib.hid (P5.out.other Q5.out hg HNE.out)
          have Q6 := Lib.hid ho
          clear ho hg Q5 P5 HB5
          clear CL
          have P9 := P6
          have Q9 := Q6
          have HB9 := HB6
          clear P6 Q6 HB6
          go_wp2_with fail
          refine (same_any w.heap.size p b w.heap.size q b2 C _ P9.out Q9.out).mono ?_
          rintro x w9 ⟨rfl, hb⟩
          have HBz := Lib.hid (stepB HB9.out hb)
          clear hb
          go_wp2
          go_ret
          exact ⟨rfl, HBz.out⟩
      · have hS : addS C one = C := if_neg e1
        have d0 : (addE C one == 0) = false := ieq_no e1
        have CA := Lib.hid (add_any w.heap.size p b C one _ P3.out)
        rw [hS] at CA
        clear e1 hS
        generalize addE C one = ee at *
        go_wp2_with fail
        refine (CA.out).mono ?_
        rintro x w5 ⟨rfl, ho, hg⟩
        have HB5 := Lib.hid (P3.out.below HB3.out hg)
        have Q5 := Lib.hid (Q3.out.other P3.out hg (fun e => HNE.out e.symm))
        have P5 := Lib.hid ho
        clear ho hg P3 Q3 HB3
        by_cases e2 : ofC C one ≠ 0
        · have ha := add_less HOK.out e2
          have CL := Lib.hid (less_any w.heap.size q b2 C one _ Q5.out hw)
          rw [decide_eq_true e2] at CL
          clear e2
          go_wp2_with fail
          refine (CL.out).mono ?_
          rintro x w6 ⟨rfl, ho, hg⟩
          have HB6 := Lib.hid (Q5.out.below HB5.out hg)
          have P6 := Lib.hid (P5.out.other Q5.out hg HNE.out)
          have Q6 := Lib.hid ho
          clear ho hg Q5 P5 HB5
          clear CL
          go_wp2_with fail
          refine (add_any w.heap.size q b2 (lessS C one) one _ Q6.out).mono ?_
          rintro x w7 ⟨rfl, ho, hg⟩
          have HB7 := Lib.hid (Q6.out.below HB6.out hg)
          have P7 := Lib.hid (P6.out.other Q6.out hg HNE.out)
          have Q7 := Lib.hid ho
          clear ho hg Q6 P6 HB6
          rw [ha.1]
          rw [ha.2] at Q7
          clear ha
          have P9 := P7
          have Q9 := Q7
          have HB9 := HB7
          clear P7 Q7 HB7
          go_wp2_with fail
          refine (same_any w.heap.size p b w.heap.size q b2 C _ P9.out Q9.out).mono ?_
          rintro x w9 ⟨rfl, hb⟩
          have HBz := Lib.hid (stepB HB9.out hb)
          clear hb
          go_wp2
          go_ret
          exact ⟨rfl, HBz.out⟩
        · have hl : lessS C one = C := if_pos (by simpa using e2)
          have CL := Lib.hid (less_any w.heap.size q b2 C one _ Q5.out hw)
          rw [decide_eq_false e2, hl] at CL
          clear e2 hl
          go_wp2_with fail
          refine (CL.out).mono ?_
          rintro x w6 ⟨rfl, ho, hg⟩
          have HB6 := Lib.hid (Q5.out.below HB5.out hg)
          have P6 := Lib.hid (P5.out.other Q5.out hg HNE.out)
          have Q6 := Lib.hid ho
          clear ho hg Q5 P5 HB5
          clear CL
          have P9 := P6
          have Q9 := Q6
          have HB9 := HB6
          clear P6 Q6 HB6
          go_wp2_with fail
          refine (same_any w.heap.size p b w.heap.size q b2 C _ P9.out Q9.out).mono ?_
          rintro x w9 ⟨rfl, hb⟩
          have HBz := Lib.hid (stepB HB9.out hb)
          clear hb
          go_wp2
          go_ret
          exact ⟨rfl, HBz.out⟩
theorem walk (A : Option Addr) (n c : Nat) (S : List Int) (by_ one : Int) (w : World) (hS : Nums w.heap.size w A n S) (_ : n ≤ maxLen) (_ : (Lit.int .i64 by_).wf = true) (hw : (Lit.int .i64 one).wf = true) : Calls Try.prog 6 #[.slice A n c, .int .i64 by_, .int .i64 one] w (fun e w' => e = .returned (.bool true) ∧ Below w.heap.size w w') := by
  by_cases hn : 64 < n
  · exact w_long A n c by_ one w hn
  · exact w_main A n c S by_ one w hS hw hn


set_option maxRecDepth 100000 in
theorem lifted (os : Os) (started : os.Started) (H : Type) (enc : TypeId × Value → H) :
    ReturnsInHanded {} Try.checked os 6 .any (Rows.deadRowsSpec.pre6 enc Try.prog Try.f6 Rows.deadRowsRow.domain false) (Rows.deadRowsSpec.post enc Try.prog Try.f6 false true false false) := by
  refine returnsInHanded_of_change_sized (C := Try.checked) own started (by kernel_rfl) Try.func6
    (ChangeSpec.witness6 (enc := enc) (C := Try.checked) false ⟨#[], #[.slice none 0 0, .int .i64 0, .int .i64 0], []⟩ 8 (by kernel_rfl) (by kernel_rfl) (by kernel_rfl) (by kernel_rfl)) ?_
  intro W base args ds gs before hval0 hW _ hsz _
  have hval : ∀ (j : Nat) t v, Try.f6.params[j]? = some t → args[j]? = some v → Value.okWide Try.prog W .any base t v := hval0
  have hW' := hW
  obtain ⟨p, q, hA0, hV, hbef, _, _⟩ := hW
  have hA : DataW.TrodAll enc Try.prog W 0 (fun _ => true) true Try.f6.params.toList args.toList ds p := hA0
  rw [Try.params6] at hA hval
  obtain ⟨v0, vs0, d0, ds0, p0, q0, hargs, rfl, rfl, h0, r0⟩ := trodAll_cons hA
  obtain ⟨v1, vs1, d1, ds1, p1, q1, rfl, rfl, rfl, h1, r1⟩ := trodAll_cons r0
  obtain ⟨v2, vs2, d2, ds2, p2, q2, rfl, rfl, rfl, h2, r2⟩ := trodAll_cons r1
  obtain ⟨rfl, rfl, rfl⟩ := trodAll_nil r2
  obtain rfl : args = #[v0, v1, v2] := by cases args; simp_all
  obtain ⟨rfl, rfl⟩ := trodVars_none hV
  obtain ⟨A0, n0, c0, S0, rfl, st0, mx0⟩ := open_nums (hval 0 42 v0 rfl rfl) h0
  obtain ⟨a1, rfl, _, _, w1⟩ := open_int Try.underlying3 (hval 1 3 v1 rfl rfl) h1
  obtain ⟨a2, rfl, _, _, w2⟩ := open_int Try.underlying3 (hval 2 3 v2 rfl rfl) h2
  refine (walk A0 n0 c0 S0 a1 a2 W st0 mx0 w1 w2).mono fun e W' ⟨he, hb⟩ => ?_
  subst he
  exact ⟨_, rfl, law_post laidOut (of_decide_eq_true (by kernel_rfl)) rfl Try.underlying4 rfl rfl hW' hb⟩

theorem over : Rows.deadRowsRow.holds Try.pinned (OpenSpec.ofChange Rows.deadRowsSpec) :=
  OpenClaim.holds_of_wide 6 Try.f6 rfl rfl rfl rfl rfl rfl rfl ⟨rfl, rfl, rfl, rfl, rfl⟩ rfl rfl rfl rfl rfl (by kernel_rfl) Try.func6 (by kernel_rfl)
    (of_decide_eq_true (by kernel_rfl)) (by unfold Func.isWrapper; first | (rw [if_pos (by decide +kernel)]; kernel_rfl) | (rw [if_neg (by decide +kernel)]; exact ⟨rfl, rfl⟩))
    (fun os started H enc _ => lifted os started H enc)

end Go.Proofs.Ytlnfdcaljmfbjaa.deadRows
namespace Go.Proofs.Ytlnfdcaljmfbjaa
theorem deadRows_holds : Rows.DeadRowsSaid := deadRows.over
end Go.Proofs.Ytlnfdcaljmfbjaa
