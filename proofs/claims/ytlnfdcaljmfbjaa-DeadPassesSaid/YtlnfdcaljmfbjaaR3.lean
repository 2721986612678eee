/-
To pass one floor, then another one, is to pass the greater. For any steps, any floors.
-/
import Derived.Test.YtlnfdcaljmfbjaaW
import Derived.Test.YtlnfdcaljmfbjaaRows
namespace Go.Proofs.Ytlnfdcaljmfbjaa.deadPasses
open Go.ChangeShapes Go.WideShapes Go.ChangeAt Go.RowKit Go.Maps
set_option linter.unusedVariables false
set_option linter.unusedSimpArgs false

theorem own : ownKnob Try.prog.godebug = none := by kernel_rfl
theorem laidOut : laidOutB Try.prog = true := by kernel_rfl

set_option maxRecDepth 100000 in
set_option maxHeartbeats 4000000 in
theorem w_long (A : Option Addr) (n c : Nat) (f o : Int) (w : World) (hn : 300 < n) : Calls Try.prog 7 #[.slice A n c, .int .i64 f, .int .i64 o] w (fun e w' => e = .returned (.bool true) ∧ Below w.heap.size w w') := by
  have d1 : decide ((300 : Int) < (n : Int)) = true := decide_eq_true (by omega)
  go_enter Try.func7, Try.ntmps7
  go_wp2_with fail
  refine (works_any w).mono ?_
  rintro x w1 ⟨rfl, hb⟩
  have HB1 := Lib.hid hb
  clear hb
  go_wp2_with fail
  refine (works_any w1).mono ?_
  rintro x w2 ⟨rfl, hb⟩
  have HB2 := Lib.hid (stepB HB1.out hb)
  clear hb HB1
  go_wp2
  go_ret
  exact ⟨rfl, HB2.out⟩
set_option maxRecDepth 100000 in
set_option maxHeartbeats 4000000 in
theorem w_main (A : Option Addr) (n c : Nat) (S : List Stp) (f o : Int) (w : World) (hS : Steps w.heap.size w A n S) (hn : ¬ 300 < n) : Calls Try.prog 7 #[.slice A n c, .int .i64 f, .int .i64 o] w (fun e w' => e = .returned (.bool true) ∧ Below w.heap.size w w') := by
  have d1 : decide ((300 : Int) < (n : Int)) = false := decide_eq_false (by omega)
  have HS := Lib.hid hS
  clear hS
  go_enter Try.func7, Try.ntmps7
  go_wp2_with fail
  refine (works_any w).mono ?_
  rintro x w1 ⟨rfl, hb⟩
  have HB1 := Lib.hid hb
  clear hb
  go_wp2_with fail
  refine (new_any w1).mono ?_
  rintro x w2 ⟨rfl, ho, hb⟩
  have O2 := Lib.hid (ho.base HB1.out.size)
  have HB2 := Lib.hid (stepB HB1.out hb)
  clear ho hb HB1 d1
  generalize w1.heap.size + 1 = p at *
  generalize w1.heap.size = b at *
  go_wp2
  go_loopw [8] (fun i wr => ∃ (k : Nat) (C : List Ct), k ≤ n ∧ i = .int .i64 k ∧ DdAt wr w.heap.size p b C ∧ Below w.heap.size w wr) (fun i _ => n - (intOf i).toNat)
  case atStart => exact ⟨0, _, Nat.zero_le _, rfl, O2.out, HB2.out⟩
  case round =>
    obtain ⟨k, C, hk, rfl, ho, hb⟩ := hrel
    have O0 := Lib.hid ho
    have HB0 := Lib.hid hb
    clear ho hb O2 HB2
    by_cases hlt : k < n
    · have d2 : decide ((k : Int) < (n : Int)) = true := decide_eq_true (by omega)
      have wk : IntKind.i64.wrap ((k : Int) + 1) = (k : Int) + 1 := IntWalk.i64_in _ (by omega)
      obtain ⟨g, off, rfl, hg, hcell⟩ := (HS.out.later HB0.out).2 (by omega)
      have i1 := sindex g off n c k (k : Int) rfl hlt
      obtain ⟨x0, x1, hwf⟩ := hcell k hlt
      obtain ⟨⟨wh, ts⟩, hx⟩ : ∃ x, S.getD k stp0 = x := ⟨_, rfl⟩
      rw [hx] at x0 x1 hwf
      simp only at x0 x1 hwf
      have HX := Lib.hid hx
      clear hcell hx hg
      go_wp2_with fail
      refine (do_any w.heap.size p b C wh ts _ O0.out hwf).mono ?_
      rintro x w3 ⟨rfl, ho, hg⟩
      have HB1 := Lib.hid (O0.out.below HB0.out hg)
      have O1 := Lib.hid ho
      generalize doC C wh ts = M at *
      generalize doR C wh ts = r at *
      clear ho hg x0 x1 hwf i1 O0 HB0 
      clear HX
      go_wp2
      go_roundw
      case rel => exact ⟨k + 1, M, by omega, by go_num, O1.out, HB1.out⟩
      case measure => simp [intOf]; omega
    · obtain rfl : k = n := by omega
      have d2 : decide ((k : Int) < (k : Int)) = false := decide_eq_false (by omega)
      clear HS
      go_wp2_with fail
      refine (counts_any w.heap.size p b C _ O0.out).mono ?_
      rintro x w1 ⟨Aw, cw, rfl, hsl, hb⟩
      have SW1 := Lib.hid (hsl.base HB0.out.size)
      have O1 := Lib.hid (O0.out.later hb)
      have HB1 := Lib.hid (stepB HB0.out hb)
      clear hsl hb O0 HB0
      go_wp2_with fail
      refine (copy_any w.heap.size p b C _ O1.out).mono ?_
      rintro x w2 ⟨pe, be, rfl, hoc, hb⟩
      have hbl := O1.out.blt
      have HEB := Lib.hid (show be ≠ b from by have := hoc.own.1; omega)
      have E2 := Lib.hid (hoc.base HB1.out.size)
      have O2 := Lib.hid (O1.out.later hb)
      have SW2 := Lib.hid (SW1.out.later hb)
      have HB2 := Lib.hid (stepB HB1.out hb)
      clear hoc hb hbl O1 HB1 SW1
      go_wp2_with fail
      refine (copy_any w.heap.size p b C _ O2.out).mono ?_
      rintro x w3 ⟨pt, bt, rfl, hoc, hb⟩
      have hbl := O2.out.blt
      have hbl2 := E2.out.blt
      have HTB := Lib.hid (show bt ≠ b from by have := hoc.own.1; omega)
      have HTE := Lib.hid (show bt ≠ be from by have := hoc.own.1; omega)
      have U3 := Lib.hid (hoc.base HB2.out.size)
      have O3 := Lib.hid (O2.out.later hb)
      have E3 := Lib.hid (E2.out.later hb)
      have SW3 := Lib.hid (SW2.out.later hb)
      have HB3 := Lib.hid (stepB HB2.out hb)
      clear hoc hb hbl hbl2 O2 E2 HB2 SW2 d2
      obtain ⟨mx, hmx⟩ : ∃ mx, (max f o) = mx := ⟨_, rfl⟩
      have HPP := Lib.hid (pass_pass C f o mx hmx.symm)
      have HOK := Lib.hid O3.out.ok
      have s1 := sum_nn O3.out.ok.pos
      have s2 := O3.out.ok.sum
      have s3 := sum_nn (O3.out.ok.pass f).pos
      have s4 := (O3.out.ok.pass f).sum
      have s5 := sum_nn (O3.out.ok.pass mx).pos
      have s6 := (O3.out.ok.pass mx).sum
      have HMX := Lib.hid hmx
      go_wp2_with fail
      refine (pass_any w.heap.size pe be C _ _ E3.out).mono ?_
      rintro x w4 ⟨rfl, ho, hg⟩
      have HB4 := Lib.hid (E3.out.below HB3.out hg)
      have O4 := Lib.hid (O3.out.other E3.out hg (fun e => HEB.out e.symm))
      have U4 := Lib.hid (U3.out.other E3.out hg HTE.out)
      have E4 := Lib.hid ho
      have hbe := E3.out.own.1
      have SW4 : Hid (CtSl w4 w.heap.size Aw C) := ctsl_other SW3.out E3.out hg
      clear ho hg E3 O3 U3 HB3 SW3 hbe
      go_wp2_with fail
      refine (pass_any w.heap.size pt bt C f _ U4.out).mono ?_
      rintro x w5 ⟨rfl, ho, hg⟩
      have HB5 := Lib.hid (U4.out.below HB4.out hg)
      have O5 := Lib.hid (O4.out.other U4.out hg (fun e => HTB.out e.symm))
      have E5 := Lib.hid (E4.out.other U4.out hg (fun e => HTE.out e.symm))
      have SW5 : Hid (CtSl w5 w.heap.size Aw C) := ctsl_other SW4.out U4.out hg
      have U5 := Lib.hid ho
      clear ho hg O4 E4 U4 HB4 SW4
      go_wp2_with fail
      refine (pass_any w.heap.size pt bt (passS C f) o _ U5.out).mono ?_
      rintro x w6 ⟨rfl, ho, hg⟩
      rw [HPP.out] at ho ⊢
      have HB6 := Lib.hid (U5.out.below HB5.out hg)
      have O6 := Lib.hid (O5.out.other U5.out hg (fun e => HTB.out e.symm))
      have E6 := Lib.hid (E5.out.other U5.out hg (fun e => HTE.out e.symm))
      have SW6 : Hid (CtSl w6 w.heap.size Aw C) := ctsl_other SW5.out U5.out hg
      have U6 := Lib.hid ho
      clear ho hg O5 E5 U5 HB5 SW5
      have HLA := Lib.hid (leftK_all C mx)
      have hlen := O6.out.len
      generalize sumC (passS C f) = sf at *
      generalize hsm : sumC (passS C mx) = sm at *
      have HSM := Lib.hid hsm
      generalize hsc : sumC C = sc at *
      have HSC := Lib.hid hsc
      clear hsm hsc
      have wa : IntKind.i64.wrap (sc - sf + (sf - sm)) = sc - sm := (IntWalk.i64_in _ (by omega)).trans (by omega)
      have wb : sc - sf + (sf - sm) = sc - sm := by omega
      go_wp2_with fail
      refine (same_any w.heap.size pe be w.heap.size pt bt (passS C mx) _ E6.out U6.out).mono ?_
      rintro x w7 ⟨rfl, hb⟩
      have O7 := Lib.hid (O6.out.later hb)
      have E7 := Lib.hid (E6.out.later hb)
      have SW7 := Lib.hid (SW6.out.later hb)
      have HB7 := Lib.hid (stepB HB6.out hb)
      clear hb O6 E6 U6 SW6 HB6 wa wb HTB HTE HEB HPP
      go_wp2
      go_loopw [13, 14] (fun s i wr => ∃ k : Nat, k ≤ C.length ∧ i = .int .i64 k ∧ s = .int .i64 (leftK C mx k) ∧ wr = w7) (fun _ i _ => C.length - (intOf i).toNat)
      case atStart => exact ⟨0, Nat.zero_le _, rfl, rfl, rfl⟩
      case round =>
        obtain ⟨k, hk, rfl, rfl, rfl⟩ := hrel
        by_cases hlt : k < C.length
        · obtain ⟨g, rfl, _, _, hcell⟩ := SW7.out (by omega)
          obtain ⟨x0, x1, _, _⟩ := hcell k hlt
          have i1 := cindex g C.length cw k (k : Int) rfl hlt
          have d2 : decide ((k : Int) < (C.length : Int)) = true := decide_eq_true (by omega)
          have wk : IntKind.i64.wrap ((k : Int) + 1) = (k : Int) + 1 := IntWalk.i64_in _ (by omega)
          have h1 := leftK_le HOK.out.pos mx (k + 1) hlt
          have ht := ct_at HOK.out hlt
          have hof := of_pass HOK.out mx hlt
          have HK : Hid (leftK C mx (k + 1) = leftK C mx k + (if mx < (C.getD k c0).1 then (C.getD k c0).2 else 0)) := rfl
          rw [HK.out, HSC.out] at h1
          generalize leftK C mx k = y at *
          generalize C.getD k c0 = z at *
          obtain ⟨ts, nn⟩ := z
          simp only at x0 x1 ht hof h1
          have HK2 : Hid (leftK C mx (k + 1) = y + (if mx < ts then nn else 0)) := HK.out
          have HOF := Lib.hid hof
          clear hcell HK hof
          go_wp2_with fail
          refine (of_any w.heap.size pe be (passS C mx) ts _ E7.out (wf64 (by omega))).mono ?_
          rintro x _ ⟨rfl, rfl⟩
          rw [HOF.out]
          by_cases hx : mx < ts
          · have HK3 : Hid (leftK C mx (k + 1) = y + nn) := HK2.out.trans (by rw [if_pos hx])
            have ws : IntKind.i64.wrap (y + nn) = y + nn := by rw [if_pos hx] at h1; exact IntWalk.i64_in _ (by omega)
            rw [if_pos hx]
            have da : decide (ts ≤ mx) = false := decide_eq_false (by omega)
            have db : decide (mx < ts) = true := decide_eq_true hx
            clear hx h1 ht HK2 HOF
            go_wp2
            go_roundw
            case rel => exact ⟨k + 1, by omega, by go_num, by rw [HK3.out], by first | rfl | trivial⟩
            case measure => simp [intOf]; omega
          · have HK3 : Hid (leftK C mx (k + 1) = y) := HK2.out.trans (by rw [if_neg hx]; omega)
            have ws : IntKind.i64.wrap y = y := by rw [if_neg hx] at h1; exact IntWalk.i64_in _ (by omega)
            have ws2 : wrap64 y = y := by rw [if_neg hx] at h1; unfold wrap64; omega
            rw [if_neg hx]
            have da : decide (ts ≤ mx) = true := decide_eq_true (by omega)
            have db : decide (mx < ts) = false := decide_eq_false hx
            clear hx h1 ht HK2 HOF
            go_wp2
            go_roundw
            case rel => exact ⟨k + 1, by omega, by go_num, by rw [HK3.out], by first | rfl | trivial⟩
            case measure => simp [intOf]; omega
        · obtain rfl : k = C.length := by omega
          have d2 : decide ((C.length : Int) < (C.length : Int)) = false := decide_eq_false (by omega)
          rw [HLA.out]
          go_wp2_with fail
          refine (all_any w.heap.size pe be (passS C mx) _ E7.out).mono ?_
          rintro x w8 ⟨rfl, hb⟩
          rw [HSM.out]
          have O8 := Lib.hid (O7.out.later hb)
          have E8 := Lib.hid (E7.out.later hb)
          have HB8 := Lib.hid (stepB HB7.out hb)
          clear hb O7 E7 SW7 HB7
          have wa : IntKind.i64.wrap (sm + (sc - sm)) = sc := (IntWalk.i64_in _ (by omega)).trans (by omega)
          have wb : sm + (sc - sm) = sc := by omega
          go_wp2_with fail
          refine (all_any w.heap.size p b C _ O8.out).mono ?_
          rintro x w9 ⟨rfl, hb⟩
          rw [HSC.out]
          have E9 := Lib.hid (E8.out.later hb)
          have HB9 := Lib.hid (stepB HB8.out hb)
          clear hb O8 E8 HB8
          go_wp2_with fail
          refine (pass_any w.heap.size pe be (passS C mx) _ _ E9.out).mono ?_
          rintro x w10 ⟨rfl, ho, hg⟩
          rw [pass_twice, HSM.out]
          have HB10 := Lib.hid (E9.out.below HB9.out hg)
          have wz : sm - sm = 0 := by omega
          clear ho hg E9 HB9
          go_wp2
          go_ret
          exact ⟨rfl, HB10.out⟩
theorem walk (A : Option Addr) (n c : Nat) (S : List Stp) (f o : Int) (w : World) (hS : Steps w.heap.size w A n S) (_ : n ≤ maxLen) (_ : (Lit.int .i64 f).wf = true) (_ : (Lit.int .i64 o).wf = true) : Calls Try.prog 7 #[.slice A n c, .int .i64 f, .int .i64 o] w (fun e w' => e = .returned (.bool true) ∧ Below w.heap.size w w') := by
  by_cases hn : 300 < n
  · exact w_long A n c f o w hn
  · exact w_main A n c S f o w hS hn


set_option maxRecDepth 100000 in
theorem lifted (os : Os) (started : os.Started) (H : Type) (enc : TypeId × Value → H) :
    ReturnsInHanded {} Try.checked os 7 .any (Rows.deadPassesSpec.pre6 enc Try.prog Try.f7 Rows.deadPassesRow.domain false) (Rows.deadPassesSpec.post enc Try.prog Try.f7 false true false false) := by
  refine returnsInHanded_of_change_sized (C := Try.checked) own started (by kernel_rfl) Try.func7
    (ChangeSpec.witness6 (enc := enc) (C := Try.checked) false ⟨#[], #[.slice none 0 0, .int .i64 0, .int .i64 0], []⟩ 8 (by kernel_rfl) (by kernel_rfl) (by kernel_rfl) (by kernel_rfl)) ?_
  intro W base args ds gs before hval0 hW _ hsz _
  have hval : ∀ (j : Nat) t v, Try.f7.params[j]? = some t → args[j]? = some v → Value.okWide Try.prog W .any base t v := hval0
  have hW' := hW
  obtain ⟨p, q, hA0, hV, hbef, _, _⟩ := hW
  have hA : DataW.TrodAll enc Try.prog W 0 (fun _ => true) true Try.f7.params.toList args.toList ds p := hA0
  rw [Try.params7] at hA hval
  obtain ⟨v0, vs0, d0, ds0, p0, q0, hargs, rfl, rfl, h0, r0⟩ := trodAll_cons hA
  obtain ⟨v1, vs1, d1, ds1, p1, q1, rfl, rfl, rfl, h1, r1⟩ := trodAll_cons r0
  obtain ⟨v2, vs2, d2, ds2, p2, q2, rfl, rfl, rfl, h2, r2⟩ := trodAll_cons r1
  obtain ⟨rfl, rfl, rfl⟩ := trodAll_nil r2
  obtain rfl : args = #[v0, v1, v2] := by cases args; simp_all
  obtain ⟨rfl, rfl⟩ := trodVars_none hV
  obtain ⟨A0, n0, c0, S0, rfl, st0, mx0⟩ := open_steps (hval 0 32 v0 rfl rfl) h0
  obtain ⟨a1, rfl, _, _, w1⟩ := open_int Try.underlying3 (hval 1 3 v1 rfl rfl) h1
  obtain ⟨a2, rfl, _, _, w2⟩ := open_int Try.underlying3 (hval 2 3 v2 rfl rfl) h2
  refine (walk A0 n0 c0 S0 a1 a2 W st0 mx0 w1 w2).mono fun e W' ⟨he, hb⟩ => ?_
  subst he
  exact ⟨_, rfl, law_post laidOut (of_decide_eq_true (by kernel_rfl)) rfl Try.underlying4 rfl rfl hW' hb⟩

theorem over : Rows.deadPassesRow.holds Try.pinned (OpenSpec.ofChange Rows.deadPassesSpec) :=
  OpenClaim.holds_of_wide 7 Try.f7 rfl rfl rfl rfl rfl rfl rfl ⟨rfl, rfl, rfl, rfl, rfl⟩ rfl rfl rfl rfl rfl (by kernel_rfl) Try.func7 (by kernel_rfl)
    (of_decide_eq_true (by kernel_rfl)) (by unfold Func.isWrapper; first | (rw [if_pos (by decide +kernel)]; kernel_rfl) | (rw [if_neg (by decide +kernel)]; exact ⟨rfl, rfl⟩))
    (fun os started H enc _ => lifted os started H enc)

end Go.Proofs.Ytlnfdcaljmfbjaa.deadPasses
namespace Go.Proofs.Ytlnfdcaljmfbjaa
theorem deadPasses_holds : Rows.DeadPassesSaid := deadPasses.over
end Go.Proofs.Ytlnfdcaljmfbjaa
