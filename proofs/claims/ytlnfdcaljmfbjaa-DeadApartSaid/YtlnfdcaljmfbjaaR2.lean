/-
What is done to a copy is not seen, and comes to the same. For any two runs of steps.
-/
import Derived.Test.YtlnfdcaljmfbjaaV
import Derived.Test.YtlnfdcaljmfbjaaRows
namespace Go.Proofs.Ytlnfdcaljmfbjaa.deadApart
open Go.ChangeShapes Go.WideShapes Go.ChangeAt Go.RowKit Go.Maps
set_option linter.unusedVariables false
set_option linter.unusedSimpArgs false

theorem own : ownKnob Try.prog.godebug = none := by kernel_rfl
theorem laidOut : laidOutB Try.prog = true := by kernel_rfl

set_option maxRecDepth 100000 in
set_option maxHeartbeats 4000000 in
theorem w_long1 (A : Option Addr) (n c : Nat) (A2 : Option Addr) (m c2 : Nat) (w : World) (hn : 200 < n) : Calls Try.prog 8 #[.slice A n c, .slice A2 m c2] w (fun e w' => e = .returned (.bool true) ∧ Below w.heap.size w w') := by
  have d1 : decide ((200 : Int) < (n : Int)) = true := decide_eq_true (by omega)
  go_enter Try.func8, Try.ntmps8
  go_wp2_with fail
  refine (works_any w).mono ?_
  rintro x w1 ⟨rfl, hb⟩
  have HB1 := Lib.hid hb
  clear hb
  go_wp2_with fail
  refine (works_any w1).mono ?_
  rintro x w2 ⟨rfl, hb⟩
  have HB2 := Lib.hid (stepB HB1.out hb)
  clear hb HB1
  go_wp2
  go_ret
  exact ⟨rfl, HB2.out⟩
set_option maxRecDepth 100000 in
set_option maxHeartbeats 4000000 in
theorem w_long2 (A : Option Addr) (n c : Nat) (A2 : Option Addr) (m c2 : Nat) (w : World) (hn : ¬ 200 < n) (hm : 200 < m) : Calls Try.prog 8 #[.slice A n c, .slice A2 m c2] w (fun e w' => e = .returned (.bool true) ∧ Below w.heap.size w w') := by
  have d1 : decide ((200 : Int) < (n : Int)) = false := decide_eq_false (by omega)
  have d2 : decide ((200 : Int) < (m : Int)) = true := decide_eq_true (by omega)
  go_enter Try.func8, Try.ntmps8
  go_wp2_with fail
  refine (works_any w).mono ?_
  rintro x w1 ⟨rfl, hb⟩
  have HB1 := Lib.hid hb
  clear hb
  go_wp2_with fail
  refine (works_any w1).mono ?_
  rintro x w2 ⟨rfl, hb⟩
  have HB2 := Lib.hid (stepB HB1.out hb)
  clear hb HB1
  go_wp2
  go_ret
  exact ⟨rfl, HB2.out⟩
set_option maxRecDepth 100000 in
set_option maxHeartbeats 4000000 in
theorem w_main (A : Option Addr) (n c : Nat) (S : List Stp) (A2 : Option Addr) (m c2 : Nat) (S2 : List Stp) (w : World) (hS : Steps w.heap.size w A n S) (hS2 : Steps w.heap.size w A2 m S2) (hn : ¬ 200 < n) (hm : ¬ 200 < m) : Calls Try.prog 8 #[.slice A n c, .slice A2 m c2] w (fun e w' => e = .returned (.bool true) ∧ Below w.heap.size w w') := by
  have d1 : decide ((200 : Int) < (n : Int)) = false := decide_eq_false (by omega)
  have d1' : decide ((200 : Int) < (m : Int)) = false := decide_eq_false (by omega)
  have HS := Lib.hid hS
  have HS2 := Lib.hid hS2
  clear hS hS2
  go_enter Try.func8, Try.ntmps8
  go_wp2_with fail
  refine (works_any w).mono ?_
  rintro x w1 ⟨rfl, hb⟩
  have HB1 := Lib.hid hb
  clear hb
  go_wp2_with fail
  refine (new_any w1).mono ?_
  rintro x w2 ⟨rfl, ho, hb⟩
  have O2 := Lib.hid (ho.base HB1.out.size)
  have HB2 := Lib.hid (stepB HB1.out hb)
  clear ho hb HB1 d1 d1'
  generalize w1.heap.size + 1 = p at *
  generalize w1.heap.size = b at *
  go_wp2
  go_loopw [6] (fun i wr => ∃ (k : Nat) (C : List Ct), k ≤ n ∧ i = .int .i64 k ∧ DdAt wr w.heap.size p b C ∧ Below w.heap.size w wr) (fun i _ => n - (intOf i).toNat)
  case atStart => exact ⟨0, _, Nat.zero_le _, rfl, O2.out, HB2.out⟩
  case round =>
    obtain ⟨k, C, hk, rfl, ho, hb⟩ := hrel
    have O0 := Lib.hid ho
    have HB0 := Lib.hid hb
    clear ho hb O2 HB2
    by_cases hlt : k < n
    · have d2 : decide ((k : Int) < (n : Int)) = true := decide_eq_true (by omega)
      have wk : IntKind.i64.wrap ((k : Int) + 1) = (k : Int) + 1 := IntWalk.i64_in _ (by omega)
      obtain ⟨g, off, rfl, hg, hcell⟩ := (HS.out.later HB0.out).2 (by omega)
      have i1 := sindex g off n c k (k : Int) rfl hlt
      obtain ⟨x0, x1, hwf⟩ := hcell k hlt
      obtain ⟨⟨wh, ts⟩, hx⟩ : ∃ x, S.getD k stp0 = x := ⟨_, rfl⟩
      rw [hx] at x0 x1 hwf
      simp only at x0 x1 hwf
      have HX := Lib.hid hx
      clear hcell hx hg
      go_wp2_with fail
      refine (do_any w.heap.size p b C wh ts _ O0.out hwf).mono ?_
      rintro x w3 ⟨rfl, ho, hg⟩
      have HB1 := Lib.hid (O0.out.below HB0.out hg)
      have O1 := Lib.hid ho
      generalize doC C wh ts = M at *
      generalize doR C wh ts = r at *
      clear ho hg x0 x1 hwf i1 O0 HB0 
      clear HX
      go_wp2
      go_roundw
      case rel => exact ⟨k + 1, M, by omega, by go_num, O1.out, HB1.out⟩
      case measure => simp [intOf]; omega
    · obtain rfl : k = n := by omega
      have d2 : decide ((k : Int) < (k : Int)) = false := decide_eq_false (by omega)
      clear HS
      go_wp2_with fail
      refine (copy_any w.heap.size p b C _ O0.out).mono ?_
      rintro x wc ⟨pc, bc, rfl, hoc, hb⟩
      have hbl := O0.out.blt
      have HCB := Lib.hid (show bc ≠ b from by have := hoc.own.1; omega)
      have C1 := Lib.hid (hoc.base HB0.out.size)
      have O1 := Lib.hid (O0.out.later hb)
      have HB1 := Lib.hid (stepB HB0.out hb)
      clear hoc hb hbl O0 HB0
      go_wp2_with fail
      refine (copy_any w.heap.size p b C _ O1.out).mono ?_
      rintro x wk ⟨pk, bk, rfl, hok, hb⟩
      have hbl := C1.out.blt
      have HKB := Lib.hid (show bk ≠ bc from by have := hok.own.1; omega)
      have K2 := Lib.hid (hok.base HB1.out.size)
      have O2 := Lib.hid (O1.out.later hb)
      have C2 := Lib.hid (C1.out.later hb)
      have HB2 := Lib.hid (stepB HB1.out hb)
      clear hok hb hbl O1 C1 HB1 d2
      go_wp2
      go_loopw [9] (fun i wr => ∃ (k2 : Nat) (D : List Ct), k2 ≤ m ∧ i = .int .i64 k2 ∧ runC S2 C k2 = D ∧ DdAt wr w.heap.size pc bc D ∧ DdAt wr w.heap.size p b C ∧ DdAt wr w.heap.size pk bk C ∧ Below w.heap.size w wr) (fun i _ => m - (intOf i).toNat)
      case atStart => exact ⟨0, C, Nat.zero_le _, rfl, rfl, C2.out, O2.out, K2.out, HB2.out⟩
      case round =>
        obtain ⟨k2, D, hk2, rfl, hrun, hc, ho, hkp, hb⟩ := hrel
        have C3 := Lib.hid hc
        have O3 := Lib.hid ho
        have K3 := Lib.hid hkp
        have HB3 := Lib.hid hb
        have HRU := Lib.hid hrun
        clear hc ho hkp hb hrun C2 O2 K2 HB2
        by_cases hlt : k2 < m
        · have d2 : decide ((k2 : Int) < (m : Int)) = true := decide_eq_true (by omega)
          have wk : IntKind.i64.wrap ((k2 : Int) + 1) = (k2 : Int) + 1 := IntWalk.i64_in _ (by omega)
          obtain ⟨g, off, rfl, hg, hcell⟩ := (HS2.out.later HB3.out).2 (by omega)
          have i1 := sindex g off m c2 k2 (k2 : Int) rfl hlt
          obtain ⟨x0, x1, hwf⟩ := hcell k2 hlt
          obtain ⟨⟨wh, ts⟩, hx⟩ : ∃ x, S2.getD k2 stp0 = x := ⟨_, rfl⟩
          rw [hx] at x0 x1 hwf
          simp only at x0 x1 hwf
          have HX := Lib.hid hx
          clear hcell hx hg
          go_wp2_with fail
          refine (do_any w.heap.size pc bc D wh ts _ C3.out hwf).mono ?_
          rintro x w4 ⟨rfl, ho, hg⟩
          have HB4 := Lib.hid (C3.out.below HB3.out hg)
          have O4 := Lib.hid (O3.out.other C3.out hg (fun e => HCB.out e.symm))
          have K4 := Lib.hid (K3.out.other C3.out hg HKB.out)
          have C4 := Lib.hid ho
          have HR5 := Lib.hid (runC_next HRU.out HX.out)
          generalize doC D wh ts = M at *
          generalize doR D wh ts = r at *
          clear ho hg x0 x1 hwf i1 C3 HB3 O3 K3
          clear HRU HX
          go_wp2
          go_roundw
          case rel => exact ⟨k2 + 1, M, by omega, by go_num, HR5.out, C4.out, O4.out, K4.out, HB4.out⟩
          case measure => simp [intOf]; omega
        · obtain rfl : k2 = m := by omega
          have d2 : decide ((k2 : Int) < (k2 : Int)) = false := decide_eq_false (by omega)
          have HR := HRU
          clear HRU
          generalize D = R at *
          generalize k2 = m at *
          go_wp2_with fail
          refine (same_any w.heap.size p b w.heap.size pk bk C _ O3.out K3.out).mono ?_
          rintro x w4 ⟨rfl, hb⟩
          have O3' := Lib.hid (O3.out.later hb)
          have C3' := Lib.hid (C3.out.later hb)
          have HB3' := Lib.hid (stepB HB3.out hb)
          clear hb O3 C3 K3 HB3 HKB
          have O3 := O3'
          have C3 := C3'
          have HB3 := HB3'
          clear O3' C3' HB3' d2
          go_wp2
          go_loopw [10] (fun i wr => ∃ (k4 : Nat) (D : List Ct), k4 ≤ m ∧ i = .int .i64 k4 ∧ runC S2 C k4 = D ∧ DdAt wr w.heap.size p b D ∧ DdAt wr w.heap.size pc bc R ∧ Below w.heap.size w wr) (fun i _ => m - (intOf i).toNat)
          case atStart => exact ⟨0, C, Nat.zero_le _, rfl, rfl, O3.out, C3.out, HB3.out⟩
          case round =>
            obtain ⟨k4, D, hk4, rfl, hrun, ho, hc, hb⟩ := hrel
            have O4 := Lib.hid ho
            have C4 := Lib.hid hc
            have HB4 := Lib.hid hb
            have HRU := Lib.hid hrun
            clear ho hc hb hrun O3 C3 HB3
            by_cases hlt : k4 < m
            · have d2 : decide ((k4 : Int) < (m : Int)) = true := decide_eq_true (by omega)
              have wk : IntKind.i64.wrap ((k4 : Int) + 1) = (k4 : Int) + 1 := IntWalk.i64_in _ (by omega)
              obtain ⟨g, off, rfl, hg, hcell⟩ := (HS2.out.later HB4.out).2 (by omega)
              have i1 := sindex g off m c2 k4 (k4 : Int) rfl hlt
              obtain ⟨x0, x1, hwf⟩ := hcell k4 hlt
              obtain ⟨⟨wh, ts⟩, hx⟩ : ∃ x, S2.getD k4 stp0 = x := ⟨_, rfl⟩
              rw [hx] at x0 x1 hwf
              simp only at x0 x1 hwf
              have HX := Lib.hid hx
              clear hcell hx hg
              go_wp2_with fail
              refine (do_any w.heap.size p b D wh ts _ O4.out hwf).mono ?_
              rintro x w5 ⟨rfl, ho, hg⟩
              have HB5 := Lib.hid (O4.out.below HB4.out hg)
              have C5 := Lib.hid (C4.out.other O4.out hg HCB.out)
              have O5 := Lib.hid ho
              have HR5 := Lib.hid (runC_next HRU.out HX.out)
              generalize doC D wh ts = M at *
              generalize doR D wh ts = r at *
              clear ho hg x0 x1 hwf i1 O4 HB4 C4
              clear HRU HX
              go_wp2
              go_roundw
              case rel => exact ⟨k4 + 1, M, by omega, by go_num, HR5.out, O5.out, C5.out, HB5.out⟩
              case measure => simp [intOf]; omega
            · obtain rfl : k4 = m := by omega
              have d2 : decide ((k4 : Int) < (k4 : Int)) = false := decide_eq_false (by omega)
              obtain rfl : D = R := HRU.out.symm.trans HR.out
              clear HRU HR
              go_wp2_with fail
              refine (same_any w.heap.size p b w.heap.size pc bc D _ O4.out C4.out).mono ?_
              rintro x w6 ⟨rfl, hb⟩
              have HB6 := Lib.hid (stepB HB4.out hb)
              clear hb
              go_wp2
              go_ret
              exact ⟨rfl, HB6.out⟩
theorem walk (A : Option Addr) (n c : Nat) (S : List Stp) (A2 : Option Addr) (m c2 : Nat) (S2 : List Stp) (w : World) (hS : Steps w.heap.size w A n S) (_ : n ≤ maxLen) (hS2 : Steps w.heap.size w A2 m S2) (_ : m ≤ maxLen) : Calls Try.prog 8 #[.slice A n c, .slice A2 m c2] w (fun e w' => e = .returned (.bool true) ∧ Below w.heap.size w w') := by
  by_cases hn : 200 < n
  · exact w_long1 A n c A2 m c2 w hn
  · by_cases hm : 200 < m
    · exact w_long2 A n c A2 m c2 w hn hm
    · exact w_main A n c S A2 m c2 S2 w hS hS2 hn hm


set_option maxRecDepth 100000 in
theorem lifted (os : Os) (started : os.Started) (H : Type) (enc : TypeId × Value → H) :
    ReturnsInHanded {} Try.checked os 8 .any (Rows.deadApartSpec.pre6 enc Try.prog Try.f8 Rows.deadApartRow.domain false) (Rows.deadApartSpec.post enc Try.prog Try.f8 false true false false) := by
  refine returnsInHanded_of_change_sized (C := Try.checked) own started (by kernel_rfl) Try.func8
    (ChangeSpec.witness6 (enc := enc) (C := Try.checked) false ⟨#[], #[.slice none 0 0, .slice none 0 0], []⟩ 8 (by kernel_rfl) (by kernel_rfl) (by kernel_rfl) (by kernel_rfl)) ?_
  intro W base args ds gs before hval0 hW _ hsz _
  have hval : ∀ (j : Nat) t v, Try.f8.params[j]? = some t → args[j]? = some v → Value.okWide Try.prog W .any base t v := hval0
  have hW' := hW
  obtain ⟨p, q, hA0, hV, hbef, _, _⟩ := hW
  have hA : DataW.TrodAll enc Try.prog W 0 (fun _ => true) true Try.f8.params.toList args.toList ds p := hA0
  rw [Try.params8] at hA hval
  obtain ⟨v0, vs0, d0, ds0, p0, q0, hargs, rfl, rfl, h0, r0⟩ := trodAll_cons hA
  obtain ⟨v1, vs1, d1, ds1, p1, q1, rfl, rfl, rfl, h1, r1⟩ := trodAll_cons r0
  obtain ⟨rfl, rfl, rfl⟩ := trodAll_nil r1
  obtain rfl : args = #[v0, v1] := by cases args; simp_all
  obtain ⟨rfl, rfl⟩ := trodVars_none hV
  obtain ⟨A0, n0, c0, S0, rfl, st0, mx0⟩ := open_steps (hval 0 32 v0 rfl rfl) h0
  obtain ⟨A1, n1, c1, S1, rfl, st1, mx1⟩ := open_steps (hval 1 32 v1 rfl rfl) h1
  refine (walk A0 n0 c0 S0 A1 n1 c1 S1 W st0 mx0 st1 mx1).mono fun e W' ⟨he, hb⟩ => ?_
  subst he
  exact ⟨_, rfl, law_post laidOut (of_decide_eq_true (by kernel_rfl)) rfl Try.underlying4 rfl rfl hW' hb⟩

theorem over : Rows.deadApartRow.holds Try.pinned (OpenSpec.ofChange Rows.deadApartSpec) :=
  OpenClaim.holds_of_wide 8 Try.f8 rfl rfl rfl rfl rfl rfl rfl ⟨rfl, rfl, rfl, rfl, rfl⟩ rfl rfl rfl rfl rfl (by kernel_rfl) Try.func8 (by kernel_rfl)
    (of_decide_eq_true (by kernel_rfl)) (by unfold Func.isWrapper; first | (rw [if_pos (by decide +kernel)]; kernel_rfl) | (rw [if_neg (by decide +kernel)]; exact ⟨rfl, rfl⟩))
    (fun os started H enc _ => lifted os started H enc)

end Go.Proofs.Ytlnfdcaljmfbjaa.deadApart
namespace Go.Proofs.Ytlnfdcaljmfbjaa
theorem deadApart_holds : Rows.DeadApartSaid := deadApart.over
end Go.Proofs.Ytlnfdcaljmfbjaa
