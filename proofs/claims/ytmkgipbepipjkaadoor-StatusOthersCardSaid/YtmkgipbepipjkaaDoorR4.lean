/-
A step turns no other writer; a copy is apart. For any two runs of steps.
-/
import Derived.Test.YtmkgipbepipjkaaDoorP
import Derived.Test.YtmkgipbepipjkaaDoorTie
import Derived.Test.YtmkgipbepipjkaaDoorCards
import Derived.SevenTiedAt
import Derived.Lay
import Derived.LaidLaws
import Derived.LaidHandle
namespace Go.Proofs.YtmkgipbepipjkaaDoor.statusOthers
open Go.ChangeShapes Go.WideShapes Go.ChangeAt Go.RowKit
set_option linter.unusedVariables false
set_option linter.unusedSimpArgs false
theorem own : ownKnob Tryd.prog.godebug = none := by kernel_rfl
theorem laidOut : laidOutB Tryd.prog = true := by kernel_rfl

set_option maxRecDepth 100000 in
set_option maxHeartbeats 4000000 in
theorem w_long1 (A : Option Addr) (n c : Nat) (S : List Stp) (A2 : Option Addr) (m c2 : Nat) (S2 : List Stp) (w : World) (hT : TabAt w) (hn : 60 < n) : Calls Tryd.prog 7 #[.slice A n c, .slice A2 m c2] w (fun e w' => e = .returned (.bool true) ∧ Below w.heap.size w w') := by
  have d1 : decide ((60 : Int) < (n : Int)) = true := decide_eq_true (by omega)
  have HT := Lib.hid hT
  clear hT
  go_enter Tryd.func7, Tryd.ntmps7
  go_wp2_with fail
  refine (works_any w HT.out).mono ?_
  rintro x w1 ⟨rfl, hb⟩
  have HT1 := Lib.hid (HT.out.later hb)
  have HB1 := Lib.hid hb
  clear hb HT
  go_wp2_with fail
  refine (works_any w1 HT1.out).mono ?_
  rintro x w2 ⟨rfl, hb⟩
  have HB2 := Lib.hid (stepB HB1.out hb)
  clear hb HT1
  go_wp2
  go_ret
  exact ⟨rfl, HB2.out⟩
set_option maxRecDepth 100000 in
set_option maxHeartbeats 4000000 in
theorem w_long2 (A : Option Addr) (n c : Nat) (S : List Stp) (A2 : Option Addr) (m c2 : Nat) (S2 : List Stp) (w : World) (hT : TabAt w) (hn : ¬ 60 < n) (hm : 60 < m) : Calls Tryd.prog 7 #[.slice A n c, .slice A2 m c2] w (fun e w' => e = .returned (.bool true) ∧ Below w.heap.size w w') := by
  have d1 : decide ((60 : Int) < (n : Int)) = false := decide_eq_false (by omega)
  have d2 : decide ((60 : Int) < (m : Int)) = true := decide_eq_true (by omega)
  have HT := Lib.hid hT
  clear hT
  go_enter Tryd.func7, Tryd.ntmps7
  go_wp2_with fail
  refine (works_any w HT.out).mono ?_
  rintro x w1 ⟨rfl, hb⟩
  have HT1 := Lib.hid (HT.out.later hb)
  have HB1 := Lib.hid hb
  clear hb HT
  go_wp2_with fail
  refine (works_any w1 HT1.out).mono ?_
  rintro x w2 ⟨rfl, hb⟩
  have HB2 := Lib.hid (stepB HB1.out hb)
  clear hb HT1
  go_wp2
  go_ret
  exact ⟨rfl, HB2.out⟩
set_option maxRecDepth 100000 in
set_option maxHeartbeats 4000000 in
theorem w_main (A : Option Addr) (n c : Nat) (S : List Stp) (A2 : Option Addr) (m c2 : Nat) (S2 : List Stp) (w : World) (hS : Steps w.heap.size w A n S) (hS2 : Steps w.heap.size w A2 m S2) (hT : TabAt w) (hn : ¬ 60 < n) (hm : ¬ 60 < m) : Calls Tryd.prog 7 #[.slice A n c, .slice A2 m c2] w (fun e w' => e = .returned (.bool true) ∧ Below w.heap.size w w') := by
  have d1 : decide ((60 : Int) < (n : Int)) = false := decide_eq_false (by omega)
  have d1' : decide ((60 : Int) < (m : Int)) = false := decide_eq_false (by omega)
  have HT := Lib.hid hT
  have HS := Lib.hid hS
  have HS2 := Lib.hid hS2
  have hpos := hT.lt
  clear hS hS2 hT
  go_enter Tryd.func7, Tryd.ntmps7
  go_wp2_with fail
  refine (works_any w HT.out).mono ?_
  rintro x w1 ⟨rfl, hb⟩
  have T1 := Lib.hid (HT.out.later hb)
  have HB1 := Lib.hid hb
  clear hb HT
  go_wp2_with fail
  refine (new_any w1).mono ?_
  rintro x w2 ⟨rfl, ho, hb⟩
  have O2 := Lib.hid (ho.base HB1.out.size)
  have T2 := Lib.hid (T1.out.later hb)
  have HB2 := Lib.hid (stepB HB1.out hb)
  generalize w1.heap.size = p at *
  clear hb ho T1 HB1 d1 d1'
  go_wp2
  go_loopw [6] (fun i wr => ∃ (k : Nat) (v : Value) (L : List Wr) (la : Int) (en : Nat), k ≤ n ∧ i = .int .i64 k ∧ L.length ≤ k ∧ WrAt wr w.heap.size p v L la en ∧ TabAt wr ∧ Below w.heap.size w wr) (fun i _ => n - (intOf i).toNat)
  case atStart => exact ⟨0, _, _, _, _, Nat.zero_le _, rfl, Nat.le_refl _, O2.out, T2.out, HB2.out⟩
  case round =>
    obtain ⟨k, v, L, la, en, hk, rfl, hlk, ho, ht, hb⟩ := hrel
    have O0 := Lib.hid ho
    have T0 := Lib.hid ht
    have HB0 := Lib.hid hb
    clear ho ht hb O2 T2 HB2
    by_cases hlt : k < n
    · have d2 : decide ((k : Int) < (n : Int)) = true := decide_eq_true (by omega)
      obtain ⟨g, off, rfl, hg, hcell⟩ := (HS.out.later HB0.out).2 (by omega)
      have i1 := sindex g off n c k (k : Int) rfl hlt
      obtain ⟨x0, x1, x2⟩ := hcell k hlt
      obtain ⟨⟨wh, wi, ts⟩, hx⟩ : ∃ x, S.getD k stp0 = x := ⟨_, rfl⟩
      rw [hx] at x0 x1 x2
      simp only at x0 x1 x2
      clear hcell hx hg
      go_wp2_with fail
      refine (do_any w.heap.size p v L la en wh wi ts wr O0.out T0.out hpos HB0.out.size (by omega)).mono ?_
      rintro x w3 ⟨rfl, v3, en3, ho3, hf3⟩
      have hlen := doS_len L la wh wi ts
      have O3 := Lib.hid ho3
      have T3 := Lib.hid (T0.out.fr O0.out hf3 hpos)
      have HB3 := Lib.hid (Fr.below HB0.out hf3 HB0.out.size O0.out.hp (fun k hk => (O0.out.own.lt k hk).1))
      generalize doS L la wh wi ts = M at *
      generalize doT L la wh wi ts = lb at *
      generalize doE L la wh wi ts = ee at *
      generalize doN L wh = nn at *
      have hmk : M.length ≤ k + 1 := by rw [hlen]; split <;> omega
      have wk : IntKind.i64.wrap ((k : Int) + 1) = (k : Int) + 1 := IntWalk.i64_in _ (by omega)
      clear ho3 hf3 x0 x1 x2 O0 T0 HB0 i1 hlen
      go_wp2
      go_roundw
      case rel => exact ⟨k + 1, v3, M, lb, en3, by omega, by go_num, hmk, O3.out, T3.out, HB3.out⟩
      case measure => simp [intOf]; omega
    · obtain rfl : k = n := by omega
      have d2 : decide ((k : Int) < (k : Int)) = false := decide_eq_false (by omega)
      clear HS
      go_wp2_with fail
      refine (copy_any w.heap.size p v L la en _ O0.out (by omega)).mono ?_
      rintro x wc ⟨vc, rfl, hoc, hb⟩
      have hsz0 := HB0.out.size
      have hpl := O0.out.plt
      have HAC0 := Lib.hid (copy_apart hoc.own O0.out.own (Nat.le_refl _)).symm
      have HPC := Lib.hid (show wr.heap.size ≠ p from by omega)
      have hpc : wr.heap.size < wc.heap.size := hoc.plt
      have C1 := Lib.hid (hoc.base hsz0)
      have O1 := Lib.hid (O0.out.later hb)
      have T1 := Lib.hid (T0.out.later hb)
      have HB1 := Lib.hid (stepB HB0.out hb)
      clear hb HB0 O0 T0
      generalize wr.heap.size = pc at *
      clear hsz0 hpl hoc
      go_wp2_with fail
      refine (copy_any w.heap.size p v L la en _ O1.out (by omega)).mono ?_
      rintro x wk ⟨vk, rfl, hok, hb⟩
      have hsz0 := HB1.out.size
      have HAK0 := Lib.hid (copy_apart hok.own C1.out.own (Nat.le_refl _))
      have HPK := Lib.hid (show wc.heap.size ≠ pc from by omega)
      have K2 := Lib.hid (hok.base hsz0)
      have O2 := Lib.hid (O1.out.later hb)
      have C2 := Lib.hid (C1.out.later hb)
      have T2 := Lib.hid (T1.out.later hb)
      have HB2 := Lib.hid (stepB HB1.out hb)
      clear hb HB1 O1 C1 T1
      generalize wc.heap.size = pk at *
      clear hsz0 hpc hok
      have O1 := O2
      have K1 := K2
      have C1 := C2
      have T1 := T2
      have HB1 := HB2
      clear O2 K2 C2 T2 HB2
      clear d2
      go_wp2
      go_loopw [9] (fun i wr => ∃ (k2 : Nat) (vc : Value) (C : List Wr) (lc : Int) (ec : Nat), k2 ≤ m ∧ i = .int .i64 k2 ∧ runK S2 (L, la) k2 = (C, lc) ∧ C.length ≤ L.length + k2 ∧ WrAt wr w.heap.size pc vc C lc ec ∧ Apart v vc ∧ Apart vk vc ∧ WrAt wr w.heap.size p v L la en ∧ WrAt wr w.heap.size pk vk L la en ∧ TabAt wr ∧ Below w.heap.size w wr) (fun i _ => m - (intOf i).toNat)
      case atStart => exact ⟨0, vc, L, la, en, Nat.zero_le _, rfl, rfl, Nat.le_refl _, C1.out, HAC0.out, HAK0.out, O1.out, K1.out, T1.out, HB1.out⟩
      case round =>
        clear HAC0 HAK0 C1 O1 K1 T1 HB1
        clear vc
        obtain ⟨k2, vc, C, lc, ec, hk2, rfl, hrun, hcl, hc, hac, hak, ho, hkp, ht, hb⟩ := hrel
        have C1 := Lib.hid hc
        have O1 := Lib.hid ho
        have K1 := Lib.hid hkp
        have T1 := Lib.hid ht
        have HB1 := Lib.hid hb
        have HAC := Lib.hid hac
        have HAK := Lib.hid hak
        have HR := Lib.hid hrun
        clear hc ho hkp ht hb hac hak hrun
        by_cases hlt : k2 < m
        · have d2 : decide ((k2 : Int) < (m : Int)) = true := decide_eq_true (by omega)
          go_wp2_with fail
          refine (copy_any w.heap.size pc vc C lc ec _ C1.out (by omega)).mono ?_
          rintro x w2 ⟨vw, rfl, how, hb⟩
          have hsz := HB1.out.size
          have hpl := C1.out.plt
          have HAW := Lib.hid (copy_apart how.own C1.out.own (Nat.le_refl _))
          have HPW := Lib.hid (show _ ≠ pc from Nat.ne_of_gt hpl)
          have X2 := Lib.hid (how.base hsz)
          have C2 := Lib.hid (C1.out.later hb)
          have O2 := Lib.hid (O1.out.later hb)
          have K2 := Lib.hid (K1.out.later hb)
          have T2 := Lib.hid (T1.out.later hb)
          have HB2 := Lib.hid (stepB HB1.out hb)
          clear hb HB1 C1 O1 K1 T1
          generalize wr.heap.size = pw at *
          clear hsz hpl how
          obtain ⟨g, off, rfl, hg, hcell⟩ := (HS2.out.later HB2.out).2 (by omega)
          have i1 := sindex g off m c2 k2 (k2 : Int) rfl hlt
          obtain ⟨x0, x1, x2⟩ := hcell k2 hlt
          obtain ⟨⟨wh, wi, ts⟩, hx⟩ : ∃ x, S2.getD k2 stp0 = x := ⟨_, rfl⟩
          rw [hx] at x0 x1 x2
          simp only at x0 x1 x2
          have HSX := Lib.hid hx
          clear hcell hx hg
          go_wp2_with fail
          refine (do_new w.heap.size pc vc C lc ec wh wi ts w2 C2.out T2.out hpos HB2.out.size (by omega)).mono ?_
          rintro x w3 ⟨rfl, vc3, ec3, hc3, hf, hnw⟩
          have hlen := doS_len C lc wh wi ts
          have HR3 := Lib.hid (runK_next HR.out HSX.out rfl rfl)
          have HOT := Lib.hid (fun (q : Nat) (hq : q < C.length) (hne : (q : Int) + 1 ≠ wi) => do_other (la := lc) wh wi ts hq hne)
          have C3 := Lib.hid hc3
          have O3 := Lib.hid (O2.out.fr hf C2.out.blk C2.out.own HPC.out.symm HAC.out)
          have K3 := Lib.hid (K2.out.fr hf C2.out.blk C2.out.own HPK.out HAK.out)
          have X3 := Lib.hid (X2.out.fr hf C2.out.blk C2.out.own HPW.out HAW.out)
          have T3 := Lib.hid (T2.out.fr C2.out hf hpos)
          have HB3 := Lib.hid (Fr.below HB2.out hf HB2.out.size C2.out.hp (fun k hk => (C2.out.own.lt k hk).1))
          have HAC3 := Lib.hid (hnw.apart O2.out.own HAC.out)
          have HAK3 := Lib.hid (hnw.apart K2.out.own HAK.out)
          generalize doS C lc wh wi ts = M at *
          generalize doT C lc wh wi ts = lb at *
          generalize doE C lc wh wi ts = ee at *
          generalize doN C wh = nn at *
          have hml : M.length ≤ L.length + (k2 + 1) := by rw [hlen]; split <;> omega
          have wk : IntKind.i64.wrap ((k2 : Int) + 1) = (k2 : Int) + 1 := IntWalk.i64_in _ (by omega)
          clear hc3 hf hnw x0 x1 x2 C2 O2 K2 X2 T2 HB2 HAC HAK HAW HPW HR hlen
          go_wp2
          go_loopw [11] (fun iw wr3 => ∃ (q : Nat), q ≤ C.length ∧ iw = .int .i64 ((q : Int) + 1) ∧ WrAt wr3 w.heap.size pw vw C lc ec ∧ WrAt wr3 w.heap.size p v L la en ∧ WrAt wr3 w.heap.size pk vk L la en ∧ WrAt wr3 w.heap.size pc vc3 M lb ec3 ∧ TabAt wr3 ∧ Below w.heap.size w wr3) (fun iw _ => C.length + 1 - (intOf iw).toNat)
          case atStart => exact ⟨0, Nat.zero_le _, rfl, X3.out, O3.out, K3.out, C3.out, T3.out, HB3.out⟩
          case round =>
            obtain ⟨q, hq, rfl, hx, ho, hk, hc, ht, hb⟩ := hrel
            have X4 := Lib.hid hx
            have O4 := Lib.hid ho
            have K4 := Lib.hid hk
            have C4 := Lib.hid hc
            have T4 := Lib.hid ht
            have HB4 := Lib.hid hb
            clear hx ho hk hc ht hb X3 O3 K3 C3 T3 HB3
            by_cases hqm : q < C.length
            · have d3 : decide ((q : Int) + 1 < (C.length : Int) + 1) = true := decide_eq_true (by omega)
              have wq : IntKind.i64.wrap ((q : Int) + 1 + 1) = (q : Int) + 1 + 1 := IntWalk.i64_in _ (by omega)
              have hr := of_rng X4.out ((q : Int) + 1)
              have hot := HOT.out q hqm
              obtain ⟨⟨a, t⟩, hx⟩ : ∃ x, ofL C ((q : Int) + 1) = x := ⟨_, rfl⟩
              rw [hx] at hr hot
              simp only at hr
              have wa : IntKind.i64.wrap a = a := IntWalk.i64_in _ (by omega)
              have HX := Lib.hid hx
              have HOQ := Lib.hid hot
              clear hx hr hot
              go_wp2_with fail
              refine (high_e X4.out (by omega)).mono ?_
              rintro x _ ⟨rfl, rfl⟩
              go_wp2_with fail
              refine (of_any w.heap.size pw vw C lc ec _ _ X4.out (by omega)).mono ?_
              rintro x w5 ⟨rfl, hb⟩
              rw [HX.out]
              have X5 := Lib.hid (X4.out.later hb)
              have O5 := Lib.hid (O4.out.later hb)
              have K5 := Lib.hid (K4.out.later hb)
              have C5 := Lib.hid (C4.out.later hb)
              have T5 := Lib.hid (T4.out.later hb)
              have HB5 := Lib.hid (stepB HB4.out hb)
              clear hb HB4 X4 O4 K4 C4 T4
              obtain ⟨g', off', e', hg', hcell⟩ := (HS2.out.later HB5.out).2 (by omega)
              cases e'
              obtain ⟨_, x1, _⟩ := hcell k2 hlt
              rw [HSX.out] at x1
              simp only at x1
              clear hg' hcell
              by_cases hqi : (q : Int) + 1 = wi
              · have dq : ((q : Int) + 1 != wi) = false := ine_no hqi
                clear HOQ hqi
                go_wp2
                go_roundw
                case rel => exact ⟨q + 1, by omega, by go_num, X5.out, O5.out, K5.out, C5.out, T5.out, HB5.out⟩
                case measure => simp [intOf]; omega
              · have dq : ((q : Int) + 1 != wi) = true := ine_yes hqi
                have HQ := Lib.hid (HOQ.out hqi)
                clear HOQ hqi
                go_wp2_with fail
                refine (is_k ((q : Int) + 1) a t (b := true) C5.out (by omega) (by rw [HQ.out]; exact is_same)).mono ?_
                rintro x w6 ⟨rfl, hb⟩
                clear x1
                have X6 := Lib.hid (X5.out.later hb)
                have O6 := Lib.hid (O5.out.later hb)
                have K6 := Lib.hid (K5.out.later hb)
                have C6 := Lib.hid (C5.out.later hb)
                have T6 := Lib.hid (T5.out.later hb)
                have HB6 := Lib.hid (stepB HB5.out hb)
                clear hb HB5 X5 O5 K5 C5 T5
                go_wp2
                go_roundw
                case rel => exact ⟨q + 1, by omega, by go_num, X6.out, O6.out, K6.out, C6.out, T6.out, HB6.out⟩
                case measure => simp [intOf]; omega
            · obtain rfl : q = C.length := by omega
              have d3 : decide ((C.length : Int) + 1 < (C.length : Int) + 1) = false := decide_eq_false (by omega)
              go_wp2_with fail
              refine (high_e X4.out (by omega)).mono ?_
              rintro x _ ⟨rfl, rfl⟩
              go_wp2
              go_roundw
              case rel => exact ⟨k2 + 1, vc3, M, lb, ec3, by omega, by go_num, HR3.out, hml, C4.out, HAC3.out, HAK3.out, O4.out, K4.out, T4.out, HB4.out⟩
              case measure => simp [intOf]; omega
        · obtain rfl : k2 = m := by omega
          have d2 : decide ((k2 : Int) < (k2 : Int)) = false := decide_eq_false (by omega)
          generalize C = R at *
          generalize lc = rl at *
          have O2 := O1
          have K2 := K1
          have C2 := C1
          have T2 := T1
          have HB2 := HB1
          clear O1 K1 C1 T1 HB1 HAK
          generalize k2 = m at *
          go_wp2
          go_loopw [14] (fun iw wr2 => ∃ (q : Nat), q ≤ L.length + 2 ∧ iw = .int .i64 q ∧ WrAt wr2 w.heap.size p v L la en ∧ WrAt wr2 w.heap.size pk vk L la en ∧ WrAt wr2 w.heap.size pc vc R rl ec ∧ TabAt wr2 ∧ Below w.heap.size w wr2) (fun iw _ => L.length + 2 - (intOf iw).toNat)
          case atStart => exact ⟨0, Nat.zero_le _, rfl, O2.out, K2.out, C2.out, T2.out, HB2.out⟩
          case round =>
            obtain ⟨q, hq, rfl, ho, hk, hc, ht, hb⟩ := hrel
            have O3 := Lib.hid ho
            have K3 := Lib.hid hk
            have C3 := Lib.hid hc
            have T3 := Lib.hid ht
            have HB3 := Lib.hid hb
            clear ho hk hc ht hb O2 K2 C2 T2 HB2
            by_cases hqm : q < L.length + 2
            · have d3 : decide ((q : Int) ≤ (L.length : Int) + 1) = true := decide_eq_true (by omega)
              have wq : IntKind.i64.wrap ((q : Int) + 1) = (q : Int) + 1 := IntWalk.i64_in _ (by omega)
              have hr := of_rng O3.out (q : Int)
              obtain ⟨⟨a, t⟩, hx⟩ : ∃ x, ofL L (q : Int) = x := ⟨_, rfl⟩
              rw [hx] at hr
              simp only at hr
              have wa : IntKind.i64.wrap a = a := IntWalk.i64_in _ (by omega)
              have HX := Lib.hid hx
              clear hx hr
              go_wp2_with fail
              refine (high_e O3.out (by omega)).mono ?_
              rintro x _ ⟨rfl, rfl⟩
              go_wp2_with fail
              refine (of_any w.heap.size pk vk L la en _ _ K3.out (by omega)).mono ?_
              rintro x w4 ⟨rfl, hb⟩
              rw [HX.out]
              have O4 := Lib.hid (O3.out.later hb)
              have K4 := Lib.hid (K3.out.later hb)
              have C4 := Lib.hid (C3.out.later hb)
              have T4 := Lib.hid (T3.out.later hb)
              have HB4 := Lib.hid (stepB HB3.out hb)
              clear hb HB3 O3 K3 C3 T3
              go_wp2_with fail
              refine (is_k (q : Int) a t (b := true) O4.out (by omega) (by rw [HX.out]; exact is_same)).mono ?_
              rintro x w5 ⟨rfl, hb⟩
              have O5 := Lib.hid (O4.out.later hb)
              have K5 := Lib.hid (K4.out.later hb)
              have C5 := Lib.hid (C4.out.later hb)
              have T5 := Lib.hid (T4.out.later hb)
              have HB5 := Lib.hid (stepB HB4.out hb)
              clear hb HB4 O4 K4 C4 T4
              go_wp2
              go_roundw
              case rel => exact ⟨q + 1, by omega, by go_num, O5.out, K5.out, C5.out, T5.out, HB5.out⟩
              case measure => simp [intOf]; omega
            · obtain rfl : q = L.length + 2 := by omega
              have d3 : decide (((L.length + 2 : Nat) : Int) ≤ (L.length : Int) + 1) = false := decide_eq_false (by omega)
              clear K3
              go_wp2_with fail
              refine (high_e O3.out (by omega)).mono ?_
              rintro x _ ⟨rfl, rfl⟩
              clear d3
              go_wp2
              go_loopw [17] (fun iw wr2 => ∃ (k4 : Nat) (v4 : Value) (D : List Wr) (ld : Int) (ed : Nat), k4 ≤ m ∧ iw = .int .i64 k4 ∧ runK S2 (L, la) k4 = (D, ld) ∧ D.length ≤ L.length + k4 ∧ WrAt wr2 w.heap.size p v4 D ld ed ∧ Apart vc v4 ∧ WrAt wr2 w.heap.size pc vc R rl ec ∧ TabAt wr2 ∧ Below w.heap.size w wr2) (fun iw _ => m - (intOf iw).toNat)
              case atStart => exact ⟨0, v, L, la, en, Nat.zero_le _, rfl, rfl, Nat.le_refl _, O3.out, HAC.out.symm, C3.out, T3.out, HB3.out⟩
              case round =>
                obtain ⟨k4, v4, D, ld, ed, hk4, rfl, hrun4, hdl, ho, ha, hc, ht, hb⟩ := hrel
                have O4 := Lib.hid ho
                have C4 := Lib.hid hc
                have T4 := Lib.hid ht
                have HB4 := Lib.hid hb
                have HA4 := Lib.hid ha
                have HRU := Lib.hid hrun4
                clear hrun4 ho hc ht hb ha O3 C3 T3 HB3
                by_cases hlt : k4 < m
                · have d2 : decide ((k4 : Int) < (m : Int)) = true := decide_eq_true (by omega)
                  obtain ⟨g, off, rfl, hg, hcell⟩ := (HS2.out.later HB4.out).2 (by omega)
                  have i1 := sindex g off m c2 k4 (k4 : Int) rfl hlt
                  obtain ⟨x0, x1, x2⟩ := hcell k4 hlt
                  obtain ⟨⟨wh, wi, ts⟩, hx⟩ : ∃ x, S2.getD k4 stp0 = x := ⟨_, rfl⟩
                  rw [hx] at x0 x1 x2
                  simp only at x0 x1 x2
                  have HX := Lib.hid hx
                  clear hcell hx hg
                  go_wp2_with fail
                  refine (do_new w.heap.size p v4 D ld ed wh wi ts _ O4.out T4.out hpos HB4.out.size (by omega)).mono ?_
                  rintro x w5 ⟨rfl, v5, e5, ho, hf, hnw⟩
                  have hlen := doS_len D ld wh wi ts
                  have HR5 := Lib.hid (runK_next HRU.out HX.out rfl rfl)
                  have O5 := Lib.hid ho
                  have C5 := Lib.hid (C4.out.fr hf O4.out.blk O4.out.own HPC.out HA4.out)
                  have T5 := Lib.hid (T4.out.fr O4.out hf hpos)
                  have HB5 := Lib.hid (Fr.below HB4.out hf HB4.out.size O4.out.hp (fun k hk => (O4.out.own.lt k hk).1))
                  have HA5 := Lib.hid (hnw.apart C4.out.own HA4.out)
                  generalize doS D ld wh wi ts = M at *
                  generalize doT D ld wh wi ts = lb at *
                  generalize doE D ld wh wi ts = ee at *
                  generalize doN D wh = nn at *
                  have hml : M.length ≤ L.length + (k4 + 1) := by rw [hlen]; split <;> omega
                  have wk : IntKind.i64.wrap ((k4 : Int) + 1) = (k4 : Int) + 1 := IntWalk.i64_in _ (by omega)
                  clear ho hf hnw x0 x1 x2 O4 C4 T4 HB4 HA4 HRU HX i1 hlen
                  go_wp2
                  go_roundw
                  case rel => exact ⟨k4 + 1, v5, M, lb, e5, by omega, by go_num, HR5.out, hml, O5.out, HA5.out, C5.out, T5.out, HB5.out⟩
                  case measure => simp [intOf]; omega
                · obtain rfl : k4 = m := by omega
                  have d2 : decide ((k4 : Int) < (k4 : Int)) = false := decide_eq_false (by omega)
                  obtain ⟨rfl, rfl⟩ : D = R ∧ ld = rl := by have h := HRU.out.symm.trans HR.out; simpa using h
                  have hbl := busyOf_len (seqE D 0 D.length)
                  rw [seqE_len] at hbl
                  change (busyL D).length ≤ D.length at hbl
                  clear HRU HR
                  go_wp2_with fail
                  refine (busy_any w.heap.size p v4 D ld ed _ O4.out (by omega)).mono ?_
                  rintro x w5 ⟨vx, rfl, hox, hb⟩
                  have HX5 := Lib.hid hox
                  obtain ⟨Ax, cx, rfl, _⟩ := Ow.sl hox
                  clear hox
                  have O5 := Lib.hid (O4.out.later hb)
                  have C5 := Lib.hid (C4.out.later hb)
                  have HB5 := Lib.hid (stepB HB4.out hb)
                  clear hb HB4 O4 C4
                  go_wp2_with fail
                  refine (busy_any w.heap.size pc vc D ld ec _ C5.out (by omega)).mono ?_
                  rintro x w6 ⟨vy, rfl, hoy, hb⟩
                  obtain ⟨Ay, cy, rfl, hsy⟩ := Ow.sl hoy
                  obtain ⟨Ax', cx', ex, hsx⟩ := Ow.sl (HX5.out.later hb)
                  cases ex
                  clear hoy HX5
                  have O6 := Lib.hid (O5.out.later hb)
                  have C6 := Lib.hid (C5.out.later hb)
                  have HB6 := Lib.hid (stepB HB5.out hb)
                  clear hb HB5 O5 C5
                  go_wp2_with fail
                  refine (ints_any Ax Ay (busyL D).length (busyL D).length cx cy (busyL D) (busyL D) w6 hsx.rd hsy.rd (by omega) (by omega)).mono ?_
                  rintro x w7 ⟨rfl, d, hw7⟩
                  rw [show decide (busyL D = busyL D) = true from decide_eq_true rfl]
                  have hb : Below w6.heap.size w6 w7 := by rw [hw7]; exact below_drewN (Below.refl _ _) d
                  clear hw7 hsx hsy
                  have O7 := Lib.hid (O6.out.later hb)
                  have C7 := Lib.hid (C6.out.later hb)
                  have HB7 := Lib.hid (stepB HB6.out hb)
                  clear hb HB6 O6 C6
                  go_wp2_with fail
                  refine (high_e O7.out (by omega)).mono ?_
                  rintro x _ ⟨rfl, rfl⟩
                  go_wp2_with fail
                  refine (high_e C7.out (by omega)).mono ?_
                  rintro x _ ⟨rfl, rfl⟩
                  go_wp2_with fail
                  refine (last_e O7.out).mono ?_
                  rintro x _ ⟨rfl, rfl⟩
                  go_wp2_with fail
                  refine (last_e C7.out).mono ?_
                  rintro x _ ⟨rfl, rfl⟩
                  go_wp2
                  go_ret
                  exact ⟨rfl, HB7.out⟩
theorem walk (A : Option Addr) (n c : Nat) (S : List Stp) (A2 : Option Addr) (m c2 : Nat) (S2 : List Stp) (w : World) (hS : Steps w.heap.size w A n S) (_ : n ≤ maxLen) (hS2 : Steps w.heap.size w A2 m S2) (_ : m ≤ maxLen) (hT : TabAt w) : Calls Tryd.prog 7 #[.slice A n c, .slice A2 m c2] w (fun e w' => e = .returned (.bool true) ∧ Below w.heap.size w w') := by
  by_cases hn : 60 < n
  · exact w_long1 A n c S A2 m c2 S2 w hT hn
  · by_cases hm : 60 < m
    · exact w_long2 A n c S A2 m c2 S2 w hT hn hm
    · exact w_main A n c S A2 m c2 S2 w hS hS2 hT hn hm


set_option maxRecDepth 100000 in
theorem lifted (os : Os) (started : os.Started) (H : Type) (enc : TypeId × Value → H) :
    ReturnsInHanded {} Tryd.checked os 7 .any (fun w args => (Rows.statusOthersSpec.pre enc Tryd.prog Tryd.f7 Rows.statusOthersRow.domain false w args ∧ laidMetH Tryd.prog Rows.statusOthersRow.laid w) ∧ sizedMet enc Tryd.prog Tryd.f7 (OpenSpec.ofChange Rows.statusOthersSpec) false w args) (Rows.statusOthersSpec.post enc Tryd.prog Tryd.f7 false true false false) := by
  refine returnsInHanded_of_change_and (C := Tryd.checked) (X := fun w _ => laidMetH Tryd.prog Rows.statusOthersRow.laid w) (fun _ _ _ hh h => h.of_heap hh) own started (by kernel_rfl) Tryd.func7
    (ChangeSpec.witness_shaped (enc := enc) (C := Tryd.checked) (os := os) (X := fun w _ => laidMetH Tryd.prog Rows.statusOthersRow.laid w) false (World.laidAll Tryd.prog os Rows.statusOthersRow.laid) #[.slice none 0 0, .slice none 0 0] 8 (World.laidAll_os _ _ _)
      (World.shaped_of_ZipB (by kernel_rfl) (by kernel_rfl)) (by kernel_rfl) (by kernel_rfl) (by kernel_rfl)
      (by rw [MakeChecks.laidMetH_plain _ _ _ (by kernel_rfl)]; exact laidMet_laidAll _ (by kernel_rfl) (by kernel_rfl))) ?_
  intro W base args ds gs before hval0 hW _ hsz hL _
  have hval : ∀ (j : Nat) t v, Tryd.f7.params[j]? = some t → args[j]? = some v → Value.okWide Tryd.prog W .any base t v := hval0
  have hW' := hW
  obtain ⟨p, q, hA0, hV, hbef, _, _⟩ := hW
  have hA : DataW.TrodAll enc Tryd.prog W 0 (fun _ => true) true Tryd.f7.params.toList args.toList ds p := hA0
  rw [Tryd.params7] at hA hval
  obtain ⟨v0, vs0, d0, ds0, p0, q0, hargs, rfl, rfl, h0, r0⟩ := trodAll_cons hA
  obtain ⟨v1, vs1, d1, ds1, p1, q1, rfl, rfl, rfl, h1, r1⟩ := trodAll_cons r0
  obtain ⟨rfl, rfl, rfl⟩ := trodAll_nil r1
  obtain rfl : args = #[v0, v1] := by cases args; simp_all
  obtain ⟨rfl, rfl⟩ := trodVars_none hV
  obtain ⟨A0, n0, c0, S0, rfl, st0, mx0⟩ := open_steps (hval 0 32 v0 rfl rfl) h0
  obtain ⟨A1, n1, c1, S1, rfl, st1, mx1⟩ := open_steps (hval 1 32 v1 rfl rfl) h1
  refine (walk A0 n0 c0 S0 A1 n1 c1 S1 W st0 mx0 st1 mx1 (tab_of_laid hL)).mono fun e W' ⟨he, hb⟩ => ?_
  subst he
  exact ⟨_, rfl, law_post laidOut (of_decide_eq_true (by kernel_rfl)) rfl Tryd.underlying4 rfl rfl hW' hb⟩

theorem over : Rows.statusOthersRow.holds Tryd.pinned (OpenSpec.ofChange Rows.statusOthersSpec) :=
  OpenClaim.holds_of_wide 7 Tryd.f7 rfl rfl rfl rfl rfl rfl rfl ⟨rfl, rfl, rfl, rfl, rfl⟩ rfl rfl rfl rfl rfl (by kernel_rfl) Tryd.func7 (by kernel_rfl)
    (of_decide_eq_true (by kernel_rfl)) (by unfold Func.isWrapper; first | (rw [if_pos (by decide +kernel)]; kernel_rfl) | (rw [if_neg (by decide +kernel)]; exact ⟨rfl, rfl⟩))
    (fun os started H enc _ => lifted os started H enc)
theorem card : Rows.StatusOthersCardSaid :=
  Claim7.holds_tied_plain_at .later [] [.data] true (true, "b1f80fd74cd5558cecf8c137d8407ecb493cf558ae174e6cefbb4fc2bec1b4f4") false over (fun _ h => by cases h) (by kernel_rfl) (fun _ h => by cases h) statusOthers_row_tie rfl ⟨rfl, rfl⟩ (by kernel_rfl) rfl
    (fun f fn hf hfn => by
      obtain rfl : f = 7 := Option.some.inj ((show Tryd.prog.funcNamed "ferryman/ferrymanlaw08.StatusOthers" = some 7 by kernel_rfl).symm.trans hf) |>.symm
      obtain rfl : fn = Tryd.f7 := (Option.some.inj (Tryd.func7.symm.trans hfn)).symm
      exact ⟨by kernel_rfl, fun j t ht => by
        rw [Tryd.params7] at ht
        have hm : t ∈ [32] := by have := Array.mem_of_getElem? ht; simpa using this
        have hall : ([32].all fun u => !Tryd.prog.wantsStandIn u) = true := by kernel_rfl
        exact (show Tryd.prog.wantsStandIn t = false by simpa using List.all_eq_true.1 hall t hm)⟩)
    (by kernel_rfl)
end Go.Proofs.YtmkgipbepipjkaaDoor.statusOthers
namespace Go.Proofs.YtmkgipbepipjkaaDoor
theorem statusOthers_holds : Rows.StatusOthersCardSaid := statusOthers.card
end Go.Proofs.YtmkgipbepipjkaaDoor
