/-
What is done to one slot changes no byte of another one that is used. For any length of slots, any steps ahead, any step.
-/
import Derived.Test.YtjkohdenmiljpaaV2
import Derived.Test.YtjkohdenmiljpaaLF
import Derived.Test.YtjkohdenmiljpaaRows
namespace Go.Proofs.Ytjkohdenmiljpaa.pageApart
open Go.ChangeShapes Go.WideShapes Go.ChangeAt Go.RowKit Go.Maps
set_option linter.unusedVariables false
set_option linter.unusedSimpArgs false

theorem own : ownKnob Try.prog.godebug = none := by kernel_rfl
theorem laidOut : laidOutB Try.prog = true := by kernel_rfl

set_option maxRecDepth 100000 in
set_option maxHeartbeats 8000000 in
theorem walk (x : Int) (A : Option Addr) (n c : Nat) (S : List Stp) (kd sa so : Int) (st : ByteArray) (w : World) (hS : Steps w.heap.size w A n S) (hn : n ≤ maxLen) (hst : st.size ≤ maxLen) (hsa : 0 ≤ sa ∧ sa ≤ 65535) (hso : 0 ≤ so ∧ so ≤ 65535) : Calls Try.prog 5 #[.int .i64 x, .slice A n c, .agg #[.int .u8 kd, .int .u16 sa, .int .u16 so, .string st]] w (fun e w' => e = .returned (.bool true) ∧ Below w.heap.size w w') := by
  have hb0 : Below w.heap.size w (w.alloc (.cells #[.int .u8 kd, .int .u16 sa, .int .u16 so, .string st] 47)) := (Below.refl _ _).alloc (Nat.le_refl _) _
  have HB := Lib.hid hb0
  have HX := Lib.hid (Blk.new w #[.int .u8 kd, .int .u16 sa, .int .u16 so, .string st] 47)
  have HS := Lib.hid ((hS.below hb0).mono hb0.size)
  have HN := Lib.hid hn
  unfold maxLen at hst
  have HG := Lib.hid (And.intro hsa hso)
  clear hS hn hb0 hsa hso
  go_enter Try.func5, Try.ntmps5
  go_wp2_with fail
  generalize (w.alloc (.cells #[.int .u8 kd, .int .u16 sa, .int .u16 so, .string st] 47)) = w1 at *
  obtain ⟨q, hq⟩ : ∃ q, w.heap.size = q := ⟨_, rfl⟩
  have HQ := Lib.hid hq
  have HX : Hid (Blk w1 q #[.int .u8 kd, .int .u16 sa, .int .u16 so, .string st] 47) := by rw [← hq]; exact HX.out
  rw [hq]
  clear hq
  refine (long_any A n c S w1 HS.out HN.out).mono ?_
  rintro e w2 ⟨⟨r, rfl⟩, rfl⟩
  have c3 := HX.out.cell 3
  simp only [List.getElem?_toArray, List.getElem?_cons_zero, List.getElem?_cons_succ] at c3
  cases r with
  | true =>
    go_wp2_with fail
    refine (awake_any _).mono ?_
    rintro e w2 ⟨rfl, hb⟩
    replace HB := Lib.hid (stepB HB.out hb)
    clear hb c3
    go_wp2
    go_ret
    exact ⟨rfl, HB.out⟩
  | false =>
    by_cases hlong : 5000 < st.size
    · have d3 : decide (5000 < (st.size : Int)) = true := decide_eq_true (by omega)
      go_wp2_with fail
      refine (awake_any _).mono ?_
      rintro e w2 ⟨rfl, hb⟩
      replace HB := Lib.hid (stepB HB.out hb)
      clear hb c3
      go_wp2
      go_ret
      exact ⟨rfl, HB.out⟩
    · have d3 : decide (5000 < (st.size : Int)) = false := decide_eq_false (by omega)
      go_wp2_with fail
      refine (awake_any _).mono ?_
      rintro e w2 ⟨rfl, hb⟩
      replace HB := Lib.hid (stepB HB.out hb)
      replace HX := Lib.hid (HX.out.later hb)
      replace HS := Lib.hid ((HS.out.below hb).mono hb.size)
      clear hb c3 d3 hlong
      by_cases hx : x < 2 ∨ 4096 < x
      · have HXX := Lib.hid hx
        clear hx
        go_wp2_with fail
        refine (run_no x A n c w2 HXX.out).mono ?_
        rintro e w3 ⟨rfl, rfl⟩
        go_wp2
        go_ret
        exact ⟨rfl, HB.out⟩
      · obtain ⟨s, rfl⟩ : ∃ s : Nat, x = (s : Int) := ⟨x.toNat, by omega⟩
        have h2 : 2 ≤ s := by omega
        have h4 : s ≤ 4096 := by omega
        clear hx
        go_wp2_with fail
        refine (run_is A n c s S w2 HS.out HN.out h2 h4).mono ?_
        rintro e w3 ⟨p, b, m, C, bs, F, U, Au, cu, rfl, hp, hu, ho, hb⟩
        have hxq := HX.out.lt
        have hpp := hp.at_.hp
        have hbb := hp.at_.own.1
        have HNE : Hid (q ≠ p ∧ q ≠ b ∧ w.heap.size ≤ p ∧ w.heap.size ≤ b) := by have := HB.out.size; exact ⟨by omega, by omega, by omega, by omega⟩
        have HP := Lib.hid (hp.base HB.out.size)
        have HU := Lib.hid hu
        have HO := Lib.hid (Ow.base ho HB.out.size)
        replace HX := Lib.hid (HX.out.later hb)
        replace HB := Lib.hid (stepB HB.out hb)
        have HRU : Hid (∀ y ∈ C, 0 ≤ y ∧ y ≤ 4095) := HP.out.at_.ok.rg
        clear hp hu ho hb hxq hpp hbb HS
        have hUL : U.length ≤ 4096 := by have := HP.out.at_.ok.len; have := HU.out.len; omega
        go_wp2
        go_loopw [10, 11] (fun v i wr => ∃ (k : Nat) (v10 : Value), k ≤ U.length ∧ i = .int .i64 k ∧ v = v10 ∧ Pg wr w.heap.size p b s m C bs F ∧ Ow uv wr w.heap.size 23 (.slice Au U.length cu) U.length U ∧ Blk wr q #[.int .u8 kd, .int .u16 sa, .int .u16 so, .string st] 47 ∧ Ow sv wr w.heap.size 9 v10 k (wasL bs s U k) ∧ Below w.heap.size w wr) (fun _ i _ => U.length - (intOf i).toNat)
        case atStart => exact ⟨0, _, Nat.zero_le _, rfl, rfl, HP.out, HO.out, HX.out, Ow.none _ _ _, HB.out⟩
        case round =>
          obtain ⟨k, v10, hk, rfl, rfl, hp, ho, hxx, hr, hb⟩ := hrel
          replace HP := Lib.hid hp
          replace HO := Lib.hid ho
          replace HX := Lib.hid hxx
          have HR := Lib.hid hr
          replace HB := Lib.hid hb
          obtain ⟨Ar, cr, rfl, _⟩ := Ow.sl hr
          clear hp ho hxx hr hb
          by_cases hlt : k < U.length
          · have d5 : decide ((k : Int) < (U.length : Int)) = true := decide_eq_true (by omega)
            have wk1 : IntKind.i64.wrap ((k : Int) + 1) = (k : Int) + 1 := IntWalk.i64_in _ (by omega)
            obtain ⟨g, o, rfl, hg, hc⟩ := ow_cell HO.out hlt
            have i5 := index54 g o U.length cu k (k : Int) rfl hlt
            have c5 := hc k hlt
            have hmem := (HU.out.mem _).1 (getD_mem hlt)
            have HRD := Lib.hid (read_pg _ p b s m C bs F (U.getD k 0) wr HP.out hmem)
            have HSU := Lib.hid (was_succ (bs := bs) (s := s) hlt)
            obtain ⟨o1, e1, ho1, _⟩ := HP.out.inv.at_ hmem
            have hsz : (rdS bs (U.getD k 0).toNat s).size = s := rdS_size (by rw [HP.out.inv.len]; omega)
            have hsn : ((s : Int) != (s : Int)) = false := by simp
            clear hc hg hmem e1 ho1
            generalize U.getD k 0 = u at *
            generalize rdS bs u.toNat s = t at *
            go_wp2_with fail
            refine HRD.out.mono ?_
            rintro e w4 ⟨rfl, hb⟩
            replace HP := Lib.hid (HP.out.later hb)
            replace HO := Lib.hid (Ow.later HO.out hb)
            replace HR := Lib.hid (Ow.later HR.out hb)
            replace HX := Lib.hid (HX.out.later hb)
            replace HB := Lib.hid (stepB HB.out hb)
            have hb6 : Below w4.heap.size w4 (w4.alloc (.cells #[.string t] 9)) := (Below.refl _ _).alloc (Nat.le_refl _) _
            have HX6 : Hid (Sl sv (w4.alloc (.cells #[.string t] 9)) (some ⟨w4.heap.size, 0, none⟩) 1 1 [t]) := Blk.sl (enc := sv) (xs := [t]) (Blk.new w4 #[.string t] 9)
            replace HP := Lib.hid (HP.out.later hb6)
            replace HO := Lib.hid (Ow.later HO.out hb6)
            replace HR := Lib.hid (Ow.later HR.out hb6)
            replace HX := Lib.hid (HX.out.later hb6)
            replace HB := Lib.hid (stepB HB.out hb6)
            clear hb hb6 HRD c5
            go_wp2_with (at_builtin; refine wpList_append_sl elemS rfl (.tmp 63) (.tmp 65) rfl w.heap.size _ k (wasL bs s U k) rfl HR.out (some ⟨w4.heap.size, 0, none⟩) 1 1 [t] rfl HX6.out (by omega) (by decide) HB.out.size ?_; intro v7 w7 ho7)
            intro hg7
            replace HP := Lib.hid (HP.out.grown9 HR.out hg7)
            replace HO := Lib.hid (ow_kept9 HO.out HR.out hg7)
            replace HX := Lib.hid (blk_grown9 HX.out (by decide) HR.out hg7)
            replace HB := Lib.hid (HB.out.grown hg7 HB.out.size (fun j hj => (Ow.lt HR.out j hj).1))
            have HR7 : Hid (Ow sv w7 w.heap.size 9 v7 (k + 1) (wasL bs s U (k + 1))) := by
              rw [HSU.out]; exact ho7
            clear ho7 hg7 HX6 HR HSU
            go_wp2
            go_roundw
            case rel => exact ⟨k + 1, _, by omega, by go_num, rfl, HP.out, HO.out, HX.out, HR7.out, HB.out⟩
            case measure => simp [intOf]; omega
          · obtain rfl : k = U.length := by omega
            have d5 : decide ((U.length : Int) < (U.length : Int)) = false := decide_eq_false (by omega)
            obtain ⟨hsa, hso⟩ := HG.out
            have l0 := HX.out.cell 0
            have l1 := HX.out.cell 1
            have l2 := HX.out.cell 2
            have l3 := HX.out.cell 3
            simp only [List.getElem?_toArray, List.getElem?_cons_zero, List.getElem?_cons_succ] at l0 l1 l2 l3
            have HRG := Lib.hid (offV_rg sa so s)
            have HOF := Lib.hid (off_any kd sa so st s wr hsa hso h4)
            generalize offV sa so (s : Int) = y at *
            clear hsa hso
            go_wp2_with fail
            refine HOF.out.mono ?_
            rintro e w4 ⟨rfl, hb⟩
            replace HP := Lib.hid (HP.out.later hb)
            replace HO := Lib.hid (Ow.later HO.out hb)
            replace HR := Lib.hid (Ow.later HR.out hb)
            replace HX := Lib.hid (HX.out.later hb)
            replace HB := Lib.hid (stepB HB.out hb)
            clear hb HOF l0 l1 l2 l3
            have l0 := HX.out.cell 0
            have l3 := HX.out.cell 3
            simp only [List.getElem?_toArray, List.getElem?_cons_zero, List.getElem?_cons_succ] at l0 l3
            have hwf := wf16 HRG.out.1 HRG.out.2
            have HWF := Lib.hid hwf
            clear hwf
            go_upto_block 2 with (fail)
            go_cut [] (fun wc => Kept wc w.heap.size p b s C bs (decide (kd = 0)) y ∧ Ow uv wc w.heap.size 23 (.slice Au U.length cu) U.length U ∧ Ow sv wc w.heap.size 9 (.slice Ar U.length cr) U.length (wasL bs s U U.length) ∧ Blk wc q #[.int .u8 kd, .int .u16 sa, .int .u16 so, .string st] 47 ∧ Below w.heap.size w wc)
            case first =>
              by_cases e0 : kd = 0
              · have f0 : (kd == 0) = true := by rw [e0]; rfl
                have HE : Hid (decide (kd = 0) = true) := decide_eq_true e0
                clear e0
                go_wp2_with fail
                refine (step_alloc _ p b s m C bs F y w4 HP.out h4).mono ?_
                rintro e w5 ⟨⟨a, r, rfl⟩, hk5, hf⟩
                have K5 := Lib.hid hk5
                replace HO := Lib.hid (ow_fr HO.out HP.out.at_ hf)
                replace HR := Lib.hid (ow_fr9 HR.out HP.out.at_ hf)
                replace HX := Lib.hid (hf.blk HX.out HNE.out.1 HNE.out.2.1)
                replace HB := Lib.hid (hf.below HB.out HB.out.size HNE.out.2.2.1 HNE.out.2.2.2)
                clear hk5 hf
                go_wp2
                go_meet
                exact ⟨by rw [HE.out]; exact K5.out, HO.out, HR.out, HX.out, HB.out⟩
              · have f0 : (kd == 0) = false := by rw [beq_eq_false_iff_ne]; exact e0
                have HE : Hid (decide (kd = 0) = false) := decide_eq_false e0
                clear e0
                by_cases e1 : kd = 1
                · have f1 : (kd == 1) = true := by rw [e1]; rfl
                  clear e1
                  go_wp2_with fail
                  refine (step_free _ p b s m C bs F y w4 HP.out HWF.out).mono ?_
                  rintro e w5 ⟨⟨r, rfl⟩, hk5, hf⟩
                  have K5 := Lib.hid hk5
                  replace HO := Lib.hid (ow_fr HO.out HP.out.at_ hf)
                  replace HR := Lib.hid (ow_fr9 HR.out HP.out.at_ hf)
                  replace HX := Lib.hid (hf.blk HX.out HNE.out.1 HNE.out.2.1)
                  replace HB := Lib.hid (hf.below HB.out HB.out.size HNE.out.2.2.1 HNE.out.2.2.2)
                  clear hk5 hf
                  go_wp2
                  go_meet
                  exact ⟨by rw [HE.out]; exact K5.out, HO.out, HR.out, HX.out, HB.out⟩
                · have f1 : (kd == 1) = false := by rw [beq_eq_false_iff_ne]; exact e1
                  clear e1
                  go_wp2_with fail
                  refine (step_write _ p b s m C bs F y st w4 HP.out HWF.out h4).mono ?_
                  rintro e w5 ⟨⟨r, rfl⟩, hk5, hf⟩
                  have K5 := Lib.hid hk5
                  replace HO := Lib.hid (ow_fr HO.out HP.out.at_ hf)
                  replace HR := Lib.hid (ow_fr9 HR.out HP.out.at_ hf)
                  replace HX := Lib.hid (hf.blk HX.out HNE.out.1 HNE.out.2.1)
                  replace HB := Lib.hid (hf.below HB.out HB.out.size HNE.out.2.2.1 HNE.out.2.2.2)
                  clear hk5 hf
                  go_wp2
                  go_meet
                  exact ⟨by rw [HE.out]; exact K5.out, HO.out, HR.out, HX.out, HB.out⟩
            case rest =>
              obtain ⟨w6, rfl⟩ : ∃ w6 : World, w6 = wc := ⟨_, rfl⟩
              obtain ⟨hk6, ho, hr, hxx, hb⟩ := hcut
              have K6 := Lib.hid hk6
              replace HO := Lib.hid ho
              replace HR := Lib.hid hr
              replace HX := Lib.hid hxx
              replace HB := Lib.hid hb
              clear hk6 ho hr hxx hb HP l0 l3
              go_wp2
              go_loopw [15] (fun i wr => ∃ k : Nat, k ≤ U.length ∧ i = .int .i64 k ∧ Below w6.heap.size w6 wr) (fun i _ => U.length - (intOf i).toNat)
              case atStart => exact ⟨0, Nat.zero_le _, rfl, Below.refl _ _⟩
              case round =>
                obtain ⟨w8, rfl⟩ : ∃ w8 : World, w8 = wr := ⟨_, rfl⟩
                obtain ⟨k, hk, rfl, hb⟩ := hrel
                have H8 := Lib.hid hb
                clear hb
                by_cases hlt : k < U.length
                · have d5 : decide ((k : Int) < (U.length : Int)) = true := decide_eq_true (by omega)
                  have wk1 : IntKind.i64.wrap ((k : Int) + 1) = (k : Int) + 1 := IntWalk.i64_in _ (by omega)
                  obtain ⟨g, o, rfl, hg, hc⟩ := ow_cell (Ow.later HO.out H8.out) hlt
                  have i5 := index54 g o U.length cu k (k : Int) rfl hlt
                  have KC : Hid (∀ W, Below w8.heap.size w8 W → W.cell? ⟨g, o + k, none⟩ = some (.int .u16 (U.getD k 0))) := fun W hb => (hb.cell (p := ⟨g, o + k, none⟩) hg).trans (hc k hlt)
                  obtain ⟨As, cs, es, hsl⟩ := Ow.sl (Ow.later HR.out H8.out)
                  cases es
                  obtain ⟨gs, os, rfl, hgs, hcs⟩ := hsl.rd.2 (by omega)
                  have i6 := index49 gs os U.length cr k (k : Int) rfl hlt
                  have KT : Hid (∀ W, Below w8.heap.size w8 W → W.cell? ⟨gs, os + k, none⟩ = some (.string (rdS bs (U.getD k 0).toNat s))) := fun W hb => (hb.cell (p := ⟨gs, os + k, none⟩) hgs).trans (hcs k _ (was_at hlt (Nat.le_refl _)))
                  have hmem := (HU.out.mem _).1 (getD_mem hlt)
                  obtain ⟨m2, C2, bs2, F2, hp2, hk2⟩ := K6.out
                  have hrg := HRU.out _ hmem
                  have hwu := wf16 hrg.1 (by omega)
                  obtain ⟨t, r, hcall, ht⟩ := read_some w.heap.size p b s m2 C2 bs2 F2 (U.getD k 0) hwu
                  have HCL := Lib.hid (hcall w8 (hp2.later H8.out))
                  have HHK := Lib.hid (hk2 _ hmem)
                  have HHT := Lib.hid ht
                  have HEQ : Hid ((rdS bs (U.getD k 0).toNat s = t) ∨ ((kd == 0) = false ∧ (U.getD k 0 != y) = false)) := by
                    rcases hk2 _ hmem with ⟨h1, h2⟩ | ⟨h1, h2⟩
                    · right
                      refine ⟨?_, by rw [h2]; simp⟩
                      rw [beq_eq_false_iff_ne]; exact of_decide_eq_false h1
                    · left
                      rw [← h2]; exact (ht h1).1.symm
                  have c5 := KC.out w8 (Below.refl _ _)
                  clear hc hg hgs hcs hsl hmem hp2 hk2 hrg hwu hcall ht HHK HHT K6
                  generalize rdS bs (U.getD k 0).toNat s = t0 at *
                  generalize U.getD k 0 = u at *
                  go_wp2_with fail
                  refine HCL.out.mono ?_
                  rintro e w9 ⟨rfl, hb⟩
                  have c6 := KC.out _ hb
                  have c7 := KT.out _ hb
                  have l0 := (HX.out.later (stepB H8.out hb)).cell 0
                  simp only [List.getElem?_toArray, List.getElem?_cons_zero] at l0
                  have H9 := Lib.hid (stepB H8.out hb)
                  clear hb HCL c5
                  rcases HEQ.out with hEQ | hEQ
                  · have b0 : (t.toList != t0.toList) = false := by rw [hEQ]; simp
                    have b3 : (t.toList == t0.toList) = true := by rw [hEQ]; simp
                    clear hEQ
                    go_wp2
                    go_roundw
                    case rel => exact ⟨k + 1, by omega, by go_num, H9.out⟩
                    case measure => simp [intOf]; omega
                  · obtain ⟨b0, b1⟩ := hEQ
                    by_cases hEQ : t.toList = t0.toList
                    · have b2 : (t.toList != t0.toList) = false := by rw [hEQ]; simp
                      have b3 : (t.toList == t0.toList) = true := by rw [hEQ]; simp
                      clear hEQ
                      go_wp2
                      go_roundw
                      case rel => exact ⟨k + 1, by omega, by go_num, H9.out⟩
                      case measure => simp [intOf]; omega
                    · have b2 : (t.toList != t0.toList) = true := by rw [bne_iff_ne]; exact hEQ
                      have b3 : (t.toList == t0.toList) = false := by rw [beq_eq_false_iff_ne]; exact hEQ
                      clear hEQ
                      go_wp2
                      go_roundw
                      case rel => exact ⟨k + 1, by omega, by go_num, H9.out⟩
                      case measure => simp [intOf]; omega
                · obtain rfl : k = U.length := by omega
                  have d5 : decide ((U.length : Int) < (U.length : Int)) = false := decide_eq_false (by omega)
                  go_wp2
                  go_ret
                  exact ⟨rfl, stepB HB.out H8.out⟩


set_option maxRecDepth 100000 in
theorem lifted (os : Os) (started : os.Started) (H : Type) (enc : TypeId × Value → H) :
    ReturnsInHanded {} Try.checked os 5 .any (Rows.pageApartSpec.pre6 enc Try.prog Try.f5 Rows.pageApartRow.domain false) (Rows.pageApartSpec.post enc Try.prog Try.f5 false true false false) := by
  refine returnsInHanded_of_change_sized (C := Try.checked) own started (by kernel_rfl) Try.func5
    (ChangeSpec.witness6 (enc := enc) (C := Try.checked) false ⟨#[], #[.int .i64 0, .slice none 0 0, .agg #[.int .u8 0, .int .u16 0, .int .u16 0, .string ⟨#[]⟩]], []⟩ 8 (by kernel_rfl) (by kernel_rfl) (by kernel_rfl) (by kernel_rfl)) ?_
  intro W base args ds gs before hval0 hW _ hsz _
  have hval : ∀ (j : Nat) t v, Try.f5.params[j]? = some t → args[j]? = some v → Value.okWide Try.prog W .any base t v := hval0
  have hW' := hW
  obtain ⟨p, q, hA0, hV, hbef, _, _⟩ := hW
  have hA : DataW.TrodAll enc Try.prog W 0 (fun _ => true) true Try.f5.params.toList args.toList ds p := hA0
  rw [Try.params5] at hA hval
  obtain ⟨v0, vs0, d0, ds0, p0, q0, hargs, rfl, rfl, h0, r0⟩ := trodAll_cons hA
  obtain ⟨v1, vs1, d1, ds1, p1, q1, rfl, rfl, rfl, h1, r1⟩ := trodAll_cons r0
  obtain ⟨v2, vs2, d2, ds2, p2, q2, rfl, rfl, rfl, h2, r2⟩ := trodAll_cons r1
  obtain ⟨rfl, rfl, rfl⟩ := trodAll_nil r2
  obtain rfl : args = #[v0, v1, v2] := by cases args; simp_all
  obtain ⟨rfl, rfl⟩ := trodVars_none hV
  obtain ⟨a0, rfl, _, _, w0⟩ := open_int Try.underlying3 (hval 0 3 v0 rfl rfl) h0
  obtain ⟨A1, n1, c1, S1, rfl, st1, mx1, _, _⟩ := open_steps (hval 1 40 v1 rfl rfl) h1
  obtain ⟨s2, rfl, h22⟩ := open_stp (hval 2 47 v2 rfl rfl) h2
  refine (walk a0 A1 n1 c1 S1 s2.1 s2.2.1 s2.2.2.1 s2.2.2.2 W st1 mx1 h22.2.2 h22.1 h22.2.1).mono fun e W' ⟨he, hb⟩ => ?_
  subst he
  exact ⟨_, rfl, law_post laidOut (of_decide_eq_true (by kernel_rfl)) rfl Try.underlying4 rfl rfl hW' hb⟩

theorem over : Rows.pageApartRow.holds Try.pinned (OpenSpec.ofChange Rows.pageApartSpec) :=
  OpenClaim.holds_of_wide 5 Try.f5 rfl rfl rfl rfl rfl rfl rfl ⟨rfl, rfl, rfl, rfl, rfl⟩ rfl rfl rfl rfl rfl (by kernel_rfl) Try.func5 (by kernel_rfl)
    (of_decide_eq_true (by kernel_rfl)) (by unfold Func.isWrapper; first | (rw [if_pos (by decide +kernel)]; kernel_rfl) | (rw [if_neg (by decide +kernel)]; exact ⟨rfl, rfl⟩))
    (fun os started H enc _ => lifted os started H enc)

end Go.Proofs.Ytjkohdenmiljpaa.pageApart
namespace Go.Proofs.Ytjkohdenmiljpaa
theorem pageApart_holds : Rows.PageApartSaid := pageApart.over
end Go.Proofs.Ytjkohdenmiljpaa
