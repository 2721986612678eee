/-
Used is how many handles name something; pages are no more than the most that ever were used together ask for; a slot that is given is of the first page that has room. For any length of a slot, any steps.
-/
import Derived.Test.YtbnbhhmgfogjeaaGY
import Derived.Test.YtbnbhhmgfogjeaaLF
import Derived.Test.YtbnbhhmgfogjeaaRows
namespace Go.Proofs.Ytbnbhhmgfogjeaa.arenaMany
open Go.ChangeShapes Go.WideShapes Go.ChangeAt Go.RowKit Go.Maps
set_option linter.unusedVariables false
set_option linter.unusedSimpArgs false

theorem own : ownKnob Try.prog.godebug = none := by kernel_rfl
theorem laidOut : laidOutB Try.prog = true := by kernel_rfl

abbrev SB (w0 W : World) : Prop := Below w0.heap.size w0 W
set_option maxRecDepth 100000 in
set_option maxHeartbeats 8000000 in
theorem walk (x : Int) (A : Option Addr) (n c : Nat) (S : List Stp) (w : World) (hS : Steps w.heap.size w A n S) (hn : n ≤ maxLen) : Calls Try.prog 7 #[.int .i64 x, .slice A n c] w (fun e w' => e = .returned (.bool true) ∧ Below w.heap.size w w') := by
  have HS := Lib.hid hS
  have HN := Lib.hid hn
  clear hS hn
  go_enter Try.func7, Try.ntmps7
  go_wp2_with fail
  refine (works_any w).mono ?_
  rintro e w1 ⟨rfl, hb⟩
  have HB1 := Lib.hid hb
  have HS1 := Lib.hid ((HS.out.below hb).mono hb.size)
  clear hb
  go_wp2_with fail
  refine (large_any A n c S w1 HS1.out HN.out).mono ?_
  rintro e w2 ⟨r, rfl, rfl, hr⟩
  have HR := Lib.hid hr
  clear hr
  cases r with
  | true =>
    go_wp2_with fail
    refine (works_any _).mono ?_
    rintro e w2 ⟨rfl, hb⟩
    have HB2 := Lib.hid (stepB HB1.out hb)
    clear hb
    go_wp2
    go_ret
    exact ⟨rfl, HB2.out⟩
  | false =>
    have hn2 : n ≤ 200 := HR.out rfl
    clear HR
    by_cases hx : x < 2 ∨ 4096 < x
    · have HX := Lib.hid hx
      clear hx
      go_wp2_with fail
      refine (arnew_no x w1 HX.out).mono ?_
      rintro e w3 ⟨rfl, rfl⟩
      go_wp2
      go_ret
      exact ⟨rfl, HB1.out⟩
    · obtain ⟨s, rfl⟩ : ∃ s : Nat, x = (s : Int) := ⟨x.toNat, by omega⟩
      have h2 : 2 ≤ s := by omega
      have h4 : s ≤ 4096 := by omega
      clear hx
      go_wp2_with fail
      refine (arnew_any s w1 h2 h4).mono ?_
      rintro e w3 ⟨a, S0, rfl, hA, hb⟩
      have HA3 := Lib.hid (hA.base HB1.out.size)
      have HB3 := Lib.hid (stepB HB1.out hb)
      have HS3 : Hid (∀ W, Below w.heap.size w W → Steps w.heap.size W A n S) := fun W hb => HS.out.below hb
      clear hA hb HS1
      have hqs := quo_s h2
      have hz1 : ¬ (s = 0) := by omega
      have hz2 : (s == 0) = false := by rw [beq_eq_false_iff_ne]; omega
      have hz3 : ((s : Int) == 0) = false := by rw [beq_eq_false_iff_ne]; omega
      have hr1 : 1 ≤ 4096 / s := (Nat.le_div_iff_mul_le (by omega)).2 (by omega)
      have hr2 : 4096 / s ≤ 4096 := Nat.div_le_self _ _
      obtain ⟨r, hr⟩ : ∃ r, 4096 / s = r := ⟨_, rfl⟩
      rw [hr] at hqs hr1 hr2
      have HRE := Lib.hid hr
      have hq1 := hqs.1
      have hq2 := hqs.2
      have hr3 : ¬ (r = 0) := by omega
      have hr4 : ((r : Int) == 0) = false := by rw [beq_eq_false_iff_ne]; omega
      have hr5 : (r == 0) = false := by rw [beq_eq_false_iff_ne]; omega
      clear hqs hr
      go_wp2
      go_loopw [8, 9, 10] (fun v8 v9 i wr => ∃ (k : Nat) (st : AS) (S1 : Nat → Prop) (U : List Int) (mo : Nat) (vU : Value), k ≤ n ∧ i = .int .i64 k ∧ vU = v8 ∧ v9 = .int .i64 mo ∧ mo ≤ k ∧ AR wr w.heap.size a s st S1 ∧ TI st U k ∧ MI s st U mo ∧ U.length ≤ k ∧ Ow hv wr w.heap.size 24 vU U.length U ∧ Below w.heap.size w wr) (fun _ _ i _ => n - (intOf i).toNat)
      case atStart => exact ⟨0, _, S0, [], 0, _, Nat.zero_le _, rfl, rfl, rfl, Nat.le_refl _, HA3.out, TI.nil, MI.new _, Nat.le_refl _, Ow.none _ _ _, HB3.out⟩
      case round =>
        obtain ⟨k, st, S1, U, mo, vU, hk, rfl, rfl, rfl, hmo, hA, hT, hM, hul, ho, hb⟩ := hrel
        obtain ⟨w4, rfl⟩ : ∃ w4 : World, w4 = wr := ⟨_, rfl⟩
        have HA := Lib.hid hA
        have HT := Lib.hid hT
        have HM := Lib.hid hM
        have HO := Lib.hid ho
        have HB := Lib.hid hb
        have HUL := Lib.hid hul
        have HMO := Lib.hid hmo
        clear hA hT hM ho hb hul hmo HA3 HB3
        by_cases hlt : k < n
        · have d1 : decide ((k : Int) < (n : Int)) = true := decide_eq_true (by omega)
          have wk : IntKind.i64.wrap ((k : Int) + 1) = (k : Int) + 1 := IntWalk.i64_in _ (by omega)
          obtain ⟨g, off, rfl, hg, hcell⟩ := (HS3.out _ HB.out).2 (by omega)
          have i1 := sindex g off n c k (k : Int) rfl hlt
          obtain ⟨hc, hok⟩ := hcell k hlt
          obtain ⟨t, hx⟩ : ∃ t, S.getD k stp0 = t := ⟨_, rfl⟩
          rw [hx] at hc hok
          obtain ⟨x0, x1, x2, x3⟩ := hc
          have HST := Lib.hid (HT.out.step (s := s) (t := t) (by have := HUL.out; omega) HA.out.pure h2 h4 hok)
          have HMS := Lib.hid (HM.out.step (t := t) HT.out (by have := HUL.out; omega) HA.out.pure h2 h4 hok)
          have HDO := Lib.hid (sdo_any w.heap.size a s st S1 w4 HA.out t U w.heap.size vU hok HO.out (by have := HUL.out; omega) (fun x hx => (HT.out.told x hx).1) h2 h4 (by have := HT.out.glen; omega))
          obtain ⟨kd, m, rw_, tx⟩ := t
          simp only at x0 x1 x2 x3 HDO
          obtain ⟨st', hst'⟩ : ∃ z, (doS s (kd, m, rw_, tx) U st).1 = z := ⟨_, rfl⟩
          obtain ⟨xn, hxn⟩ : ∃ z, (doS s (kd, m, rw_, tx) U st).2.1 = z := ⟨_, rfl⟩
          obtain ⟨is, his⟩ : ∃ z, (doS s (kd, m, rw_, tx) U st).2.2 = z := ⟨_, rfl⟩
          rw [hst', hxn, his] at HST HMS HDO
          clear hcell hx hok hg hst' hxn his
          go_wp2_with fail
          refine HDO.out.mono ?_
          rintro e w5 ⟨rfl, S2, hA2, hS2, hf⟩
          have HA5 := Lib.hid hA2
          have HO5 := Lib.hid (HA.out.ow hf HO.out ⟨by decide, by decide, by decide⟩)
          have HB5 := Lib.hid (HA.out.frBelow hf HB.out (Nat.le_refl _) HB.out.size)
          have HMW := Lib.hid (many_step HM.out HMS.out HST.out (by have := HUL.out; omega) hA2.pure h2 h4)
          have HPL4 := Lib.hid hA2.pure.2.2.2
          clear hA2 hS2 hf HDO x0 x1 x2 x3 i1 HA HO HB
          have HPG := Lib.hid (arpages_any w.heap.size a s st' S2 w5 HA5.out)
          obtain ⟨pl, hpl⟩ : ∃ pl, st'.2.1.length = pl := ⟨_, rfl⟩
          rw [hpl] at HPG HPL4
          have HPL := Lib.hid hpl
          have hpl4 : pl ≤ 4096 := HPL4.out
          obtain ⟨cz, hcz⟩ : ∃ cz, madeCells #[.int .i64 0] pl = cz := ⟨_, rfl⟩
          have hmk : ∀ W : World, (Instr.makeSlice 36 (.int .i64 (pl : Int)) (.int .i64 (pl : Int))).run Try.prog W = .ok (.slice (some ⟨W.heap.size, 0, none⟩) pl pl) (W.alloc (.cells cz 3)) := fun W => by rw [← hcz]; exact mk36 pl (by omega) W
          have HX6 : Hid (Ow kv (w5.alloc (.cells cz 3)) w.heap.size 3 (.slice (some ⟨w5.heap.size, 0, none⟩) pl pl) pl (List.replicate pl 0)) := Lib.hid (by rw [← hcz]; exact of_row w5 _ pl HB5.out.size (by omega))
          have hbx : Below w5.heap.size w5 (w5.alloc (.cells cz 3)) := (Below.refl _ _).alloc (Nat.le_refl _) _
          have HA6 := Lib.hid (HA5.out.later hbx)
          have HO6 := Lib.hid (Ow.later HO5.out hbx)
          have HB6 := Lib.hid (stepB HB5.out hbx)
          clear hpl hcz hbx HA5 HO5 HB5
          obtain ⟨AV, cV, hv1, _⟩ := Ow.sl HO6.out
          subst hv1
          go_wp2_with fail
          refine HPG.out.mono ?_
          rintro e wz ⟨rfl, rfl⟩
          clear HPG
          go_wp2
          clear hmk
          go_loopw [14, 15] (fun v14 v15 wr => ∃ (j : Nat) (X : List Int), j ≤ U.length ∧ v15 = .int .i64 j ∧ v14 = .int .i64 (cntA st' (U.take j) : Nat) ∧ AR wr w.heap.size a s st' S2 ∧ Ow hv wr w.heap.size 24 (.slice AV U.length cV) U.length U ∧ Ow kv wr w.heap.size 3 (.slice (some ⟨w5.heap.size, 0, none⟩) pl pl) pl X ∧ X.length = pl ∧ (∀ p, p < pl → X.getD p 0 = ((cntP st' (U.take j) p : Nat) : Int)) ∧ Below w.heap.size w wr) (fun _ i _ => U.length - (intOf i).toNat)
          case atStart => exact ⟨0, _, Nat.zero_le _, rfl, rfl, HA6.out, HO6.out, HX6.out, List.length_replicate .., (fun p hp => by rw [List.getD_eq_getElem?_getD, List.getElem?_replicate, if_pos hp]; rfl), HB6.out⟩
          case round =>
            obtain ⟨j, X, hj, rfl, rfl, hA, ho, hX, hXl, hXc, hb⟩ := hrel
            obtain ⟨w7, rfl⟩ : ∃ w7 : World, w7 = wr := ⟨_, rfl⟩
            have HA7 := Lib.hid hA
            have HO7 := Lib.hid ho
            have HX7 := Lib.hid hX
            have HXL := Lib.hid hXl
            have HXC := Lib.hid hXc
            have HB7 := Lib.hid hb
            clear hA ho hX hXl hXc hb HA6 HO6 HX6 HB6
            by_cases hjl : j < U.length
            · have d2 : decide ((j : Int) < (U.length : Int)) = true := decide_eq_true (by omega)
              have wj : IntKind.i64.wrap ((j : Int) + 1) = (j : Int) + 1 := IntWalk.i64_in _ (by have := HUL.out; omega)
              obtain ⟨gu, cu, hvu, hgu, hcu, hfu⟩ := ow_at HO7.out (getU hjl)
              cases hvu
              clear hgu hcu hfu
              have KU : Hid (∀ W, (Ow hv W w.heap.size 24 (.slice (some ⟨gu, 0, none⟩) U.length cV) U.length U) → W.cell? ⟨gu, j, none⟩ = some (.int .u64 (U.getD j 0))) := fun W hW => by
                obtain ⟨_, _, e, _, h, _⟩ := ow_at hW (getU hjl)
                cases e; exact h
              have i6 := idx48 gu U.length cV j (j : Int) rfl hjl
              have HXR := Lib.hid (HT.out.told _ (getD_memU hjl)).1
              have HCT := Lib.hid (named_take (st := st') hjl)
              have HCL := Lib.hid (fun p => named_le (st := st') (U := U) (j := j) (p := p))
              obtain ⟨y, hy⟩ : ∃ y, U.getD j 0 = y := ⟨_, rfl⟩
              rw [hy] at KU HXR HCT
              have HIS := Lib.hid (aris_any w.heap.size a s st' S2 w7 HA7.out y HXR.out.1 HXR.out.2)
              obtain ⟨nm, hnm⟩ : ∃ nm, isA st' y = nm := ⟨_, rfl⟩
              rw [hnm] at HIS HCT
              have HNM := Lib.hid hnm
              have HCA : Hid (cntA st' (U.take j) ≤ U.length) := (HCL.out 0).1
              obtain ⟨ca, hca⟩ : ∃ ca, cntA st' (U.take j) = ca := ⟨_, rfl⟩
              rw [hca] at HCT HCA
              rw [hca]
              have wca : IntKind.i64.wrap ((ca : Int) + 1) = (ca : Int) + 1 := IntWalk.i64_in _ (by have := HCA.out; have := HUL.out; omega)
              clear hnm hy hca
              have k1 := KU.out _ HO7.out
              go_wp2_with fail
              refine HIS.out.mono ?_
              rintro e w8 ⟨rfl, hb⟩
              have HA8 := Lib.hid (HA7.out.later hb)
              have HO8 := Lib.hid (Ow.later HO7.out hb)
              have HX8 := Lib.hid (Ow.later HX7.out hb)
              have HB8 := Lib.hid (stepB HB7.out hb)
              clear hb k1 HIS HA7 HO7 HX7 HB7
              cases nm with
              | false =>
                go_wp2
                go_roundw
                case rel => exact ⟨j + 1, X, by omega, by go_num, by rw [HCT.out.1]; rfl, HA8.out, HO8.out, HX8.out, HXL.out, (fun p hp => by rw [HCT.out.2 p]; exact HXC.out p hp), HB8.out⟩
                case measure => simp [intOf]; omega
              | true =>
                have k1 := KU.out _ HO8.out
                have hip := is_parts HNM.out
                have hpy : hP y < pl := by have := hip.1; have := HPL.out; omega
                have HPT := Lib.hid (parts_is w8 HXR.out.1 HXR.out.2)
                have hpx : hP y < X.length := by rw [HXL.out]; exact hpy
                obtain ⟨gx_, cx_, hvx, hgx, hcx, hfx⟩ := ow_at HX8.out (getU hpx)
                cases hvx
                clear hgx
                have hxc := HXC.out _ hpy
                have HCB : Hid (cntP st' (U.take j) (hP y) ≤ U.length) := (HCL.out (hP y)).2
                rw [hxc] at hcx
                have hst := ow_store HX8.out (hP y) (((cntP st' (U.take j) (hP y) : Nat) : Int) + 1)
                have HPC := Lib.hid HCT.out.2
                obtain ⟨py, hpy2⟩ : ∃ py, hP y = py := ⟨_, rfl⟩
                rw [hpy2] at hpy HPT hcx hfx hst HCB HPC hpx
                obtain ⟨cp, hcp⟩ : ∃ cp, cntP st' (U.take j) py = cp := ⟨_, rfl⟩
                rw [hcp] at hcx hst HCB
                have HCP := Lib.hid hcp
                have hcx' : w8.cell? ⟨w5.heap.size, py, none⟩ = some (.int .i64 (cp : Int)) := hcx
                have wcp : IntKind.i64.wrap ((cp : Int) + 1) = (cp : Int) + 1 := IntWalk.i64_in _ (by have := HCB.out; have := HUL.out; omega)
                have wpy : IntKind.i64.wrap (py : Int) = (py : Int) := IntWalk.i64_in _ (by omega)
                have d5 : decide ((pl : Int) ≤ (py : Int)) = false := decide_eq_false (by omega)
                have d5' : decide (pl ≤ py) = false := decide_eq_false (by omega)
                have i7 := idx36u w5.heap.size pl pl py (py : Int) rfl hpy
                have HAX := Lib.hid (HA8.out.grown HX8.out ⟨by decide, by decide, by decide⟩ (show World.grownBy _ _ (Value.ownBlock (.slice (some ⟨w5.heap.size, 0, none⟩) pl pl)) from hst.2))
                have HOX := Lib.hid (ow_grown_tag HO8.out HX8.out (show (24 : TypeId) ≠ 3 by decide) (show World.grownBy _ _ (Value.ownBlock (.slice (some ⟨w5.heap.size, 0, none⟩) pl pl)) from hst.2))
                have HBX := Lib.hid (ow_below HX8.out HB8.out HB8.out.size (show World.grownBy _ _ (Value.ownBlock (.slice (some ⟨w5.heap.size, 0, none⟩) pl pl)) from hst.2))
                have HXX := Lib.hid hst.1
                clear hst hip hxc hpy2 hcp hcx
                go_wp2_with fail
                refine HPT.out.mono ?_
                rintro e wz ⟨rfl, rfl⟩
                go_wp2
                go_roundw
                case rel =>
                  refine ⟨j + 1, X.set py ((cp : Int) + 1), by omega, by go_num, by rw [HCT.out.1]; go_num, HAX.out, HOX.out, HXX.out, by rw [List.length_set]; exact HXL.out, fun p hp => ?_, HBX.out⟩
                  rw [List.getD_eq_getElem?_getD, List.getElem?_set]
                  by_cases ep : py = p
                  · subst ep
                    rw [if_pos rfl, if_pos hpx, HPC.out, HCP.out, decide_eq_true rfl]
                    rfl
                  · rw [if_neg ep, HPC.out, decide_eq_false ep, ← List.getD_eq_getElem?_getD, HXC.out p hp]
                    rfl
                case measure => simp [intOf]; omega
            · obtain rfl : j = U.length := by omega
              have d2 : decide ((U.length : Int) < (U.length : Int)) = false := decide_eq_false (by omega)
              have HUT : Hid (U.take U.length = U) := Lib.hid (List.take_length ..)
              rw [HUT.out] at HXC
              rw [HUT.out]
              have HUS := Lib.hid HMW.out.used
              have HCA : Hid (cntA st' U ≤ U.length) := cntA_le
              obtain ⟨U2, hU2⟩ : ∃ U2, (if is then U ++ [xn] else U) = U2 := ⟨_, rfl⟩
              have HMI := Lib.hid HMW.out.mi
              rw [hU2] at HMI
              have HTI : Hid (TI st' U2 (k + 1)) := by have := HST.out.ti; rw [hU2] at this; exact this
              have HU2 := Lib.hid hU2
              have HUL2 : Hid (U2.length ≤ k + 1) := by
                have := HUL.out
                show _ ≤ _
                rw [← hU2]
                cases is <;> simp <;> omega
              obtain ⟨ca, hca⟩ : ∃ ca, cntA st' U = ca := ⟨_, rfl⟩
              rw [hca] at HUS HCA
              rw [hca]
              obtain ⟨us, hus⟩ : ∃ us, usA st' = us := ⟨_, rfl⟩
              rw [hus] at HUS HMI
              have HUSE := Lib.hid hus
              have HUSL : Hid (us ≤ k + 1) := by have h1 := HUS.out; have h2 := HCA.out; have h3 := HUL.out; have : is.toNat ≤ 1 := by cases is <;> decide
                                                 show _ ≤ _; omega
              clear hU2 hca hus
              go_upto_if 92 with (fail)
              go_cut [8, 14] (fun s8 s14 wx => ∃ vU2 : Value, vU2 = s8 ∧ s14 = .int .i64 (us : Nat) ∧ AR wx w.heap.size a s st' S2 ∧ Ow hv wx w.heap.size 24 vU2 U2.length U2 ∧ Below w.heap.size w wx)
              case first =>
                cases is with
                | false =>
                  have HUE : Hid (U2 = U) := Lib.hid (by have := HU2.out; simpa using this.symm)
                  have HCE : Hid (ca = us) := Lib.hid (by have := HUS.out; simpa using this)
                  go_wp2
                  go_meet
                  exact ⟨_, rfl, by rw [HCE.out], HA7.out, by rw [HUE.out]; exact HO7.out, HB7.out⟩
                | true =>
                  have HUE : Hid (U2 = U ++ [xn]) := Lib.hid (by have := HU2.out; simpa using this.symm)
                  have HCE : Hid (ca + 1 = us) := Lib.hid (by have := HUS.out; simpa using this)
                  have HNW := Lib.hid (HST.out.new rfl)
                  have HEA := Lib.hid (HMW.out.each rfl)
                  have HOF := Lib.hid (HMW.out.off rfl)
                  have HPT := Lib.hid (parts_is w7 HNW.out.1.1 HNW.out.1.2)
                  obtain ⟨px, hpx⟩ : ∃ px, hP xn = px := ⟨_, rfl⟩
                  obtain ⟨ox, hox⟩ : ∃ ox, (hO xn).toNat = ox := ⟨_, rfl⟩
                  rw [hox] at HOF
                  rw [hpx] at HPT HEA HOF
                  rw [← HOF.out.2.2.2] at HPT
                  obtain ⟨o1, o2, o3, o4⟩ := HOF.out
                  rw [HPL.out] at o1
                  have o5 : Int.tmod (ox : Int) (s : Int) = 0 := by
                    rw [Int.tmod_eq_emod_of_nonneg (by omega), ← Int.natCast_emod, o2]; rfl
                  have wpx : IntKind.i64.wrap (px : Int) = (px : Int) := IntWalk.i64_in _ (by omega)
                  have wox : IntKind.i64.wrap (ox : Int) = (ox : Int) := IntWalk.i64_in _ (by omega)
                  have wos : IntKind.i64.wrap ((ox : Int) + (s : Int)) = (ox : Int) + (s : Int) := IntWalk.i64_in _ (by omega)
                  have w0 : IntKind.i64.wrap (0 : Int) = 0 := by decide
                  have d5 : decide ((pl : Int) ≤ (px : Int)) = false := decide_eq_false (by omega)
                  have d5' : decide (pl ≤ px) = false := decide_eq_false (by omega)
                  have d6 : decide ((4096 : Int) < (ox : Int) + (s : Int)) = false := decide_eq_false (by omega)
                  have wca : IntKind.i64.wrap ((ca : Int) + 1) = (ca : Int) + 1 := IntWalk.i64_in _ (by have := HCA.out; have := HUL.out; omega)
                  clear hpx hox o2 o4
                  go_wp2_with fail
                  refine HPT.out.mono ?_
                  rintro e wz ⟨rfl, rfl⟩
                  go_wp2
                  go_loop [22] (fun i => ∃ q : Nat, q ≤ px ∧ i = .int .i64 q) (fun i => px - (intOf i).toNat)
                  case atStart => exact ⟨0, Nat.zero_le _, rfl⟩
                  case round =>
                    obtain ⟨q, hq, rfl⟩ := hrel
                    by_cases hql : q < px
                    · have d7 : decide ((q : Int) < (px : Int)) = true := decide_eq_true (by omega)
                      have wq : IntKind.i64.wrap ((q : Int) + 1) = (q : Int) + 1 := IntWalk.i64_in _ (by omega)
                      have hqx : q < X.length := by rw [HXL.out]; omega
                      obtain ⟨gx_, cx_, hvx, hgx, hcx, hfx⟩ := ow_at HX7.out (getU hqx)
                      cases hvx
                      clear hgx hfx
                      rw [HXC.out q (by omega), HEA.out q hql, HRE.out] at hcx
                      have hcx' : w7.cell? ⟨w5.heap.size, q, none⟩ = some (.int .i64 (r : Int)) := hcx
                      have i7 := idx36 w5.heap.size pl pl q (q : Int) rfl (by omega)
                      clear hcx
                      go_wp2
                      go_round
                      case rel => exact ⟨q + 1, by omega, by go_num⟩
                      case measure => simp [intOf]; omega
                    · obtain rfl : q = px := by omega
                      have d7 : decide ((q : Int) < (q : Int)) = false := decide_eq_false (by omega)
                      have hbx : Below w7.heap.size w7 (w7.alloc (.cells #[.int .u64 xn] 24)) := (Below.refl _ _).alloc (Nat.le_refl _) _
                      have HY8 : Hid (Sl hv (w7.alloc (.cells #[.int .u64 xn] 24)) (some ⟨w7.heap.size, 0, none⟩) 1 1 [xn]) := Blk.sl (enc := hv) (xs := [xn]) (Blk.new w7 #[.int .u64 xn] 24)
                      have HA8 := Lib.hid (HA7.out.later hbx)
                      have HO8 := Lib.hid (Ow.later HO7.out hbx)
                      have HB8 := Lib.hid (stepB HB7.out hbx)
                      clear hbx
                      go_wp2_with (first
                        | (at_builtin; refine wpList_append_sl elemH rfl (.tmp 132) (.tmp 134) rfl w.heap.size (.slice AV U.length cV) U.length U rfl HO8.out (some ⟨w7.heap.size, 0, none⟩) 1 1 [xn] rfl HY8.out (by have := HUL.out; omega) (by decide) HB8.out.size ?_; intro vn9 w9 ho9)
                        | fail)
                      intro hg9
                      have HA9 := Lib.hid (HA8.out.grown HO8.out ⟨by decide, by decide, by decide⟩ hg9)
                      have HB9 := Lib.hid (ow_below HO8.out HB8.out HB8.out.size hg9)
                      have HO9 := Lib.hid ho9
                      clear ho9 hg9 HY8 HA8 HO8 HB8
                      go_wp2
                      go_meet
                      exact ⟨vn9, rfl, by rw [← HCE.out]; go_num, HA9.out, by rw [HUE.out, List.length_append]; exact HO9.out, HB9.out⟩
              case rest =>
                obtain ⟨vU2, rfl, rfl, hA, ho, hb⟩ := hcut
                obtain ⟨w8, rfl⟩ : ∃ w8 : World, w8 = wc := ⟨_, rfl⟩
                have HA8 := Lib.hid hA
                have HO8 := Lib.hid ho
                have HB8 := Lib.hid hb
                have HPGS := Lib.hid (pages_le HMI.out h4 h2)
                rw [HPL.out, HRE.out] at HPGS
                have HML : Hid (max mo us ≤ k + 1) := Lib.hid (by have := HMO.out; have := HUSL.out; omega)
                rcases Nat.lt_or_ge mo us with hc | hc
                · have hc1 : (mo : Int) < (us : Int) := by omega
                  have hm2 : max mo us = us := by omega
                  rw [hm2] at HPGS HMI HML
                  clear hA ho hb HA7 HO7 HX7 HB7 hm2
                  go_upto_region 36 with (fail)
                  have KU : Hid (∀ W, SB w8 W → Calls Try.prog 16 #[.pointer (some ⟨a, 0, none⟩)] W fun e w' => e = .returned (.int .i64 (us : Nat)) ∧ W = w') := fun W hW => by
                    have := arused_any w.heap.size a s st' S2 W (HA8.out.later hW)
                    rw [HUSE.out] at this; exact this
                  have KP : Hid (∀ W, SB w8 W → Calls Try.prog 17 #[.pointer (some ⟨a, 0, none⟩)] W fun e w' => e = .returned (.int .i64 (pl : Nat)) ∧ W = w') := fun W hW => by
                    have := arpages_any w.heap.size a s st' S2 W (HA8.out.later hW)
                    rw [HPL.out] at this; exact this
                  have K0 : Hid (SB w8 w8) := Below.refl _ _
                  have usb : us ≤ 201 := by have := HML.out; omega
                  have wm1 : IntKind.i64.wrap ((us : Int) + (r : Int)) = (us : Int) + (r : Int) := IntWalk.i64_in _ (by omega)
                  have wm2 : IntKind.i64.wrap ((us : Int) + (r : Int) - 1) = (us : Int) + (r : Int) - 1 := IntWalk.i64_in _ (by omega)
                  obtain ⟨qq, hqq⟩ : ∃ qq, (us + r - 1) / r = qq := ⟨_, rfl⟩
                  have hqt : Int.tdiv ((us : Int) + (r : Int) - 1) (r : Int) = (qq : Int) := by
                    rw [Int.tdiv_eq_ediv_of_nonneg (by omega), ← hqq, show (us : Int) + (r : Int) - 1 = ((us + r - 1 : Nat) : Int) by omega, Int.natCast_ediv]
                  have hqb : qq ≤ us + r := by rw [← hqq]; exact Nat.le_trans (Nat.div_le_self _ _) (by omega)
                  have wqq : IntKind.i64.wrap (qq : Int) = (qq : Int) := IntWalk.i64_in _ (by omega)
                  have dq : decide ((qq : Int) < (pl : Int)) = false := decide_eq_false (by have := HPGS.out; omega)
                  have dq' : decide (qq < pl) = false := decide_eq_false (by have := HPGS.out; omega)
                  clear hqq
                  go_region_held3 (SB w8) (first | assumption | exact K0.out | exact stepB (by assumption) (by assumption) | exact stepB (by assumption) (below_drewN (Below.refl _ _) _)) (first
                    | (go_at_call 16; refine (KU.out _ (by assumption)).mono ?_; rintro e w9 ⟨rfl, rfl⟩)
                    | (go_at_call 17; refine (KP.out _ (by assumption)).mono ?_; rintro e w9 ⟨rfl, rfl⟩))
                  all_goals (
                    rename SB _ _ => hS
                    have HZ := Lib.hid hS
                    clear hS wm1 wm2 hqt hqb wqq dq dq'
                    go_wp2
                    go_roundw
                    case rel => exact ⟨k + 1, st', S2, U2, us, _, by omega, by go_num, rfl, rfl, HML.out, HA8.out.later HZ.out, HTI.out, HMI.out, HUL2.out, Ow.later HO8.out HZ.out, stepB HB8.out HZ.out⟩
                    case measure => simp [intOf]; omega)
                · have hc1 : ¬ (mo : Int) < (us : Int) := by omega
                  have hc2 : ¬ mo < us := by omega
                  have hm2 : max mo us = mo := by omega
                  rw [hm2] at HPGS HMI HML
                  clear hA ho hb HA7 HO7 HX7 HB7 hm2
                  go_upto_region 36 with (fail)
                  have KU : Hid (∀ W, SB w8 W → Calls Try.prog 16 #[.pointer (some ⟨a, 0, none⟩)] W fun e w' => e = .returned (.int .i64 (us : Nat)) ∧ W = w') := fun W hW => by
                    have := arused_any w.heap.size a s st' S2 W (HA8.out.later hW)
                    rw [HUSE.out] at this; exact this
                  have KP : Hid (∀ W, SB w8 W → Calls Try.prog 17 #[.pointer (some ⟨a, 0, none⟩)] W fun e w' => e = .returned (.int .i64 (pl : Nat)) ∧ W = w') := fun W hW => by
                    have := arpages_any w.heap.size a s st' S2 W (HA8.out.later hW)
                    rw [HPL.out] at this; exact this
                  have K0 : Hid (SB w8 w8) := Below.refl _ _
                  have mob : mo ≤ 201 := by have := HML.out; omega
                  have wm1 : IntKind.i64.wrap ((mo : Int) + (r : Int)) = (mo : Int) + (r : Int) := IntWalk.i64_in _ (by omega)
                  have wm2 : IntKind.i64.wrap ((mo : Int) + (r : Int) - 1) = (mo : Int) + (r : Int) - 1 := IntWalk.i64_in _ (by omega)
                  obtain ⟨qq, hqq⟩ : ∃ qq, (mo + r - 1) / r = qq := ⟨_, rfl⟩
                  have hqt : Int.tdiv ((mo : Int) + (r : Int) - 1) (r : Int) = (qq : Int) := by
                    rw [Int.tdiv_eq_ediv_of_nonneg (by omega), ← hqq, show (mo : Int) + (r : Int) - 1 = ((mo + r - 1 : Nat) : Int) by omega, Int.natCast_ediv]
                  have hqb : qq ≤ mo + r := by rw [← hqq]; exact Nat.le_trans (Nat.div_le_self _ _) (by omega)
                  have wqq : IntKind.i64.wrap (qq : Int) = (qq : Int) := IntWalk.i64_in _ (by omega)
                  have dq : decide ((qq : Int) < (pl : Int)) = false := decide_eq_false (by have := HPGS.out; omega)
                  have dq' : decide (qq < pl) = false := decide_eq_false (by have := HPGS.out; omega)
                  clear hqq
                  go_region_held3 (SB w8) (first | assumption | exact K0.out | exact stepB (by assumption) (by assumption) | exact stepB (by assumption) (below_drewN (Below.refl _ _) _)) (first
                    | (go_at_call 16; refine (KU.out _ (by assumption)).mono ?_; rintro e w9 ⟨rfl, rfl⟩)
                    | (go_at_call 17; refine (KP.out _ (by assumption)).mono ?_; rintro e w9 ⟨rfl, rfl⟩))
                  all_goals (
                    rename SB _ _ => hS
                    have HZ := Lib.hid hS
                    clear hS wm1 wm2 hqt hqb wqq dq dq'
                    go_wp2
                    go_roundw
                    case rel => exact ⟨k + 1, st', S2, U2, mo, _, by omega, by go_num, rfl, rfl, HML.out, HA8.out.later HZ.out, HTI.out, HMI.out, HUL2.out, Ow.later HO8.out HZ.out, stepB HB8.out HZ.out⟩
                    case measure => simp [intOf]; omega)
        · obtain rfl : k = n := by omega
          have d1 : decide ((k : Int) < (k : Int)) = false := decide_eq_false (by omega)
          go_wp2
          go_ret
          exact ⟨rfl, HB.out⟩


set_option maxRecDepth 100000 in
theorem lifted (os : Os) (started : os.Started) (H : Type) (enc : TypeId × Value → H) :
    ReturnsInHanded {} Try.checked os 7 .any (Rows.arenaManySpec.pre6 enc Try.prog Try.f7 Rows.arenaManyRow.domain false) (Rows.arenaManySpec.post enc Try.prog Try.f7 false true false false) := by
  refine returnsInHanded_of_change_sized (C := Try.checked) own started (by kernel_rfl) Try.func7
    (ChangeSpec.witness6 (enc := enc) (C := Try.checked) false ⟨#[], #[.int .i64 0, .slice none 0 0], []⟩ 8 (by kernel_rfl) (by kernel_rfl) (by kernel_rfl) (by kernel_rfl)) ?_
  intro W base args ds gs before hval0 hW _ hsz _
  have hval : ∀ (j : Nat) t v, Try.f7.params[j]? = some t → args[j]? = some v → Value.okWide Try.prog W .any base t v := hval0
  have hW' := hW
  obtain ⟨p, q, hA0, hV, hbef, _, _⟩ := hW
  have hA : DataW.TrodAll enc Try.prog W 0 (fun _ => true) true Try.f7.params.toList args.toList ds p := hA0
  rw [Try.params7] at hA hval
  obtain ⟨v0, vs0, d0, ds0, p0, q0, hargs, rfl, rfl, h0, r0⟩ := trodAll_cons hA
  obtain ⟨v1, vs1, d1, ds1, p1, q1, rfl, rfl, rfl, h1, r1⟩ := trodAll_cons r0
  obtain ⟨rfl, rfl, rfl⟩ := trodAll_nil r1
  obtain rfl : args = #[v0, v1] := by cases args; simp_all
  obtain ⟨rfl, rfl⟩ := trodVars_none hV
  obtain ⟨a0, rfl, _, _, w0⟩ := open_int Try.underlying3 (hval 0 3 v0 rfl rfl) h0
  obtain ⟨A1, n1, c1, S1, rfl, st1, mx1, _, _⟩ := open_steps (hval 1 43 v1 rfl rfl) h1
  refine (walk a0 A1 n1 c1 S1 W st1 mx1).mono fun e W' ⟨he, hb⟩ => ?_
  subst he
  exact ⟨_, rfl, law_post laidOut (of_decide_eq_true (by kernel_rfl)) rfl Try.underlying4 rfl rfl hW' hb⟩

theorem over : Rows.arenaManyRow.holds Try.pinned (OpenSpec.ofChange Rows.arenaManySpec) :=
  OpenClaim.holds_of_wide 7 Try.f7 rfl rfl rfl rfl rfl rfl rfl ⟨rfl, rfl, rfl, rfl, rfl⟩ rfl rfl rfl rfl rfl (by kernel_rfl) Try.func7 (by kernel_rfl)
    (of_decide_eq_true (by kernel_rfl)) (by unfold Func.isWrapper; first | (rw [if_pos (by decide +kernel)]; kernel_rfl) | (rw [if_neg (by decide +kernel)]; exact ⟨rfl, rfl⟩))
    (fun os started H enc _ => lifted os started H enc)

end Go.Proofs.Ytbnbhhmgfogjeaa.arenaMany
namespace Go.Proofs.Ytbnbhhmgfogjeaa
theorem arenaMany_holds : Rows.ArenaManySaid := arenaMany.over
end Go.Proofs.Ytbnbhhmgfogjeaa
