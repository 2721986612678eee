/-
A handle is told once: what was given back is named by no handle from then on, whatever is given later; 0 is no handle. For any length of a slot, any steps.
-/
import Derived.Test.YtbnbhhmgfogjeaaGO
import Derived.Test.YtbnbhhmgfogjeaaLF
import Derived.Test.YtbnbhhmgfogjeaaRows
namespace Go.Proofs.Ytbnbhhmgfogjeaa.arenaNever
open Go.ChangeShapes Go.WideShapes Go.ChangeAt Go.RowKit Go.Maps
set_option linter.unusedVariables false
set_option linter.unusedSimpArgs false

theorem own : ownKnob Try.prog.godebug = none := by kernel_rfl
theorem laidOut : laidOutB Try.prog = true := by kernel_rfl

set_option maxRecDepth 100000 in
set_option maxHeartbeats 8000000 in
theorem walk (x : Int) (A : Option Addr) (n c : Nat) (S : List Stp) (w : World) (hS : Steps w.heap.size w A n S) (hn : n ≤ maxLen) : Calls Try.prog 5 #[.int .i64 x, .slice A n c] w (fun e w' => e = .returned (.bool true) ∧ Below w.heap.size w w') := by
  have HS := Lib.hid hS
  have HN := Lib.hid hn
  clear hS hn
  go_enter Try.func5, Try.ntmps5
  go_wp2_with fail
  refine (works_any w).mono ?_
  rintro e w1 ⟨rfl, hb⟩
  have HB1 := Lib.hid hb
  have HS1 := Lib.hid ((HS.out.below hb).mono hb.size)
  clear hb
  go_wp2_with fail
  refine (large_any A n c S w1 HS1.out HN.out).mono ?_
  rintro e w2 ⟨r, rfl, rfl, hr⟩
  have HR := Lib.hid hr
  clear hr
  cases r with
  | true =>
    go_wp2_with fail
    refine (works_any _).mono ?_
    rintro e w2 ⟨rfl, hb⟩
    have HB2 := Lib.hid (stepB HB1.out hb)
    clear hb
    go_wp2
    go_ret
    exact ⟨rfl, HB2.out⟩
  | false =>
    have hn2 : n ≤ 200 := HR.out rfl
    clear HR
    by_cases hx : x < 2 ∨ 4096 < x
    · have HX := Lib.hid hx
      clear hx
      go_wp2_with fail
      refine (arnew_no x w1 HX.out).mono ?_
      rintro e w3 ⟨rfl, rfl⟩
      go_wp2
      go_ret
      exact ⟨rfl, HB1.out⟩
    · obtain ⟨s, rfl⟩ : ∃ s : Nat, x = (s : Int) := ⟨x.toNat, by omega⟩
      have h2 : 2 ≤ s := by omega
      have h4 : s ≤ 4096 := by omega
      clear hx
      go_wp2_with fail
      refine (arnew_any s w1 h2 h4).mono ?_
      rintro e w3 ⟨a, S0, rfl, hA, hb⟩
      have HA3 := Lib.hid (hA.base HB1.out.size)
      have HB3 := Lib.hid (stepB HB1.out hb)
      have HS3 : Hid (∀ W, Below w.heap.size w W → Steps w.heap.size W A n S) := fun W hb => HS.out.below hb
      clear hA hb HS1
      go_wp2
      go_loopw [7, 8, 9] (fun v7 v8 i wr => ∃ (k : Nat) (st : AS) (S1 : Nat → Prop) (U : List Int) (D : List Bool) (vU vD : Value), k ≤ n ∧ i = .int .i64 k ∧ vU = v7 ∧ vD = v8 ∧ AR wr w.heap.size a s st S1 ∧ TI st U k ∧ U.length ≤ k ∧ Ow hv wr w.heap.size 24 vU U.length U ∧ Ow bv wr w.heap.size 4 vD D.length D ∧ D.length = U.length ∧ (∀ j, j < U.length → D.getD j false = true → isA st (U.getD j 0) = false) ∧ Below w.heap.size w wr) (fun _ _ i _ => n - (intOf i).toNat)
      case atStart => exact ⟨0, _, S0, [], [], _, _, Nat.zero_le _, rfl, rfl, rfl, HA3.out, TI.nil, Nat.le_refl _, Ow.none _ _ _, Ow.none _ _ _, rfl, (fun j h => absurd h (Nat.not_lt_zero j)), HB3.out⟩
      case round =>
        obtain ⟨k, st, S1, U, D, vU, vD, hk, rfl, rfl, rfl, hA, hT, hul, ho, hd, hdl, hgone, hb⟩ := hrel
        obtain ⟨w4, rfl⟩ : ∃ w4 : World, w4 = wr := ⟨_, rfl⟩
        have HA := Lib.hid hA
        have HT := Lib.hid hT
        have HO := Lib.hid ho
        have HD := Lib.hid hd
        have HDL := Lib.hid hdl
        have HGN := Lib.hid hgone
        have HB := Lib.hid hb
        have HUL := Lib.hid hul
        clear hA hT ho hd hdl hgone hb hul HA3 HB3
        by_cases hlt : k < n
        · have d1 : decide ((k : Int) < (n : Int)) = true := decide_eq_true (by omega)
          have wk : IntKind.i64.wrap ((k : Int) + 1) = (k : Int) + 1 := IntWalk.i64_in _ (by omega)
          obtain ⟨g, off, rfl, hg, hcell⟩ := (HS3.out _ HB.out).2 (by omega)
          have i1 := sindex g off n c k (k : Int) rfl hlt
          obtain ⟨hc, hok⟩ := hcell k hlt
          obtain ⟨t, hx⟩ : ∃ t, S.getD k stp0 = t := ⟨_, rfl⟩
          rw [hx] at hc hok
          obtain ⟨x0, x1, x2, x3⟩ := hc
          have HOK := Lib.hid hok
          have HST := Lib.hid (HT.out.step (s := s) (t := t) (by have := HUL.out; omega) HA.out.pure h2 h4 hok)
          have HDO := Lib.hid (sdo_any w.heap.size a s st S1 w4 HA.out t U w.heap.size vU hok HO.out (by have := HUL.out; omega) (fun x hx => (HT.out.told x hx).1) h2 h4 (by have := HT.out.glen; omega))
          obtain ⟨kd, m, rw_, tx⟩ := t
          simp only at x0 x1 x2 x3 HDO
          obtain ⟨st', hst'⟩ : ∃ z, (doS s (kd, m, rw_, tx) U st).1 = z := ⟨_, rfl⟩
          obtain ⟨xn, hxn⟩ : ∃ z, (doS s (kd, m, rw_, tx) U st).2.1 = z := ⟨_, rfl⟩
          obtain ⟨is, his⟩ : ∃ z, (doS s (kd, m, rw_, tx) U st).2.2 = z := ⟨_, rfl⟩
          rw [hst', hxn, his] at HST HDO
          clear hcell hx hok hg hst' hxn his
          go_wp2_with fail
          refine HDO.out.mono ?_
          rintro e w5 ⟨rfl, S2, hA2, hS2, hf⟩
          have HA5 := Lib.hid hA2
          have HO5 := Lib.hid (HA.out.ow hf HO.out ⟨by decide, by decide, by decide⟩)
          have HD5 := Lib.hid (HA.out.ow hf HD.out ⟨by decide, by decide, by decide⟩)
          have HB5 := Lib.hid (HA.out.frBelow hf HB.out (Nat.le_refl _) HB.out.size)
          clear hA2 hS2 hf HDO x0 x1 x2 x3 i1 HA HO HD HB
          obtain ⟨U2, hU2⟩ : ∃ U2, (if is then U ++ [xn] else U) = U2 := ⟨_, rfl⟩
          have HU2 := Lib.hid hU2
          have HTI : Hid (TI st' U2 (k + 1)) := by have := HST.out.ti; rw [hU2] at this; exact this
          have HUL2 : Hid (U2.length ≤ k + 1) := by
            have := HUL.out
            show _ ≤ _
            rw [← hU2]
            cases is <;> simp <;> omega
          have HG2 : Hid (∀ j, j < U.length → D.getD j false = true → isA st' (U.getD j 0) = false) := fun j hj e =>
            HST.out.gone _ (HT.out.told _ (getD_memU hj)).1 (HT.out.told _ (getD_memU hj)).2 (HGN.out j hj e)
          clear hU2
          go_upto_if 47 with (fail)
          go_cut [7, 8] (fun s7 s8 wx => ∃ (vU2 vD2 : Value) (D2 : List Bool), vU2 = s7 ∧ vD2 = s8 ∧ AR wx w.heap.size a s st' S2 ∧ Ow hv wx w.heap.size 24 vU2 U2.length U2 ∧ Ow bv wx w.heap.size 4 vD2 D2.length D2 ∧ D2.length = U2.length ∧ (∀ j, j < U2.length → D2.getD j false = true → isA st' (U2.getD j 0) = false) ∧ Below w.heap.size w wx)
          case first =>
            cases is with
            | false =>
              have HUE : Hid (U2 = U) := Lib.hid (by have := HU2.out; simpa using this.symm)
              go_wp2
              go_meet
              exact ⟨vU, vD, D, rfl, rfl, HA5.out, by rw [HUE.out]; exact HO5.out, HD5.out, by rw [HUE.out]; exact HDL.out, by rw [HUE.out]; exact HG2.out, HB5.out⟩
            | true =>
              have HUE : Hid (U2 = U ++ [xn]) := Lib.hid (by have := HU2.out; simpa using this.symm)
              have HNI := Lib.hid (HST.out.new rfl).2.1
              obtain ⟨AV, cV, hv1, _⟩ := Ow.sl HO5.out
              subst hv1
              go_wp2
              go_loop [12] (fun i => ∃ j : Nat, j ≤ U.length ∧ i = .int .i64 j) (fun i => U.length - (intOf i).toNat)
              case atStart => exact ⟨0, Nat.zero_le _, rfl⟩
              case round =>
                obtain ⟨j, hj, rfl⟩ := hrel
                by_cases hjl : j < U.length
                · have d2 : decide ((j : Int) < (U.length : Int)) = true := decide_eq_true (by omega)
                  have wj : IntKind.i64.wrap ((j : Int) + 1) = (j : Int) + 1 := IntWalk.i64_in _ (by have := HUL.out; omega)
                  obtain ⟨gu, cu, hvu, hgu, hcu, _⟩ := ow_at HO5.out (getU hjl)
                  cases hvu
                  have hcu' : w5.cell? ⟨gu, j, none⟩ = some (.int .u64 (U.getD j 0)) := hcu
                  have i6 := idx48 gu U.length cV j (j : Int) rfl hjl
                  have hne : U.getD j 0 ≠ xn := fun e => HNI.out (e ▸ getD_memU hjl)
                  have hnb : (U.getD j 0 == xn) = false := by rw [beq_eq_false_iff_ne]; exact hne
                  generalize U.getD j 0 = y at *
                  clear hcu hgu hne
                  go_wp2
                  go_round
                  case rel => exact ⟨j + 1, by omega, by go_num⟩
                  case measure => simp [intOf]; omega
                · obtain rfl : j = U.length := by omega
                  have d2 : decide ((U.length : Int) < (U.length : Int)) = false := decide_eq_false (by omega)
                  have hbx : Below w5.heap.size w5 (w5.alloc (.cells #[.int .u64 xn] 24)) := (Below.refl _ _).alloc (Nat.le_refl _) _
                  have HX6 : Hid (Sl hv (w5.alloc (.cells #[.int .u64 xn] 24)) (some ⟨w5.heap.size, 0, none⟩) 1 1 [xn]) := Blk.sl (enc := hv) (xs := [xn]) (Blk.new w5 #[.int .u64 xn] 24)
                  have HA6 := Lib.hid (HA5.out.later hbx)
                  have HO6 := Lib.hid (Ow.later HO5.out hbx)
                  have HD6 := Lib.hid (Ow.later HD5.out hbx)
                  have HB6 := Lib.hid (stepB HB5.out hbx)
                  clear hbx
                  go_wp2_with (first
                    | (at_builtin; refine wpList_append_sl elemH rfl (.tmp 60) (.tmp 62) rfl w.heap.size (.slice AV U.length cV) U.length U rfl HO6.out (some ⟨w5.heap.size, 0, none⟩) 1 1 [xn] rfl HX6.out (by have := HUL.out; omega) (by decide) HB6.out.size ?_; intro vn7 w7 ho7)
                    | fail)
                  intro hg7
                  have HA7 := Lib.hid (HA6.out.grown HO6.out ⟨by decide, by decide, by decide⟩ hg7)
                  have HD7 := Lib.hid (ow_grown_tag HD6.out HO6.out (show (4 : TypeId) ≠ 24 by decide) hg7)
                  have HB7 := Lib.hid (ow_below HO6.out HB6.out HB6.out.size hg7)
                  have HO7 := Lib.hid ho7
                  clear ho7 hg7 HX6 HA6 HO6 HD6 HB6
                  obtain ⟨AD, cD, hv2, _⟩ := Ow.sl HD7.out
                  subst hv2
                  have hbx : Below w7.heap.size w7 (w7.alloc (.cells #[.bool false] 4)) := (Below.refl _ _).alloc (Nat.le_refl _) _
                  have HX8 : Hid (Sl bv (w7.alloc (.cells #[.bool false] 4)) (some ⟨w7.heap.size, 0, none⟩) 1 1 [false]) := Blk.sl (enc := bv) (xs := [false]) (Blk.new w7 #[.bool false] 4)
                  have HA8 := Lib.hid (HA7.out.later hbx)
                  have HO8 := Lib.hid (Ow.later HO7.out hbx)
                  have HD8 := Lib.hid (Ow.later HD7.out hbx)
                  have HB8 := Lib.hid (stepB HB7.out hbx)
                  clear hbx
                  go_wp2_with (first
                    | (at_builtin; refine wpList_append_sl elemB rfl (.tmp 64) (.tmp 65) rfl w.heap.size (.slice AD D.length cD) D.length D rfl HD8.out (some ⟨w7.heap.size, 0, none⟩) 1 1 [false] rfl HX8.out (by have := HUL.out; have := HDL.out; omega) (by decide) HB8.out.size ?_; intro vn9 w9 ho9)
                    | fail)
                  intro hg9
                  have HA9 := Lib.hid (HA8.out.grown HD8.out ⟨by decide, by decide, by decide⟩ hg9)
                  have HO9 := Lib.hid (ow_grown_tag HO8.out HD8.out (show (24 : TypeId) ≠ 4 by decide) hg9)
                  have HB9 := Lib.hid (ow_below HD8.out HB8.out HB8.out.size hg9)
                  have HD9 := Lib.hid ho9
                  clear ho9 hg9 HX8 HA8 HO8 HD8 HB8
                  go_wp2
                  go_meet
                  refine ⟨vn7, vn9, D ++ [false], rfl, rfl, HA9.out, ?_, ?_, ?_, ?_, HB9.out⟩
                  · rw [HUE.out, List.length_append]; exact HO9.out
                  · rw [List.length_append]; exact HD9.out
                  · rw [HUE.out, List.length_append, List.length_append, HDL.out]; rfl
                  · rw [HUE.out]
                    intro j hj e
                    rw [getD_appD] at e
                    rw [List.length_append] at hj
                    simp only [List.length_cons, List.length_nil] at hj
                    by_cases hjl : j < U.length
                    · rw [getD_appU, if_pos hjl]
                      exact HG2.out j hjl e
                    · rw [List.getD_eq_getElem?_getD, List.getElem?_eq_none (by rw [HDL.out]; omega)] at e
                      cases e
          case rest =>
            obtain ⟨vU2, vD2, D2, rfl, rfl, hA, ho, hd, hdl, hgn, hb⟩ := hcut
            obtain ⟨w6, rfl⟩ : ∃ w6 : World, w6 = wc := ⟨_, rfl⟩
            have HA6 := Lib.hid hA
            have HO6 := Lib.hid ho
            have HD6 := Lib.hid hd
            have HDL2 := Lib.hid hdl
            have HGN2 := Lib.hid hgn
            have HB6 := Lib.hid hb
            clear hA ho hd hdl hgn hb HA5 HO5 HD5 HB5
            obtain ⟨AV, cV, hv1, _⟩ := Ow.sl HO6.out
            subst hv1
            obtain ⟨AD, cD, hv2, _⟩ := Ow.sl HD6.out
            subst hv2
            go_wp2
            go_loopw [13] (fun i wr => ∃ (j : Nat) (S3 : Nat → Prop) (D3 : List Bool), j ≤ U2.length ∧ i = .int .i64 j ∧ AR wr w.heap.size a s st' S3 ∧ Ow hv wr w.heap.size 24 (.slice AV U2.length cV) U2.length U2 ∧ Ow bv wr w.heap.size 4 (.slice AD D2.length cD) D2.length D3 ∧ D3.length = D2.length ∧ (∀ i, i < U2.length → D3.getD i false = true → isA st' (U2.getD i 0) = false) ∧ Below w.heap.size w wr) (fun i _ => U2.length - (intOf i).toNat)
            case atStart => exact ⟨0, S2, D2, Nat.zero_le _, rfl, HA6.out, HO6.out, HD6.out, rfl, HGN2.out, HB6.out⟩
            case round =>
              obtain ⟨j, S3, D3, hj, rfl, hA, ho, hd, hdl, hgn, hb⟩ := hrel
              obtain ⟨w7, rfl⟩ : ∃ w7 : World, w7 = wr := ⟨_, rfl⟩
              have HA7 := Lib.hid hA
              have HO7 := Lib.hid ho
              have HD7 := Lib.hid hd
              have HDL3 := Lib.hid hdl
              have HGN3 := Lib.hid hgn
              have HB7 := Lib.hid hb
              clear hA ho hd hdl hgn hb HA6 HO6 HD6 HB6
              by_cases hjl : j < U2.length
              · have d2 : decide ((j : Int) < (U2.length : Int)) = true := decide_eq_true (by omega)
                have wj : IntKind.i64.wrap ((j : Int) + 1) = (j : Int) + 1 := IntWalk.i64_in _ (by have := HUL2.out; omega)
                obtain ⟨gu, cu, hvu, hgu, hcu, _⟩ := ow_at HO7.out (getU hjl)
                cases hvu
                have hjd : j < D3.length := by have := HDL3.out; have := HDL2.out; omega
                obtain ⟨gd, cd, hvd, hgd, hcd, hfd⟩ := ow_at HD7.out (getB hjd)
                have hvd' : AD = some ⟨gd, 0, none⟩ ∧ cD = cd := by simpa using hvd
                obtain ⟨rfl, rfl⟩ := hvd'
                have hjd2 : j < D2.length := by have := HDL3.out; omega
                have KU : Hid (∀ W, (Ow hv W w.heap.size 24 (.slice (some ⟨gu, 0, none⟩) U2.length cV) U2.length U2) → W.cell? ⟨gu, j, none⟩ = some (.int .u64 (U2.getD j 0))) := fun W hW => by
                  obtain ⟨_, _, e, _, h, _⟩ := ow_at hW (getU hjl)
                  cases e; exact h
                have KD : Hid (∀ W, (Ow bv W w.heap.size 4 (.slice (some ⟨gd, 0, none⟩) D2.length cD) D2.length D3) → W.cell? ⟨gd, j, none⟩ = some (.bool (D3.getD j false)) ∧ W.frozen? ⟨gd, j, none⟩ = false) := fun W hW => by
                  obtain ⟨_, _, e, _, h, h'⟩ := ow_at hW (getB hjd)
                  cases e; exact ⟨h, h'⟩
                have i6 := idx48 gu U2.length cV j (j : Int) rfl hjl
                have i7 := idx58' gd D2.length cD j (j : Int) rfl hjd2
                have HGJ := Lib.hid (HGN3.out j hjl)
                have HXR := Lib.hid (HTI.out.told _ (getD_memU hjl)).1
                obtain ⟨y, hy⟩ : ∃ y, U2.getD j 0 = y := ⟨_, rfl⟩
                rw [hy] at KU HGJ HXR
                have HY := Lib.hid hy
                obtain ⟨bb, hbb⟩ : ∃ bb, D3.getD j false = bb := ⟨_, rfl⟩
                rw [hbb] at KD HGJ
                have HBB := Lib.hid hbb
                clear hcu hgu hgd hcd hfd hvd hy hbb
                have k1 := KU.out _ HO7.out
                have HIS := Lib.hid (aris_any w.heap.size a s st' S3 w7 HA7.out y HXR.out.1 HXR.out.2)
                obtain ⟨nm, hnm⟩ : ∃ nm, isA st' y = nm := ⟨_, rfl⟩
                rw [hnm] at HIS HGJ
                have HNM := Lib.hid hnm
                clear hnm
                go_wp2_with fail
                refine HIS.out.mono ?_
                rintro e w8 ⟨rfl, hb⟩
                have HA8 := Lib.hid (HA7.out.later hb)
                have HO8 := Lib.hid (Ow.later HO7.out hb)
                have HD8 := Lib.hid (Ow.later HD7.out hb)
                have HB8 := Lib.hid (stepB HB7.out hb)
                clear hb k1 HIS
                have k1 := KU.out _ HO8.out
                have HRD := Lib.hid (arread_any w.heap.size a s st' S3 w8 HA8.out y HXR.out.1 HXR.out.2)
                obtain ⟨tt, htt⟩ : ∃ tt, rdA s y st' = tt := ⟨_, rfl⟩
                rw [htt] at HRD
                clear htt
                cases nm with
                | true =>
                  rw [show rdAE y st' = 0 from by unfold rdAE; rw [HNM.out]; rfl] at HRD
                  obtain rfl : bb = false := by
                    cases bb with
                    | false => rfl
                    | true => have := HGJ.out rfl; cases this
                  go_wp2_with fail
                  refine HRD.out.mono ?_
                  rintro e w9 ⟨rfl, hb⟩
                  have HA9 := Lib.hid (HA8.out.later hb)
                  have HO9 := Lib.hid (Ow.later HO8.out hb)
                  have HD9 := Lib.hid (Ow.later HD8.out hb)
                  have HB9 := Lib.hid (stepB HB8.out hb)
                  clear hb k1 HRD
                  obtain ⟨k2, k3⟩ := KD.out _ HD9.out
                  have hst := ow_store HD9.out j false
                  have HAX := Lib.hid (HA9.out.grown HD9.out ⟨by decide, by decide, by decide⟩ (show w9.grownBy _ (Value.ownBlock (.slice (some ⟨gd, 0, none⟩) D2.length cD)) from hst.2))
                  have HOX := Lib.hid (ow_grown_tag HO9.out HD9.out (show (24 : TypeId) ≠ 4 by decide) (show w9.grownBy _ (Value.ownBlock (.slice (some ⟨gd, 0, none⟩) D2.length cD)) from hst.2))
                  have HBX := Lib.hid (ow_below HD9.out HB9.out HB9.out.size (show w9.grownBy _ (Value.ownBlock (.slice (some ⟨gd, 0, none⟩) D2.length cD)) from hst.2))
                  have HDX := Lib.hid hst.1
                  clear hst
                  go_wp2
                  go_roundw
                  case rel =>
                    refine ⟨j + 1, S3, D3.set j false, by omega, by go_num, HAX.out, HOX.out, ?_, ?_, ?_, HBX.out⟩
                    · exact HDX.out
                    · rw [List.length_set]; exact HDL3.out
                    · intro i hi e
                      rw [getD_setD hjd] at e
                      by_cases ei : j = i
                      · rw [if_pos ei] at e; cases e
                      · rw [if_neg ei] at e; exact HGN3.out i hi e
                  case measure => simp [intOf]; omega
                | false =>
                  rw [show rdAE y st' = 5 from by unfold rdAE; rw [HNM.out]; rfl] at HRD
                  go_wp2_with fail
                  refine HRD.out.mono ?_
                  rintro e w9 ⟨rfl, hb⟩
                  have HA9 := Lib.hid (HA8.out.later hb)
                  have HO9 := Lib.hid (Ow.later HO8.out hb)
                  have HD9 := Lib.hid (Ow.later HD8.out hb)
                  have HB9 := Lib.hid (stepB HB8.out hb)
                  clear hb k1 HRD
                  obtain ⟨k2, k3⟩ := KD.out _ HD9.out
                  have k1 := KU.out _ HO9.out
                  have HFR := Lib.hid (arfree_any w.heap.size a s st' S3 w9 HA9.out y HXR.out.1 HXR.out.2 h4)
                  rw [show frAE y st' = 5 from by unfold frAE; rw [HNM.out]; rfl, show frA y st' = st' from by unfold frA; rw [HNM.out]; rfl] at HFR
                  cases bb with
                  | true =>
                    go_wp2_with fail
                    refine HFR.out.mono ?_
                    rintro e w10 ⟨rfl, S4, hA, hS, hf⟩
                    have HA10 := Lib.hid hA
                    have HO10 := Lib.hid (HA9.out.ow hf HO9.out ⟨by decide, by decide, by decide⟩)
                    have HD10 := Lib.hid (HA9.out.ow hf HD9.out ⟨by decide, by decide, by decide⟩)
                    have HB10 := Lib.hid (HA9.out.frBelow hf HB9.out (Nat.le_refl _) HB9.out.size)
                    clear hA hS hf HFR k1 k2 k3
                    obtain ⟨k2, k3⟩ := KD.out _ HD10.out
                    have hst := ow_store HD10.out j true
                    have HAX := Lib.hid (HA10.out.grown HD10.out ⟨by decide, by decide, by decide⟩ (show w10.grownBy _ (Value.ownBlock (.slice (some ⟨gd, 0, none⟩) D2.length cD)) from hst.2))
                    have HOX := Lib.hid (ow_grown_tag HO10.out HD10.out (show (24 : TypeId) ≠ 4 by decide) (show w10.grownBy _ (Value.ownBlock (.slice (some ⟨gd, 0, none⟩) D2.length cD)) from hst.2))
                    have HBX := Lib.hid (ow_below HD10.out HB10.out HB10.out.size (show w10.grownBy _ (Value.ownBlock (.slice (some ⟨gd, 0, none⟩) D2.length cD)) from hst.2))
                    have HDX := Lib.hid hst.1
                    clear hst
                    go_wp2
                    go_roundw
                    case rel =>
                      refine ⟨j + 1, S4, D3.set j true, by omega, by go_num, HAX.out, HOX.out, ?_, ?_, ?_, HBX.out⟩
                      · exact HDX.out
                      · rw [List.length_set]; exact HDL3.out
                      · intro i hi e
                        rw [getD_setD hjd] at e
                        by_cases ei : j = i
                        · rw [← ei, HY.out]; exact HNM.out
                        · rw [if_neg ei] at e; exact HGN3.out i hi e
                    case measure => simp [intOf]; omega
                  | false =>
                    go_wp2_with fail
                    refine HFR.out.mono ?_
                    rintro e w10 ⟨rfl, S4, hA, hS, hf⟩
                    have HA10 := Lib.hid hA
                    have HO10 := Lib.hid (HA9.out.ow hf HO9.out ⟨by decide, by decide, by decide⟩)
                    have HD10 := Lib.hid (HA9.out.ow hf HD9.out ⟨by decide, by decide, by decide⟩)
                    have HB10 := Lib.hid (HA9.out.frBelow hf HB9.out (Nat.le_refl _) HB9.out.size)
                    clear hA hS hf HFR k1 k2 k3
                    obtain ⟨k2, k3⟩ := KD.out _ HD10.out
                    have hst := ow_store HD10.out j true
                    have HAX := Lib.hid (HA10.out.grown HD10.out ⟨by decide, by decide, by decide⟩ (show w10.grownBy _ (Value.ownBlock (.slice (some ⟨gd, 0, none⟩) D2.length cD)) from hst.2))
                    have HOX := Lib.hid (ow_grown_tag HO10.out HD10.out (show (24 : TypeId) ≠ 4 by decide) (show w10.grownBy _ (Value.ownBlock (.slice (some ⟨gd, 0, none⟩) D2.length cD)) from hst.2))
                    have HBX := Lib.hid (ow_below HD10.out HB10.out HB10.out.size (show w10.grownBy _ (Value.ownBlock (.slice (some ⟨gd, 0, none⟩) D2.length cD)) from hst.2))
                    have HDX := Lib.hid hst.1
                    clear hst
                    go_wp2
                    go_roundw
                    case rel =>
                      refine ⟨j + 1, S4, D3.set j true, by omega, by go_num, HAX.out, HOX.out, ?_, ?_, ?_, HBX.out⟩
                      · exact HDX.out
                      · rw [List.length_set]; exact HDL3.out
                      · intro i hi e
                        rw [getD_setD hjd] at e
                        by_cases ei : j = i
                        · rw [← ei, HY.out]; exact HNM.out
                        · rw [if_neg ei] at e; exact HGN3.out i hi e
                    case measure => simp [intOf]; omega
              · obtain rfl : j = U2.length := by omega
                have d2 : decide ((U2.length : Int) < (U2.length : Int)) = false := decide_eq_false (by omega)
                have HIS := Lib.hid (aris_any w.heap.size a s st' S3 w7 HA7.out 0 (by decide) (by decide))
                rw [HTI.out.zero] at HIS
                go_wp2_with fail
                refine HIS.out.mono ?_
                rintro e w8 ⟨rfl, hb⟩
                have HA8 := Lib.hid (HA7.out.later hb)
                have HO8 := Lib.hid (Ow.later HO7.out hb)
                have HD8 := Lib.hid (Ow.later HD7.out hb)
                have HB8 := Lib.hid (stepB HB7.out hb)
                have HDE : Hid (D2.length = D3.length ∧ D3.length = U2.length) := ⟨by have := HDL3.out; omega, by have := HDL3.out; have := HDL2.out; omega⟩
                rw [HDE.out.1] at HD8
                clear hb HIS
                go_wp2
                go_roundw
                case rel => exact ⟨k + 1, st', S3, U2, D3, _, _, by omega, by go_num, rfl, by rw [HDE.out.1], HA8.out, HTI.out, HUL2.out, HO8.out, HD8.out, HDE.out.2, HGN3.out, HB8.out⟩
                case measure => simp [intOf]; omega
        · obtain rfl : k = n := by omega
          have d1 : decide ((k : Int) < (k : Int)) = false := decide_eq_false (by omega)
          go_wp2
          go_ret
          exact ⟨rfl, HB.out⟩


set_option maxRecDepth 100000 in
theorem lifted (os : Os) (started : os.Started) (H : Type) (enc : TypeId × Value → H) :
    ReturnsInHanded {} Try.checked os 5 .any (Rows.arenaNeverSpec.pre6 enc Try.prog Try.f5 Rows.arenaNeverRow.domain false) (Rows.arenaNeverSpec.post enc Try.prog Try.f5 false true false false) := by
  refine returnsInHanded_of_change_sized (C := Try.checked) own started (by kernel_rfl) Try.func5
    (ChangeSpec.witness6 (enc := enc) (C := Try.checked) false ⟨#[], #[.int .i64 0, .slice none 0 0], []⟩ 8 (by kernel_rfl) (by kernel_rfl) (by kernel_rfl) (by kernel_rfl)) ?_
  intro W base args ds gs before hval0 hW _ hsz _
  have hval : ∀ (j : Nat) t v, Try.f5.params[j]? = some t → args[j]? = some v → Value.okWide Try.prog W .any base t v := hval0
  have hW' := hW
  obtain ⟨p, q, hA0, hV, hbef, _, _⟩ := hW
  have hA : DataW.TrodAll enc Try.prog W 0 (fun _ => true) true Try.f5.params.toList args.toList ds p := hA0
  rw [Try.params5] at hA hval
  obtain ⟨v0, vs0, d0, ds0, p0, q0, hargs, rfl, rfl, h0, r0⟩ := trodAll_cons hA
  obtain ⟨v1, vs1, d1, ds1, p1, q1, rfl, rfl, rfl, h1, r1⟩ := trodAll_cons r0
  obtain ⟨rfl, rfl, rfl⟩ := trodAll_nil r1
  obtain rfl : args = #[v0, v1] := by cases args; simp_all
  obtain ⟨rfl, rfl⟩ := trodVars_none hV
  obtain ⟨a0, rfl, _, _, w0⟩ := open_int Try.underlying3 (hval 0 3 v0 rfl rfl) h0
  obtain ⟨A1, n1, c1, S1, rfl, st1, mx1, _, _⟩ := open_steps (hval 1 43 v1 rfl rfl) h1
  refine (walk a0 A1 n1 c1 S1 W st1 mx1).mono fun e W' ⟨he, hb⟩ => ?_
  subst he
  exact ⟨_, rfl, law_post laidOut (of_decide_eq_true (by kernel_rfl)) rfl Try.underlying4 rfl rfl hW' hb⟩

theorem over : Rows.arenaNeverRow.holds Try.pinned (OpenSpec.ofChange Rows.arenaNeverSpec) :=
  OpenClaim.holds_of_wide 5 Try.f5 rfl rfl rfl rfl rfl rfl rfl ⟨rfl, rfl, rfl, rfl, rfl⟩ rfl rfl rfl rfl rfl (by kernel_rfl) Try.func5 (by kernel_rfl)
    (of_decide_eq_true (by kernel_rfl)) (by unfold Func.isWrapper; first | (rw [if_pos (by decide +kernel)]; kernel_rfl) | (rw [if_neg (by decide +kernel)]; exact ⟨rfl, rfl⟩))
    (fun os started H enc _ => lifted os started H enc)

end Go.Proofs.Ytbnbhhmgfogjeaa.arenaNever
namespace Go.Proofs.Ytbnbhhmgfogjeaa
theorem arenaNever_holds : Rows.ArenaNeverSaid := arenaNever.over
end Go.Proofs.Ytbnbhhmgfogjeaa
