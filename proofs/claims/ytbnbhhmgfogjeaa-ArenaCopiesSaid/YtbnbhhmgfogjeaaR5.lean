/-
What is done to a copy is not seen, and comes to the same when it is done to what was copied. For any length of a slot, any steps ahead, any behind.
-/
import Derived.Test.YtbnbhhmgfogjeaaGW
import Derived.Test.YtbnbhhmgfogjeaaLF
import Derived.Test.YtbnbhhmgfogjeaaRows
namespace Go.Proofs.Ytbnbhhmgfogjeaa.arenaCopies
open Go.ChangeShapes Go.WideShapes Go.ChangeAt Go.RowKit Go.Maps
set_option linter.unusedVariables false
set_option linter.unusedSimpArgs false

theorem own : ownKnob Try.prog.godebug = none := by kernel_rfl
theorem laidOut : laidOutB Try.prog = true := by kernel_rfl

set_option maxRecDepth 100000 in
set_option maxHeartbeats 8000000 in
theorem walk (x : Int) (A : Option Addr) (n c : Nat) (S : List Stp) (Ab : Option Addr) (nb cb : Nat) (Tb : List Stp) (w : World) (hSb : Steps w.heap.size w Ab nb Tb) (hnb : nb ≤ maxLen) (hS : Steps w.heap.size w A n S) (hn : n ≤ maxLen) : Calls Try.prog 9 #[.int .i64 x, .slice A n c, .slice Ab nb cb] w (fun e w' => e = .returned (.bool true) ∧ Below w.heap.size w w') := by
  have HS := Lib.hid hS
  have HN := Lib.hid hn
  have HSb0 := Lib.hid hSb
  have HNb := Lib.hid hnb
  clear hS hn hSb hnb
  go_enter Try.func9, Try.ntmps9
  go_wp2_with fail
  refine (works_any w).mono ?_
  rintro e w1 ⟨rfl, hb⟩
  have HB1 := Lib.hid hb
  have HS1 := Lib.hid ((HS.out.below hb).mono hb.size)
  clear hb
  go_wp2_with fail
  refine (large_any A n c S w1 HS1.out HN.out).mono ?_
  rintro e w2 ⟨r, rfl, rfl, hr⟩
  have HR := Lib.hid hr
  clear hr
  cases r with
  | true =>
    go_wp2_with fail
    refine (works_any _).mono ?_
    rintro e w2 ⟨rfl, hb⟩
    have HB2 := Lib.hid (stepB HB1.out hb)
    clear hb
    go_wp2
    go_ret
    exact ⟨rfl, HB2.out⟩
  | false =>
    have hn2 : n ≤ 200 := HR.out rfl
    clear HR
    go_wp2_with fail
    refine (large_any Ab nb cb Tb w1 ((HSb0.out.below HB1.out).mono HB1.out.size) HNb.out).mono ?_
    rintro e w2 ⟨r, rfl, rfl, hr⟩
    have HR := Lib.hid hr
    clear hr
    cases r with
    | true =>
      go_wp2_with fail
      refine (works_any _).mono ?_
      rintro e w2 ⟨rfl, hb⟩
      have HB2 := Lib.hid (stepB HB1.out hb)
      clear hb
      go_wp2
      go_ret
      exact ⟨rfl, HB2.out⟩
    | false =>
      have hnb2 : nb ≤ 200 := HR.out rfl
      have HSb : Hid (∀ W, Below w.heap.size w W → Steps w.heap.size W Ab nb Tb) := fun W hb => HSb0.out.below hb
      clear HR HSb0
      by_cases hx : x < 2 ∨ 4096 < x
      · have HX := Lib.hid hx
        clear hx
        go_wp2_with fail
        refine (arnew_no x w1 HX.out).mono ?_
        rintro e w3 ⟨rfl, rfl⟩
        go_wp2
        go_ret
        exact ⟨rfl, HB1.out⟩
      · obtain ⟨s, rfl⟩ : ∃ s : Nat, x = (s : Int) := ⟨x.toNat, by omega⟩
        have h2 : 2 ≤ s := by omega
        have h4 : s ≤ 4096 := by omega
        clear hx
        go_wp2_with fail
        refine (arnew_any s w1 h2 h4).mono ?_
        rintro e w3 ⟨a, S0, rfl, hA, hb⟩
        have HA3 := Lib.hid (hA.base HB1.out.size)
        have HB3 := Lib.hid (stepB HB1.out hb)
        have HS3 : Hid (∀ W, Below w.heap.size w W → Steps w.heap.size W A n S) := fun W hb => HS.out.below hb
        clear hA hb HS1
        go_wp2
        go_loopw [9, 10] (fun v9 i wr => ∃ (k : Nat) (st : AS) (S1 : Nat → Prop) (U : List Int) (vU : Value), k ≤ n ∧ i = .int .i64 k ∧ vU = v9 ∧ AR wr w.heap.size a s st S1 ∧ TI st U k ∧ U.length ≤ k ∧ Ow hv wr w.heap.size 24 vU U.length U ∧ Below w.heap.size w wr) (fun _ i _ => n - (intOf i).toNat)
        case atStart => exact ⟨0, _, S0, [], _, Nat.zero_le _, rfl, rfl, HA3.out, TI.nil, Nat.le_refl _, Ow.none _ _ _, HB3.out⟩
        case round =>
          obtain ⟨k, st, S1, U, vU, hk, rfl, rfl, hA, hT, hul, ho, hb⟩ := hrel
          obtain ⟨w4, rfl⟩ : ∃ w4 : World, w4 = wr := ⟨_, rfl⟩
          have HA := Lib.hid hA
          have HT := Lib.hid hT
          have HO := Lib.hid ho
          have HB := Lib.hid hb
          have HUL := Lib.hid hul
          clear hA hT ho hb hul HA3 HB3
          by_cases hlt : k < n
          · have d1 : decide ((k : Int) < (n : Int)) = true := decide_eq_true (by omega)
            have wk : IntKind.i64.wrap ((k : Int) + 1) = (k : Int) + 1 := IntWalk.i64_in _ (by omega)
            obtain ⟨g, off, rfl, hg, hcell⟩ := (HS3.out _ HB.out).2 (by omega)
            have i1 := sindex g off n c k (k : Int) rfl hlt
            obtain ⟨hc, hok⟩ := hcell k hlt
            obtain ⟨t, hx⟩ : ∃ t, S.getD k stp0 = t := ⟨_, rfl⟩
            rw [hx] at hc hok
            obtain ⟨x0, x1, x2, x3⟩ := hc
            have HST := Lib.hid (HT.out.step (s := s) (t := t) (by have := HUL.out; omega) HA.out.pure h2 h4 hok)
            have HDO := Lib.hid (sdo_any w.heap.size a s st S1 w4 HA.out t U w.heap.size vU hok HO.out (by have := HUL.out; omega) (fun x hx => (HT.out.told x hx).1) h2 h4 (by have := HT.out.glen; omega))
            obtain ⟨kd, m, rw_, tx⟩ := t
            simp only at x0 x1 x2 x3 HDO
            obtain ⟨st', hst'⟩ : ∃ z, (doS s (kd, m, rw_, tx) U st).1 = z := ⟨_, rfl⟩
            obtain ⟨xn, hxn⟩ : ∃ z, (doS s (kd, m, rw_, tx) U st).2.1 = z := ⟨_, rfl⟩
            obtain ⟨is, his⟩ : ∃ z, (doS s (kd, m, rw_, tx) U st).2.2 = z := ⟨_, rfl⟩
            rw [hst', hxn, his] at HST HDO
            clear hcell hx hok hg hst' hxn his
            go_wp2_with fail
            refine HDO.out.mono ?_
            rintro e w5 ⟨rfl, S2, hA2, hS2, hf⟩
            have HA5 := Lib.hid hA2
            have HO5 := Lib.hid (HA.out.ow hf HO.out ⟨by decide, by decide, by decide⟩)
            have HB5 := Lib.hid (HA.out.frBelow hf HB.out (Nat.le_refl _) HB.out.size)
            clear hA2 hS2 hf HDO x0 x1 x2 x3 i1 HA HO HB
            cases is with
            | false =>
              go_wp2
              go_roundw
              case rel => exact ⟨k + 1, st', S2, U, vU, by omega, by go_num, rfl, HA5.out, HST.out.ti, by have := HUL.out; omega, HO5.out, HB5.out⟩
              case measure => simp [intOf]; omega
            | true =>
              obtain ⟨AV, cV, hv1, _⟩ := Ow.sl HO5.out
              subst hv1
              have hbx : Below w5.heap.size w5 (w5.alloc (.cells #[.int .u64 xn] 24)) := (Below.refl _ _).alloc (Nat.le_refl _) _
              have HX6 : Hid (Sl hv (w5.alloc (.cells #[.int .u64 xn] 24)) (some ⟨w5.heap.size, 0, none⟩) 1 1 [xn]) := Blk.sl (enc := hv) (xs := [xn]) (Blk.new w5 #[.int .u64 xn] 24)
              have HA6 := Lib.hid (HA5.out.later hbx)
              have HO6 := Lib.hid (Ow.later HO5.out hbx)
              have HB6 := Lib.hid (stepB HB5.out hbx)
              clear hbx
              go_wp2_with (first
                | (at_builtin; refine wpList_append_sl elemH rfl (.tmp 58) (.tmp 60) rfl w.heap.size (.slice AV U.length cV) U.length U rfl HO6.out (some ⟨w5.heap.size, 0, none⟩) 1 1 [xn] rfl HX6.out (by have := HUL.out; omega) (by decide) HB6.out.size ?_; intro vn7 w7 ho7)
                | fail)
              intro hg7
              have HA7 := Lib.hid (HA6.out.grown HO6.out ⟨by decide, by decide, by decide⟩ hg7)
              have HB7 := Lib.hid (ow_below HO6.out HB6.out HB6.out.size hg7)
              have HO7 := Lib.hid ho7
              clear ho7 hg7 HX6 HA6 HO6 HB6
              go_wp2
              go_roundw
              case rel => exact ⟨k + 1, st', S2, U ++ [xn], vn7, by omega, by go_num, rfl, HA7.out, HST.out.ti, by have := HUL.out; simp; omega, by rw [List.length_append]; exact HO7.out, HB7.out⟩
              case measure => simp [intOf]; omega
          · obtain rfl : k = n := by omega
            have d1 : decide ((k : Int) < (k : Int)) = false := decide_eq_false (by omega)
            obtain ⟨AV, cV, hv1, _⟩ := Ow.sl HO.out
            subst hv1
            go_wp2_with fail
            refine (arcopy_any w.heap.size a s st S1 w4 HA.out).mono ?_
            rintro e w5 ⟨p1, C1, rfl, hC, hb⟩
            have HC5 := Lib.hid hC
            have HA5 := Lib.hid (HA.out.later hb)
            have HO5 := Lib.hid (Ow.later HO.out hb)
            have HB5 := Lib.hid (stepB HB.out hb)
            have HSZ := Lib.hid HB.out.size
            have HLA := Lib.hid HA.out.lt
            have HB4 := Lib.hid hb
            clear hC hb HA HO HB
            go_wp2_with fail
            refine (arcopy_any w.heap.size a s st S1 w5 HA5.out).mono ?_
            rintro e w6 ⟨p2, C2, rfl, hC, hb⟩
            have HD6 := Lib.hid hC
            have HC6 := Lib.hid (HC5.out.later hb)
            have HA6 := Lib.hid (HA5.out.later hb)
            have HO6 := Lib.hid (Ow.later HO5.out hb)
            have HB6 := Lib.hid (stepB HB5.out hb)
            have HSC := Lib.hid HC5.out.lt
            have HAL6 := Lib.hid HA6.out.lt
            clear hC hb HA5 HO5 HB5 HC5
            go_wp2
            go_loopw [15] (fun i wr => ∃ (q : Nat) (S' : Nat → Prop), q ≤ nb ∧ i = .int .i64 q ∧ AR wr w4.heap.size p1 s (runS s U st Tb q) S' ∧ TI (runS s U st Tb q) U (k + q) ∧ (∀ k, S' k → C1 k ∨ w6.heap.size ≤ k) ∧ FrS w6 wr C1) (fun i _ => nb - (intOf i).toNat)
            case atStart => exact ⟨0, C1, Nat.zero_le _, rfl, HC6.out, HT.out, (fun k h => .inl h), FrS.of_below (Below.refl _ _)⟩
            case round =>
              obtain ⟨q, S', hq, rfl, hA, hT, hS, hf⟩ := hrel
              obtain ⟨w8, rfl⟩ : ∃ w8 : World, w8 = wr := ⟨_, rfl⟩
              have HAr := Lib.hid hA
              have HTr := Lib.hid hT
              have HSr := Lib.hid hS
              have HFr := Lib.hid hf
              clear hA hT hS hf
              by_cases hlt : q < nb
              · have d1 : decide ((q : Int) < (nb : Int)) = true := decide_eq_true (by omega)
                have wk : IntKind.i64.wrap ((q : Int) + 1) = (q : Int) + 1 := IntWalk.i64_in _ (by omega)
                have HBr := Lib.hid (HC6.out.frBelow HFr.out HB6.out HSZ.out HB6.out.size)
                have HOr := Lib.hid (HC6.out.ow HFr.out HO6.out ⟨by decide, by decide, by decide⟩)
                obtain ⟨g, off, rfl, hg, hcell⟩ := (HSb.out _ HBr.out).2 (by omega)
                have i1 := sindex g off nb cb q (q : Int) rfl hlt
                obtain ⟨hc, hok⟩ := hcell q hlt
                have HST := Lib.hid (HTr.out.run (by have := HUL.out; omega) HAr.out.pure h2 h4 hok)
                obtain ⟨t, hx⟩ : ∃ t, Tb.getD q stp0 = t := ⟨_, rfl⟩
                have HX := Lib.hid hx
                rw [hx] at hc hok
                obtain ⟨x0, x1, x2, x3⟩ := hc
                have HDO := Lib.hid (sdo_any w4.heap.size p1 s _ S' w8 HAr.out t U w.heap.size _ hok HOr.out (by have := HUL.out; omega) (fun x hx => (HT.out.told x hx).1) h2 h4 (by have := HTr.out.glen; have := HUL.out; omega))
                have hrs : (doS s t U (runS s U st Tb q)).1 = runS s U st Tb (q + 1) := by rw [← hx]; rfl
                rw [hrs] at HDO
                obtain ⟨kd, m, rw_, tx⟩ := t
                simp only at x0 x1 x2 x3 HDO
                obtain ⟨xn, hxn⟩ : ∃ z', (doS s (kd, m, rw_, tx) U (runS s U st Tb q)).2.1 = z' := ⟨_, rfl⟩
                obtain ⟨is, his⟩ : ∃ z', (doS s (kd, m, rw_, tx) U (runS s U st Tb q)).2.2 = z' := ⟨_, rfl⟩
                rw [hxn, his] at HDO
                clear hcell hx hok hg hxn his hrs HX
                go_wp2_with fail
                refine HDO.out.mono ?_
                rintro e w9 ⟨rfl, S2, hA2, hS2, hf⟩
                have HA9 := Lib.hid hA2
                have HS9 : Hid (∀ k, S2 k → C1 k ∨ w6.heap.size ≤ k) := fun k hk => by
                  rcases hS2 k hk with h | h
                  · exact HSr.out k h
                  · exact .inr (Nat.le_trans HFr.out.size h)
                have HF9 := Lib.hid (HFr.out.trans hf HSr.out)
                clear hA2 hS2 hf HDO x0 x1 x2 x3 i1
                go_wp2
                go_roundw
                case rel => exact ⟨q + 1, S2, by omega, by go_num, HA9.out, HST.out, HS9.out, HF9.out⟩
                case measure => simp [intOf]; omega
              · obtain rfl : q = nb := by omega
                have d1 : decide ((q : Int) < (q : Int)) = false := decide_eq_false (by omega)
                have HP9 := Lib.hid (HA6.out.fr HFr.out (fun k hk e => by have := (HLA.out k hk).2; have := (HSC.out k e).1; omega))
                have HK9 := Lib.hid (HD6.out.fr HFr.out (fun k hk e => by have := (HD6.out.lt k hk).1; have := (HSC.out k e).2; omega))
                have HO9 := Lib.hid (HC6.out.ow HFr.out HO6.out ⟨by decide, by decide, by decide⟩)
                have HB9 := Lib.hid (HC6.out.frBelow HFr.out HB6.out HSZ.out HB6.out.size)
                have HDJ : Hid (∀ k, S1 k → ¬ S' k) := fun k hk e => by
                  have h1 := (HAL6.out k hk).2
                  have h3 := (HLA.out k hk).2
                  rcases HSr.out k e with h | h
                  · have := (HSC.out k h).1; omega
                  · omega
                clear HFr HSr HA6 HD6 HO6 HB6 HC6 HTr
                obtain ⟨stF, hstF⟩ : ∃ z, runS s U st Tb q = z := ⟨_, rfl⟩
                rw [hstF] at HAr
                have HSF := Lib.hid hstF
                clear hstF
                go_wp2
                go_loopw [14, 16] (fun v14 v16 wr => ∃ (rd pk Bk : Nat) (stA : AS) (SA Sk : Nat → Prop), rd ≤ 2 ∧ v16 = .int .i64 rd ∧ v14 = .pointer (some ⟨pk, 0, none⟩) ∧ AR wr w.heap.size a s stA SA ∧ (rd < 2 → AR wr Bk pk s stA Sk) ∧ (rd = 0 → stA = st) ∧ AR wr w4.heap.size p1 s stF S' ∧ (∀ k, SA k → ¬ S' k) ∧ Ow hv wr w.heap.size 24 (.slice AV U.length cV) U.length U ∧ Below w.heap.size w wr) (fun _ r _ => 2 - (intOf r).toNat)
                case atStart => exact ⟨0, p2, _, st, S1, C2, by decide, rfl, rfl, HP9.out, fun _ => HK9.out, fun _ => rfl, HAr.out, HDJ.out, HO9.out, HB9.out⟩
                case round =>
                  obtain ⟨rd, pk, Bk, stA, SA, Sk, hrd, rfl, rfl, hA, hK, hst, hC, hdj, ho, hb⟩ := hrel
                  obtain ⟨w9, rfl⟩ : ∃ w9 : World, w9 = wr := ⟨_, rfl⟩
                  have HAx := Lib.hid hA
                  have HKx := Lib.hid hK
                  have HSTx := Lib.hid hst
                  have HCx := Lib.hid hC
                  have HDx := Lib.hid hdj
                  have HOx := Lib.hid ho
                  have HBx := Lib.hid hb
                  clear hA hK hst hC hdj ho hb HP9 HK9 HAr HDJ HO9 HB9
                  by_cases h2r : rd < 2
                  · have d1 : decide ((rd : Int) < 2) = true := decide_eq_true (by omega)
                    have HKy := Lib.hid (HKx.out h2r)
                    clear HKx
                    have wr1 : IntKind.i64.wrap ((rd : Int) + 1) = (rd : Int) + 1 := IntWalk.i64_in _ (by omega)
                    have HU1 := Lib.hid (arused_any w.heap.size a s stA SA w9 HAx.out)
                    have HU2 := Lib.hid (arused_any Bk pk s stA Sk w9 HKy.out)
                    have HG1 := Lib.hid (arpages_any w.heap.size a s stA SA w9 HAx.out)
                    have HG2 := Lib.hid (arpages_any Bk pk s stA Sk w9 HKy.out)
                    obtain ⟨u, hu⟩ : ∃ u, usA stA = u := ⟨_, rfl⟩
                    obtain ⟨gl, hgl⟩ : ∃ gl, stA.2.1.length = gl := ⟨_, rfl⟩
                    rw [hu] at HU1 HU2
                    rw [hgl] at HG1 HG2
                    clear hu hgl
                    go_wp2_with fail
                    refine HU1.out.mono ?_
                    rintro e wz ⟨rfl, rfl⟩
                    go_wp2_with fail
                    refine HU2.out.mono ?_
                    rintro e wz ⟨rfl, rfl⟩
                    go_wp2_with fail
                    refine HG1.out.mono ?_
                    rintro e wz ⟨rfl, rfl⟩
                    go_wp2_with fail
                    refine HG2.out.mono ?_
                    rintro e wz ⟨rfl, rfl⟩
                    clear HU1 HU2 HG1 HG2
                    go_wp2
                    go_loopw [17] (fun i wr => ∃ j : Nat, j ≤ U.length ∧ i = .int .i64 j ∧ Below w9.heap.size w9 wr) (fun i _ => U.length - (intOf i).toNat)
                    case atStart => exact ⟨0, Nat.zero_le _, rfl, Below.refl _ _⟩
                    case round =>
                      obtain ⟨j, hj, rfl, hb⟩ := hrel
                      obtain ⟨wy, rfl⟩ : ∃ wy : World, wy = wr := ⟨_, rfl⟩
                      have HBy := Lib.hid hb
                      clear hb
                      by_cases hjl : j < U.length
                      · have d2 : decide ((j : Int) < (U.length : Int)) = true := decide_eq_true (by omega)
                        have wj : IntKind.i64.wrap ((j : Int) + 1) = (j : Int) + 1 := IntWalk.i64_in _ (by have := HUL.out; omega)
                        obtain ⟨gu, cu, hvu, _, _, _⟩ := ow_at HOx.out (getU hjl)
                        cases hvu
                        have KU : Hid (∀ W, Below w9.heap.size w9 W → W.cell? ⟨gu, j, none⟩ = some (.int .u64 (U.getD j 0))) := fun W hW => by
                          obtain ⟨_, _, e, _, h, _⟩ := ow_at (Ow.later HOx.out hW) (getU hjl)
                          cases e; exact h
                        have i6 := idx48 gu U.length cV j (j : Int) rfl hjl
                        have HXR := Lib.hid (HT.out.told _ (getD_memU hjl)).1
                        obtain ⟨y, hy⟩ : ∃ y, U.getD j 0 = y := ⟨_, rfl⟩
                        rw [hy] at KU HXR
                        have HR1 := Lib.hid (fun (W : World) (hW : Below w9.heap.size w9 W) => arread_any w.heap.size a s stA SA W (HAx.out.later hW) y HXR.out.1 HXR.out.2)
                        have HR2 := Lib.hid (fun (W : World) (hW : Below w9.heap.size w9 W) => arread_any Bk pk s stA Sk W (HKy.out.later hW) y HXR.out.1 HXR.out.2)
                        obtain ⟨tt, htt⟩ : ∃ tt, rdA s y stA = tt := ⟨_, rfl⟩
                        obtain ⟨te, hte⟩ : ∃ te, rdAE y stA = te := ⟨_, rfl⟩
                        rw [htt, hte] at HR1 HR2
                        clear hy htt hte
                        have k1 := KU.out _ HBy.out
                        go_wp2_with fail
                        refine (HR1.out _ HBy.out).mono ?_
                        rintro e wa ⟨rfl, hb⟩
                        replace HBy := Lib.hid (stepB HBy.out hb)
                        clear hb k1
                        have k1 := KU.out _ HBy.out
                        go_wp2_with fail
                        refine (HR2.out _ HBy.out).mono ?_
                        rintro e wb ⟨rfl, hb⟩
                        replace HBy := Lib.hid (stepB HBy.out hb)
                        clear hb k1
                        go_wp2
                        go_roundw
                        case rel => exact ⟨j + 1, by omega, by go_num, HBy.out⟩
                        case measure => simp [intOf]; omega
                      · obtain rfl : j = U.length := by omega
                        have d2 : decide ((U.length : Int) < (U.length : Int)) = false := decide_eq_false (by omega)
                        have HAy := Lib.hid (HAx.out.later HBy.out)
                        have HCy := Lib.hid (HCx.out.later HBy.out)
                        have HOy := Lib.hid (Ow.later HOx.out HBy.out)
                        have HBz := Lib.hid (stepB HBx.out HBy.out)
                        clear HAx HCx HOx HBx HKy
                        by_cases hr0 : rd = 0
                        · have b0 : ((rd : Int) == 0) = true := by rw [hr0]; rfl
                          have HR0 := Lib.hid hr0
                          obtain rfl := HSTx.out hr0
                          clear HSTx hr0
                          have HSZ : Hid (w.heap.size ≤ w.heap.size) := Nat.le_refl _
                          have HLCy := Lib.hid HCy.out.lt
                          go_wp2
                          go_loopw [22] (fun i wr => ∃ (z : Nat) (SX : Nat → Prop), z ≤ q ∧ i = .int .i64 z ∧ AR wr w.heap.size a s (runS s U stA Tb z) SX ∧ TI (runS s U stA Tb z) U (k + z) ∧ (∀ k, SX k → SA k ∨ wy.heap.size ≤ k) ∧ FrS wy wr SA) (fun i _ => q - (intOf i).toNat)
                          case atStart => exact ⟨0, SA, Nat.zero_le _, rfl, HAy.out, HT.out, (fun k h => .inl h), FrS.of_below (Below.refl _ _)⟩
                          case round =>
                            obtain ⟨z, SX, hq, rfl, hA, hT, hS, hf⟩ := hrel
                            obtain ⟨w8, rfl⟩ : ∃ w8 : World, w8 = wr := ⟨_, rfl⟩
                            have HAr := Lib.hid hA
                            have HTr := Lib.hid hT
                            have HSr := Lib.hid hS
                            have HFr := Lib.hid hf
                            clear hA hT hS hf
                            by_cases hlt : z < q
                            · have d1 : decide ((z : Int) < (q : Int)) = true := decide_eq_true (by omega)
                              have wk : IntKind.i64.wrap ((z : Int) + 1) = (z : Int) + 1 := IntWalk.i64_in _ (by omega)
                              have HBr := Lib.hid (HAy.out.frBelow HFr.out HBz.out HSZ.out HBz.out.size)
                              have HOr := Lib.hid (HAy.out.ow HFr.out HOy.out ⟨by decide, by decide, by decide⟩)
                              obtain ⟨g, off, rfl, hg, hcell⟩ := (HSb.out _ HBr.out).2 (by omega)
                              have i1 := sindex g off q cb z (z : Int) rfl hlt
                              obtain ⟨hc, hok⟩ := hcell z hlt
                              have HST := Lib.hid (HTr.out.run (by have := HUL.out; omega) HAr.out.pure h2 h4 hok)
                              obtain ⟨t, hx⟩ : ∃ t, Tb.getD z stp0 = t := ⟨_, rfl⟩
                              have HX := Lib.hid hx
                              rw [hx] at hc hok
                              obtain ⟨x0, x1, x2, x3⟩ := hc
                              have HDO := Lib.hid (sdo_any w.heap.size a s _ SX w8 HAr.out t U w.heap.size _ hok HOr.out (by have := HUL.out; omega) (fun x hx => (HT.out.told x hx).1) h2 h4 (by have := HTr.out.glen; have := HUL.out; omega))
                              have hrs : (doS s t U (runS s U stA Tb z)).1 = runS s U stA Tb (z + 1) := by rw [← hx]; rfl
                              rw [hrs] at HDO
                              obtain ⟨kd, m, rw_, tx⟩ := t
                              simp only at x0 x1 x2 x3 HDO
                              obtain ⟨xn, hxn⟩ : ∃ z', (doS s (kd, m, rw_, tx) U (runS s U stA Tb z)).2.1 = z' := ⟨_, rfl⟩
                              obtain ⟨is, his⟩ : ∃ z', (doS s (kd, m, rw_, tx) U (runS s U stA Tb z)).2.2 = z' := ⟨_, rfl⟩
                              rw [hxn, his] at HDO
                              clear hcell hx hok hg hxn his hrs HX
                              go_wp2_with fail
                              refine HDO.out.mono ?_
                              rintro e w9 ⟨rfl, S2, hA2, hS2, hf⟩
                              have HA9 := Lib.hid hA2
                              have HS9 : Hid (∀ k, S2 k → SA k ∨ wy.heap.size ≤ k) := fun k hk => by
                                rcases hS2 k hk with h | h
                                · exact HSr.out k h
                                · exact .inr (Nat.le_trans HFr.out.size h)
                              have HF9 := Lib.hid (HFr.out.trans hf HSr.out)
                              clear hA2 hS2 hf HDO x0 x1 x2 x3 i1
                              go_wp2
                              go_roundw
                              case rel => exact ⟨z + 1, S2, by omega, by go_num, HA9.out, HST.out, HS9.out, HF9.out⟩
                              case measure => simp [intOf]; omega
                            · obtain rfl : z = q := by omega
                              have d1 : decide ((z : Int) < (z : Int)) = false := decide_eq_false (by omega)
                              have HDJ : Hid (∀ k, SX k → ¬ S' k) := fun k hk e => by
                                rcases HSr.out k hk with h | h
                                · exact HDx.out k h e
                                · have := (HLCy.out k e).2; omega
                              have HFC := Lib.hid (HCy.out.fr HFr.out (fun k hk e => HDx.out k e hk))
                              have HFO := Lib.hid (HAy.out.ow HFr.out HOy.out ⟨by decide, by decide, by decide⟩)
                              have HFB := Lib.hid (HAy.out.frBelow HFr.out HBz.out (Nat.le_refl _) HBz.out.size)
                              have HSE : Hid (runS s U stA Tb z = stF) := HSF.out
                              rw [HSE.out] at HAr
                              clear HFr HSr HTr HAy HOy HBz HCy
                              go_wp2
                              go_roundw
                              case rel => exact ⟨rd + 1, p1, w4.heap.size, stF, SX, S', by omega, by go_num, rfl, HAr.out, (fun _ => HFC.out), (fun h => absurd h (Nat.succ_ne_zero _)), HFC.out, HDJ.out, HFO.out, HFB.out⟩
                              case measure => simp [intOf]; omega
                        · have HR0 : Hid (rd = 1) := Lib.hid (by omega)
                          have b0 : ((rd : Int) == 0) = false := by rw [beq_eq_false_iff_ne]; omega
                          clear hr0
                          go_wp2
                          go_loopw [22] (fun i wr => i = .int .i64 0 ∧ wr = wy) (fun _ _ => 0)
                          case atStart => exact ⟨rfl, rfl⟩
                          case round =>
                            obtain ⟨rfl, hw⟩ := hrel
                            subst hw
                            go_wp2
                            all_goals (
                              go_roundw
                              case rel => exact ⟨rd + 1, p1, w4.heap.size, stA, SA, S', by omega, by go_num, rfl, HAy.out, (fun h => absurd h (by have := HR0.out; omega)), (fun h => absurd h (Nat.succ_ne_zero _)), HCy.out, HDx.out, HOy.out, HBz.out⟩
                              case measure => simp [intOf]; omega)
                  · obtain rfl : rd = 2 := by omega
                    go_wp2
                    go_ret
                    exact ⟨rfl, HBx.out⟩


set_option maxRecDepth 100000 in
theorem lifted (os : Os) (started : os.Started) (H : Type) (enc : TypeId × Value → H) :
    ReturnsInHanded {} Try.checked os 9 .any (Rows.arenaCopiesSpec.pre6 enc Try.prog Try.f9 Rows.arenaCopiesRow.domain false) (Rows.arenaCopiesSpec.post enc Try.prog Try.f9 false true false false) := by
  refine returnsInHanded_of_change_sized (C := Try.checked) own started (by kernel_rfl) Try.func9
    (ChangeSpec.witness6 (enc := enc) (C := Try.checked) false ⟨#[], #[.int .i64 0, .slice none 0 0, .slice none 0 0], []⟩ 8 (by kernel_rfl) (by kernel_rfl) (by kernel_rfl) (by kernel_rfl)) ?_
  intro W base args ds gs before hval0 hW _ hsz _
  have hval : ∀ (j : Nat) t v, Try.f9.params[j]? = some t → args[j]? = some v → Value.okWide Try.prog W .any base t v := hval0
  have hW' := hW
  obtain ⟨p, q, hA0, hV, hbef, _, _⟩ := hW
  have hA : DataW.TrodAll enc Try.prog W 0 (fun _ => true) true Try.f9.params.toList args.toList ds p := hA0
  rw [Try.params9] at hA hval
  obtain ⟨v0, vs0, d0, ds0, p0, q0, hargs, rfl, rfl, h0, r0⟩ := trodAll_cons hA
  obtain ⟨v1, vs1, d1, ds1, p1, q1, rfl, rfl, rfl, h1, r1⟩ := trodAll_cons r0
  obtain ⟨v2, vs2, d2, ds2, p2, q2, rfl, rfl, rfl, h2, r2⟩ := trodAll_cons r1
  obtain ⟨rfl, rfl, rfl⟩ := trodAll_nil r2
  obtain rfl : args = #[v0, v1, v2] := by cases args; simp_all
  obtain ⟨rfl, rfl⟩ := trodVars_none hV
  obtain ⟨a0, rfl, _, _, w0⟩ := open_int Try.underlying3 (hval 0 3 v0 rfl rfl) h0
  obtain ⟨A1, n1, c1, S1, rfl, st1, mx1, _, _⟩ := open_steps (hval 1 43 v1 rfl rfl) h1
  obtain ⟨A2, n2, c2, S2, rfl, st2, mx2, _, _⟩ := open_steps (hval 2 43 v2 rfl rfl) h2
  refine (walk a0 A1 n1 c1 S1 A2 n2 c2 S2 W st2 mx2 st1 mx1).mono fun e W' ⟨he, hb⟩ => ?_
  subst he
  exact ⟨_, rfl, law_post laidOut (of_decide_eq_true (by kernel_rfl)) rfl Try.underlying4 rfl rfl hW' hb⟩

theorem over : Rows.arenaCopiesRow.holds Try.pinned (OpenSpec.ofChange Rows.arenaCopiesSpec) :=
  OpenClaim.holds_of_wide 9 Try.f9 rfl rfl rfl rfl rfl rfl rfl ⟨rfl, rfl, rfl, rfl, rfl⟩ rfl rfl rfl rfl rfl (by kernel_rfl) Try.func9 (by kernel_rfl)
    (of_decide_eq_true (by kernel_rfl)) (by unfold Func.isWrapper; first | (rw [if_pos (by decide +kernel)]; kernel_rfl) | (rw [if_neg (by decide +kernel)]; exact ⟨rfl, rfl⟩))
    (fun os started H enc _ => lifted os started H enc)

end Go.Proofs.Ytbnbhhmgfogjeaa.arenaCopies
namespace Go.Proofs.Ytbnbhhmgfogjeaa
theorem arenaCopies_holds : Rows.ArenaCopiesSaid := arenaCopies.over
end Go.Proofs.Ytbnbhhmgfogjeaa
