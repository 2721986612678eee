/-
The next slot behind a Free is the one that was given back, if its page is the first one that has room; one generation on. For any length of a slot, any steps ahead, which one is given back.
-/
import Derived.Test.YtbnbhhmgfogjeaaGV
import Derived.Test.YtbnbhhmgfogjeaaLF
import Derived.Test.YtbnbhhmgfogjeaaRows
namespace Go.Proofs.Ytbnbhhmgfogjeaa.arenaAgain
open Go.ChangeShapes Go.WideShapes Go.ChangeAt Go.RowKit Go.Maps
set_option linter.unusedVariables false
set_option linter.unusedSimpArgs false

theorem own : ownKnob Try.prog.godebug = none := by kernel_rfl
theorem laidOut : laidOutB Try.prog = true := by kernel_rfl

theorem wfI {n : Int} (h : (Lit.int .i64 n).wf = true) : -9223372036854775808 ≤ n ∧ n ≤ 9223372036854775807 := by
  simp only [Lit.wf, Bool.and_eq_true, decide_eq_true_eq] at h
  exact ⟨h.1, h.2⟩
theorem built51 (m : Int) : Try.prog.built 51 [(1, .int .i64 m)] = some #[.int .u8 0, .int .i64 m, .int .u64 0, .string { data := #[] }] := by kernel_rfl
set_option maxRecDepth 100000 in
set_option maxHeartbeats 8000000 in
theorem walk (x : Int) (A : Option Addr) (n c : Nat) (S : List Stp) (wh : Int) (w : World) (hwh : -9223372036854775808 ≤ wh ∧ wh ≤ 9223372036854775807) (hS : Steps w.heap.size w A n S) (hn : n ≤ maxLen) : Calls Try.prog 8 #[.int .i64 x, .slice A n c, .int .i64 wh] w (fun e w' => e = .returned (.bool true) ∧ Below w.heap.size w w') := by
  have HS := Lib.hid hS
  have HN := Lib.hid hn
  have HW := Lib.hid hwh
  clear hS hn hwh
  go_enter Try.func8, Try.ntmps8
  go_wp2_with fail
  refine (works_any w).mono ?_
  rintro e w1 ⟨rfl, hb⟩
  have HB1 := Lib.hid hb
  have HS1 := Lib.hid ((HS.out.below hb).mono hb.size)
  clear hb
  go_wp2_with fail
  refine (large_any A n c S w1 HS1.out HN.out).mono ?_
  rintro e w2 ⟨r, rfl, rfl, hr⟩
  have HR := Lib.hid hr
  clear hr
  cases r with
  | true =>
    go_wp2_with fail
    refine (works_any _).mono ?_
    rintro e w2 ⟨rfl, hb⟩
    have HB2 := Lib.hid (stepB HB1.out hb)
    clear hb
    go_wp2
    go_ret
    exact ⟨rfl, HB2.out⟩
  | false =>
    have hn2 : n ≤ 200 := HR.out rfl
    clear HR
    by_cases hx : x < 2 ∨ 4096 < x
    · have HX := Lib.hid hx
      clear hx
      go_wp2_with fail
      refine (arnew_no x w1 HX.out).mono ?_
      rintro e w3 ⟨rfl, rfl⟩
      go_wp2
      go_ret
      exact ⟨rfl, HB1.out⟩
    · obtain ⟨s, rfl⟩ : ∃ s : Nat, x = (s : Int) := ⟨x.toNat, by omega⟩
      have h2 : 2 ≤ s := by omega
      have h4 : s ≤ 4096 := by omega
      clear hx
      go_wp2_with fail
      refine (arnew_any s w1 h2 h4).mono ?_
      rintro e w3 ⟨a, S0, rfl, hA, hb⟩
      have HA3 := Lib.hid (hA.base HB1.out.size)
      have HB3 := Lib.hid (stepB HB1.out hb)
      have HS3 : Hid (∀ W, Below w.heap.size w W → Steps w.heap.size W A n S) := fun W hb => HS.out.below hb
      clear hA hb HS1
      go_wp2
      go_loopw [9, 10] (fun v9 i wr => ∃ (k : Nat) (st : AS) (S1 : Nat → Prop) (U : List Int) (vU : Value), k ≤ n ∧ i = .int .i64 k ∧ vU = v9 ∧ AR wr w.heap.size a s st S1 ∧ TI st U k ∧ U.length ≤ k ∧ Ow hv wr w.heap.size 24 vU U.length U ∧ Below w.heap.size w wr) (fun _ i _ => n - (intOf i).toNat)
      case atStart => exact ⟨0, _, S0, [], _, Nat.zero_le _, rfl, rfl, HA3.out, TI.nil, Nat.le_refl _, Ow.none _ _ _, HB3.out⟩
      case round =>
        obtain ⟨k, st, S1, U, vU, hk, rfl, rfl, hA, hT, hul, ho, hb⟩ := hrel
        obtain ⟨w4, rfl⟩ : ∃ w4 : World, w4 = wr := ⟨_, rfl⟩
        have HA := Lib.hid hA
        have HT := Lib.hid hT
        have HO := Lib.hid ho
        have HB := Lib.hid hb
        have HUL := Lib.hid hul
        clear hA hT ho hb hul HA3 HB3
        by_cases hlt : k < n
        · have d1 : decide ((k : Int) < (n : Int)) = true := decide_eq_true (by omega)
          have wk : IntKind.i64.wrap ((k : Int) + 1) = (k : Int) + 1 := IntWalk.i64_in _ (by omega)
          obtain ⟨g, off, rfl, hg, hcell⟩ := (HS3.out _ HB.out).2 (by omega)
          have i1 := sindex g off n c k (k : Int) rfl hlt
          obtain ⟨hc, hok⟩ := hcell k hlt
          obtain ⟨t, hx⟩ : ∃ t, S.getD k stp0 = t := ⟨_, rfl⟩
          rw [hx] at hc hok
          obtain ⟨x0, x1, x2, x3⟩ := hc
          have HST := Lib.hid (HT.out.step (s := s) (t := t) (by have := HUL.out; omega) HA.out.pure h2 h4 hok)
          have HDO := Lib.hid (sdo_any w.heap.size a s st S1 w4 HA.out t U w.heap.size vU hok HO.out (by have := HUL.out; omega) (fun x hx => (HT.out.told x hx).1) h2 h4 (by have := HT.out.glen; omega))
          obtain ⟨kd, m, rw_, tx⟩ := t
          simp only at x0 x1 x2 x3 HDO
          obtain ⟨st', hst'⟩ : ∃ z, (doS s (kd, m, rw_, tx) U st).1 = z := ⟨_, rfl⟩
          obtain ⟨xn, hxn⟩ : ∃ z, (doS s (kd, m, rw_, tx) U st).2.1 = z := ⟨_, rfl⟩
          obtain ⟨is, his⟩ : ∃ z, (doS s (kd, m, rw_, tx) U st).2.2 = z := ⟨_, rfl⟩
          rw [hst', hxn, his] at HST HDO
          clear hcell hx hok hg hst' hxn his
          go_wp2_with fail
          refine HDO.out.mono ?_
          rintro e w5 ⟨rfl, S2, hA2, hS2, hf⟩
          have HA5 := Lib.hid hA2
          have HO5 := Lib.hid (HA.out.ow hf HO.out ⟨by decide, by decide, by decide⟩)
          have HB5 := Lib.hid (HA.out.frBelow hf HB.out (Nat.le_refl _) HB.out.size)
          clear hA2 hS2 hf HDO x0 x1 x2 x3 i1 HA HO HB
          cases is with
          | false =>
            go_wp2
            go_roundw
            case rel => exact ⟨k + 1, st', S2, U, vU, by omega, by go_num, rfl, HA5.out, HST.out.ti, by have := HUL.out; omega, HO5.out, HB5.out⟩
            case measure => simp [intOf]; omega
          | true =>
            obtain ⟨AV, cV, hv1, _⟩ := Ow.sl HO5.out
            subst hv1
            have hbx : Below w5.heap.size w5 (w5.alloc (.cells #[.int .u64 xn] 24)) := (Below.refl _ _).alloc (Nat.le_refl _) _
            have HX6 : Hid (Sl hv (w5.alloc (.cells #[.int .u64 xn] 24)) (some ⟨w5.heap.size, 0, none⟩) 1 1 [xn]) := Blk.sl (enc := hv) (xs := [xn]) (Blk.new w5 #[.int .u64 xn] 24)
            have HA6 := Lib.hid (HA5.out.later hbx)
            have HO6 := Lib.hid (Ow.later HO5.out hbx)
            have HB6 := Lib.hid (stepB HB5.out hbx)
            clear hbx
            go_wp2_with (first
              | (at_builtin; refine wpList_append_sl elemH rfl (.tmp 56) (.tmp 58) rfl w.heap.size (.slice AV U.length cV) U.length U rfl HO6.out (some ⟨w5.heap.size, 0, none⟩) 1 1 [xn] rfl HX6.out (by have := HUL.out; omega) (by decide) HB6.out.size ?_; intro vn7 w7 ho7)
              | fail)
            intro hg7
            have HA7 := Lib.hid (HA6.out.grown HO6.out ⟨by decide, by decide, by decide⟩ hg7)
            have HB7 := Lib.hid (ow_below HO6.out HB6.out HB6.out.size hg7)
            have HO7 := Lib.hid ho7
            clear ho7 hg7 HX6 HA6 HO6 HB6
            go_wp2
            go_roundw
            case rel => exact ⟨k + 1, st', S2, U ++ [xn], vn7, by omega, by go_num, rfl, HA7.out, HST.out.ti, by have := HUL.out; simp; omega, by rw [List.length_append]; exact HO7.out, HB7.out⟩
            case measure => simp [intOf]; omega
        · obtain rfl : k = n := by omega
          have d1 : decide ((k : Int) < (k : Int)) = false := decide_eq_false (by omega)
          obtain ⟨AV, cV, hv1, _⟩ := Ow.sl HO.out
          subst hv1
          have hok0 : StpOk (0, wh, 0, ByteArray.empty) := ⟨HW.out, ⟨Int.le_refl _, (by decide : (0 : Int) ≤ 18446744073709551615)⟩, Nat.zero_le _⟩
          have HOF := Lib.hid (of_any (0, wh, 0, ByteArray.empty) U w.heap.size _ w4 hok0 HO.out (by have := HUL.out; omega))
          have HXR := Lib.hid (ofS_rg hok0 (fun x hx => (HT.out.told x hx).1))
          obtain ⟨y, hy⟩ : ∃ y, ofS (0, wh, 0, ByteArray.empty) U = y := ⟨_, rfl⟩
          rw [hy] at HOF HXR
          clear hok0 hy
          go_wp2_with (first
            | (refine wpl_build rfl 51 _ rfl _ (built51 wh) ?_)
            | fail)
          go_wp2_with fail
          refine HOF.out.mono ?_
          rintro e w5 ⟨rfl, hb⟩
          have HA5 := Lib.hid (HA.out.later hb)
          have HB5 := Lib.hid (stepB HB.out hb)
          clear hb HOF HA HB HO
          have HIS := Lib.hid (aris_any w.heap.size a s st S1 w5 HA5.out y HXR.out.1 HXR.out.2)
          obtain ⟨nm, hnm⟩ : ∃ nm, isA st y = nm := ⟨_, rfl⟩
          rw [hnm] at HIS
          have HNM := Lib.hid hnm
          clear hnm
          go_wp2_with fail
          refine HIS.out.mono ?_
          rintro e w6 ⟨rfl, hb⟩
          have HA6 := Lib.hid (HA5.out.later hb)
          have HB6 := Lib.hid (stepB HB5.out hb)
          clear hb HIS HA5 HB5
          cases nm with
          | false =>
            go_wp2
            go_ret
            exact ⟨rfl, HB6.out⟩
          | true =>
            have HPU : Hid (Pu s st) := Lib.hid HA6.out.pure
            have HGL : Hid (st.2.2.length < 1000000000) := by have := HT.out.glen; have h7 := HUL.out; show _ < _; omega
            go_wp2_with fail
            refine (arcopy_any w.heap.size a s st S1 w6 HA6.out).mono ?_
            rintro e w7 ⟨c7, S7, rfl, hC, hb⟩
            have HC7 := Lib.hid hC
            have HA7 := Lib.hid (HA6.out.later hb)
            have HB7 := Lib.hid (stepB HB6.out hb)
            have HLT := Lib.hid HA6.out.lt
            have HSZ := Lib.hid HB6.out.size
            clear hC hb HA6 HB6
            have HAL := Lib.hid (alloc_any w6.heap.size c7 s st S7 w7 HC7.out h2 h4 HGL.out)
            have HNR := Lib.hid (alA_rg h2 h4 HPU.out)
            obtain ⟨nx, hnx⟩ : ∃ z, (alA s st).2.1 = z := ⟨_, rfl⟩
            obtain ⟨nf, hnf⟩ : ∃ z, (alA s st).2.2 = z := ⟨_, rfl⟩
            have HLO := Lib.hid (again_lo h2 h4 HPU.out HXR.out HNM.out)
            have HHI := Lib.hid (again_hi h2 h4 HPU.out HXR.out HNM.out)
            rw [hnx, hnf] at HAL
            rw [hnx] at HNR
            rw [hnx, hnf] at HLO HHI
            clear hnx hnf
            go_wp2_with fail
            refine HAL.out.mono ?_
            rintro e w8 ⟨rfl, S8, _, _, hf⟩
            have HA8 := Lib.hid (HA7.out.fr hf (fun k hk e => by have := (HLT.out k hk).2; have := (HC7.out.lt k e).1; omega))
            have HB8 := Lib.hid (HC7.out.frBelow hf HB7.out HSZ.out HB7.out.size)
            clear hf HA7 HB7 HAL HC7 HLT
            have HP1 := Lib.hid (parts_is w8 HXR.out.1 HXR.out.2)
            have HP2 := Lib.hid (parts_is w8 HNR.out.1 HNR.out.2)
            go_wp2_with fail
            refine HP1.out.mono ?_
            rintro e wz ⟨rfl, rfl⟩
            go_wp2_with fail
            refine HP2.out.mono ?_
            rintro e wz ⟨rfl, rfl⟩
            clear HP1 HP2
            have HFR := Lib.hid (arfree_any w.heap.size a s st S1 w8 HA8.out y HXR.out.1 HXR.out.2 h4)
            rw [show frAE y st = 0 from by unfold frAE; rw [HNM.out]; rfl] at HFR
            go_wp2_with fail
            refine HFR.out.mono ?_
            rintro e w9 ⟨rfl, S9, hA, _, hf⟩
            have HA9 := Lib.hid hA
            have HB9 := Lib.hid (HA8.out.frBelow hf HB8.out (Nat.le_refl _) HB8.out.size)
            clear hA hf HFR HA8 HB8
            have HAL := Lib.hid (alloc_any w.heap.size a s (frA y st) S9 w9 HA9.out h2 h4 (by rw [frA_G]; exact HGL.out))
            obtain ⟨gx, hgx⟩ : ∃ z, (alA s (frA y st)).2.1 = z := ⟨_, rfl⟩
            obtain ⟨ge, hge⟩ : ∃ z, (alA s (frA y st)).2.2 = z := ⟨_, rfl⟩
            rw [hgx, hge] at HAL HLO HHI
            clear hgx hge
            go_wp2_with fail
            refine HAL.out.mono ?_
            rintro e w10 ⟨rfl, S10, _, _, hf⟩
            have HB10 := Lib.hid (HA9.out.frBelow hf HB9.out (Nat.le_refl _) HB9.out.size)
            clear hf HAL HA9 HB9
            have q := h_parts HXR.out.1 HXR.out.2
            have hzz := h_z HXR.out.1 HXR.out.2
            have HQ := Lib.hid q
            have HQ2 := Lib.hid (h_parts HNR.out.1 HNR.out.2)
            have HZZ := Lib.hid hzz
            have HH := Lib.hid (fun W => handle_x (hP y : Int) (hO y) ((hG y + 1) % 4294967296) W (by omega) (by have := q.2.2.2.2.2.2.2.2; omega) q.2.1 q.2.2.1 (by omega) (by omega))
            have wg : IntKind.u32.wrap (hG y + 1) = (hG y + 1) % 4294967296 := by rw [IntKind.wrap_u32]
            clear q hzz
            obtain ⟨pn, hpn⟩ : ∃ pn, hP nx = pn := ⟨_, rfl⟩
            obtain ⟨py, hpy⟩ : ∃ py, hP y = py := ⟨_, rfl⟩
            obtain ⟨oy, hoy⟩ : ∃ oy, hO y = oy := ⟨_, rfl⟩
            obtain ⟨gy, hgy⟩ : ∃ gy, (hG y + 1) % 4294967296 = gy := ⟨_, rfl⟩
            rw [hpn, hpy] at HLO HHI
            rw [hpy, hoy] at HZZ
            rw [hpy, hoy, hgy] at HH
            rw [hgy] at wg
            rw [hgy] at HHI
            rw [hpn, hpy, hoy]
            have HPY := Lib.hid hpy
            have HGY : Hid (0 ≤ gy ∧ gy ≤ 4294967295) := by show _ ∧ _; omega
            have HPYR : Hid (py ≤ 65535 ∧ 0 ≤ oy ∧ oy ≤ 65535) := by have := HQ.out; rw [hpy, hoy] at this; exact ⟨this.2.2.2.2.2.2.2.2, this.2.1, this.2.2.1⟩
            obtain ⟨gh, hgh⟩ : ∃ gh, hG y = gh := ⟨_, rfl⟩
            rw [hgh] at wg
            rw [hgh]
            clear hpn hpy hoy hgy hgh HQ HQ2
            by_cases c1 : nf = 0 ∧ pn < py
            · obtain ⟨l1, l2⟩ := HLO.out c1.1 c1.2
              have b1 : decide ((pn : Int) < (py : Int)) = true := decide_eq_true (by have := c1.2; omega)
              have b1' : decide (pn < py) = true := decide_eq_true c1.2
              have HNE : Hid ((gx != ((py : Int) * 65536 + oy) * 4294967296 + gy) = true) := by
                show _ = _
                rw [bne_iff_ne]
                intro e
                have e3 := hP_mk (l := py) (k := oy.toNat) (g := gy) HPYR.out.1 (by have := HPYR.out; omega) HGY.out.1 HGY.out.2
                unfold zOf at e3
                rw [show ((oy.toNat : Nat) : Int) = oy by have := HPYR.out; omega, ← e] at e3
                exact l2 e3
              obtain ⟨rfl, _⟩ := c1
              subst l1
              clear l2 HLO HHI
              obtain ⟨hh, hhh⟩ : ∃ hh, ((py : Int) * 65536 + oy) * 4294967296 + gy = hh := ⟨_, rfl⟩
              rw [hhh] at HH HNE
              have b2 := HNE.out
              clear hhh
              go_wp2_with fail
              refine (HH.out _).mono ?_
              rintro e wz ⟨rfl, rfl⟩
              go_wp2
              go_ret
              exact ⟨rfl, HB10.out⟩
            · obtain ⟨l1, l2⟩ := HHI.out c1
              rw [HZZ.out] at l2
              subst l1
              obtain ⟨hh, hhh⟩ : ∃ hh, ((py : Int) * 65536 + oy) * 4294967296 + gy = hh := ⟨_, rfl⟩
              rw [hhh] at HH l2
              subst l2
              clear hhh HLO HHI
              by_cases c2 : nf = 0
              · have b0 : (nf == 0) = true := by rw [c2]; rfl
                have b1 : decide ((pn : Int) < (py : Int)) = false := decide_eq_false (by omega)
                have b1' : decide (pn < py) = false := decide_eq_false (by omega)
                clear c1 c2
                go_wp2_with fail
                refine (HH.out _).mono ?_
                rintro e wz ⟨rfl, rfl⟩
                go_wp2
                go_ret
                exact ⟨rfl, HB10.out⟩
              · have b0 : (nf == 0) = false := by rw [beq_eq_false_iff_ne]; exact c2
                clear c1 c2
                go_wp2_with fail
                refine (HH.out _).mono ?_
                rintro e wz ⟨rfl, rfl⟩
                go_wp2
                go_ret
                exact ⟨rfl, HB10.out⟩


set_option maxRecDepth 100000 in
theorem lifted (os : Os) (started : os.Started) (H : Type) (enc : TypeId × Value → H) :
    ReturnsInHanded {} Try.checked os 8 .any (Rows.arenaAgainSpec.pre6 enc Try.prog Try.f8 Rows.arenaAgainRow.domain false) (Rows.arenaAgainSpec.post enc Try.prog Try.f8 false true false false) := by
  refine returnsInHanded_of_change_sized (C := Try.checked) own started (by kernel_rfl) Try.func8
    (ChangeSpec.witness6 (enc := enc) (C := Try.checked) false ⟨#[], #[.int .i64 0, .slice none 0 0, .int .i64 0], []⟩ 8 (by kernel_rfl) (by kernel_rfl) (by kernel_rfl) (by kernel_rfl)) ?_
  intro W base args ds gs before hval0 hW _ hsz _
  have hval : ∀ (j : Nat) t v, Try.f8.params[j]? = some t → args[j]? = some v → Value.okWide Try.prog W .any base t v := hval0
  have hW' := hW
  obtain ⟨p, q, hA0, hV, hbef, _, _⟩ := hW
  have hA : DataW.TrodAll enc Try.prog W 0 (fun _ => true) true Try.f8.params.toList args.toList ds p := hA0
  rw [Try.params8] at hA hval
  obtain ⟨v0, vs0, d0, ds0, p0, q0, hargs, rfl, rfl, h0, r0⟩ := trodAll_cons hA
  obtain ⟨v1, vs1, d1, ds1, p1, q1, rfl, rfl, rfl, h1, r1⟩ := trodAll_cons r0
  obtain ⟨v2, vs2, d2, ds2, p2, q2, rfl, rfl, rfl, h2, r2⟩ := trodAll_cons r1
  obtain ⟨rfl, rfl, rfl⟩ := trodAll_nil r2
  obtain rfl : args = #[v0, v1, v2] := by cases args; simp_all
  obtain ⟨rfl, rfl⟩ := trodVars_none hV
  obtain ⟨a0, rfl, _, _, w0⟩ := open_int Try.underlying3 (hval 0 3 v0 rfl rfl) h0
  obtain ⟨A1, n1, c1, S1, rfl, st1, mx1, _, _⟩ := open_steps (hval 1 43 v1 rfl rfl) h1
  obtain ⟨a2, rfl, _, _, w2⟩ := open_int Try.underlying3 (hval 2 3 v2 rfl rfl) h2
  refine (walk a0 A1 n1 c1 S1 a2 W (wfI w2) st1 mx1).mono fun e W' ⟨he, hb⟩ => ?_
  subst he
  exact ⟨_, rfl, law_post laidOut (of_decide_eq_true (by kernel_rfl)) rfl Try.underlying4 rfl rfl hW' hb⟩

theorem over : Rows.arenaAgainRow.holds Try.pinned (OpenSpec.ofChange Rows.arenaAgainSpec) :=
  OpenClaim.holds_of_wide 8 Try.f8 rfl rfl rfl rfl rfl rfl rfl ⟨rfl, rfl, rfl, rfl, rfl⟩ rfl rfl rfl rfl rfl (by kernel_rfl) Try.func8 (by kernel_rfl)
    (of_decide_eq_true (by kernel_rfl)) (by unfold Func.isWrapper; first | (rw [if_pos (by decide +kernel)]; kernel_rfl) | (rw [if_neg (by decide +kernel)]; exact ⟨rfl, rfl⟩))
    (fun os started H enc _ => lifted os started H enc)

end Go.Proofs.Ytbnbhhmgfogjeaa.arenaAgain
namespace Go.Proofs.Ytbnbhhmgfogjeaa
theorem arenaAgain_holds : Rows.ArenaAgainSaid := arenaAgain.over
end Go.Proofs.Ytbnbhhmgfogjeaa
