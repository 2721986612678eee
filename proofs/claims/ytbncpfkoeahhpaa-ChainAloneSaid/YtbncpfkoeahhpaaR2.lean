/-
Change, Stamp and Cut of one version change no other one; Change and Stamp not what is behind it, Cut not the version. For any config, any versions, which one, another one, a timestamp, what is done.
-/
import Derived.Test.YtbncpfkoeahhpaaOA
import Derived.Test.YtbncpfkoeahhpaaCU
import Derived.Test.YtbncpfkoeahhpaaCP
import Derived.Test.YtbncpfkoeahhpaaRows
import Derived.Test.YtbncpfkoeahhpaaLF
namespace Go.Proofs.Ytbncpfkoeahhpaa.chainAlone
open Go.ChangeShapes Go.WideShapes Go.ChangeAt Go.RowKit Go.Maps
set_option linter.unusedVariables false
set_option linter.unusedSimpArgs false

theorem own : ownKnob Try.prog.godebug = none := by kernel_rfl
theorem laidOut : laidOutB Try.prog = true := by kernel_rfl

theorem rg8 {n : Int} (h : (Lit.int .u8 n).wf = true) : 0 ≤ n ∧ n ≤ 255 := by
  simp only [Lit.wf, Bool.and_eq_true, decide_eq_true_eq] at h
  exact ⟨h.1, h.2⟩
set_option maxRecDepth 100000 in
set_option maxHeartbeats 16000000 in
theorem walk (cf : Conf) (A : Option Addr) (n c : Nat) (L : List Vn) (y vw vt : Int) (vb : Bool) (vs : ByteArray) (t u : Int) (w : World) (hS : RSl vec 4 w A n L) (hz : ∀ v ∈ L, VOk v) (hn : n ≤ maxLen) (hv_ : VOk (vw, vt, vb, vs)) (hu : 0 ≤ u ∧ u ≤ 255) : Calls Try.prog 5 #[.agg #[.int .i64 cf.ta, .int .i64 cf.ac, .int .i64 cf.ke, .int .i64 cf.de, .int .i64 cf.ts, .int .i64 cf.kl, .int .i64 cf.vl, .int .i64 cf.fa], .slice A n c, .int .i64 y, .agg #[.int .i64 vw, .int .i64 vt, .bool vb, .string vs], .int .i64 t, .int .u8 u] w (fun e w' => e = .returned (.bool true) ∧ Below w.heap.size w w') := by
  have HS : Hid (∀ W, Below w.heap.size w W → RSl vec 4 W A n L) := fun W hb => hS.later hb
  have HZ : Hid (∀ v ∈ L, v.2.2.2.size ≤ maxLen ∧ v.1 ≤ 9223372036854775807) := fun v hm => ⟨(hz v hm).2.2, (hz v hm).1.2⟩
  have HVO := Lib.hid hv_
  have HN := Lib.hid hn
  have HU := Lib.hid hu
  unfold maxLen at hn
  clear hS hz hv_ hu
  go_enter Try.func5, Try.ntmps5
  go_upto_region 1 with (fail)
  have HB0 : Hid (Below w.heap.size w ((w.alloc (.cells #[.int .i64 cf.ta, .int .i64 cf.ac, .int .i64 cf.ke, .int .i64 cf.de, .int .i64 cf.ts, .int .i64 cf.kl, .int .i64 cf.vl, .int .i64 cf.fa] 43)).alloc (.cells #[.int .i64 vw, .int .i64 vt, .bool vb, .string vs] 29))) := ((Below.refl _ _).alloc (Nat.le_refl _) _).alloc (((Below.refl _ w).alloc (Nat.le_refl _) _).size) _
  have HC : Hid (Blk ((w.alloc (.cells #[.int .i64 cf.ta, .int .i64 cf.ac, .int .i64 cf.ke, .int .i64 cf.de, .int .i64 cf.ts, .int .i64 cf.kl, .int .i64 cf.vl, .int .i64 cf.fa] 43)).alloc (.cells #[.int .i64 vw, .int .i64 vt, .bool vb, .string vs] 29)) w.heap.size #[.int .i64 cf.ta, .int .i64 cf.ac, .int .i64 cf.ke, .int .i64 cf.de, .int .i64 cf.ts, .int .i64 cf.kl, .int .i64 cf.vl, .int .i64 cf.fa] 43) := (Blk.new w _ _).alloc _
  have HV : Hid (Blk ((w.alloc (.cells #[.int .i64 cf.ta, .int .i64 cf.ac, .int .i64 cf.ke, .int .i64 cf.de, .int .i64 cf.ts, .int .i64 cf.kl, .int .i64 cf.vl, .int .i64 cf.fa] 43)).alloc (.cells #[.int .i64 vw, .int .i64 vt, .bool vb, .string vs] 29)) (w.heap.size + 1) #[.int .i64 vw, .int .i64 vt, .bool vb, .string vs] 29) := Blk.new2 _ _ _ (by show (w.heap.push _).size = _; exact Array.size_push _)
  have HNE : Hid (w.heap.size ≤ w.heap.size ∧ True) := ⟨Nat.le_refl _, trivial⟩
  generalize (w.alloc (.cells #[.int .i64 cf.ta, .int .i64 cf.ac, .int .i64 cf.ke, .int .i64 cf.de, .int .i64 cf.ts, .int .i64 cf.kl, .int .i64 cf.vl, .int .i64 cf.fa] 43)).alloc (.cells #[.int .i64 vw, .int .i64 vt, .bool vb, .string vs] 29) = w0 at *
  obtain ⟨pv, hpv⟩ : ∃ p, w.heap.size + 1 = p := ⟨_, rfl⟩
  obtain ⟨pc, hpc⟩ : ∃ p, w.heap.size = p := ⟨_, rfl⟩
  rw [hpv] at HV ⊢
  rw [hpc] at HC ⊢
  clear hpv hpc HNE
  have v0 := HV.out.cell 0
  have v1 := HV.out.cell 1
  have v2 := HV.out.cell 2
  have v3 := HV.out.cell 3
  simp only [List.getElem?_toArray, List.getElem?_cons_zero, List.getElem?_cons_succ] at v0 v1 v2 v3
  go_wp2_with fail
  refine (large_any A n c L _ (HS.out _ HB0.out) HN.out).mono ?_
  rintro e w1 ⟨r, rfl, hb, hlg⟩
  have HB1 := Lib.hid (stepB HB0.out hb)
  replace HC := Lib.hid (HC.out.later hb)
  replace HV := Lib.hid (HV.out.later hb)
  clear hb HB0 v0 v1 v2 v3
  cases r with
  | true =>
    clear hlg
    go_wp2_with fail
    refine (awake_any _).mono ?_
    rintro e wz2 ⟨rfl, hb⟩
    have HBz := Lib.hid (stepB HB1.out hb)
    clear hb
    go_wp2
    go_ret
    exact ⟨rfl, HBz.out⟩
  | false =>
    have HLG := Lib.hid (hlg rfl)
    clear hlg
    have v0 := HV.out.cell 0
    have v1 := HV.out.cell 1
    have v2 := HV.out.cell 2
    have v3 := HV.out.cell 3
    simp only [List.getElem?_toArray, List.getElem?_cons_zero, List.getElem?_cons_succ] at v0 v1 v2 v3
    by_cases h5 : 5000 < vs.size
    · have d5 : decide ((5000 : Int) < (vs.size : Int)) = true := decide_eq_true (by omega)
      clear h5
      go_wp2_with fail
      refine (awake_any _).mono ?_
      rintro e wz3 ⟨rfl, hb⟩
      have HBz := Lib.hid (stepB HB1.out hb)
      clear hb
      go_wp2
      go_ret
      exact ⟨rfl, HBz.out⟩
    · have d5 : decide ((5000 : Int) < (vs.size : Int)) = false := decide_eq_false (by omega)
      clear h5
      by_cases h0 : n = 0
      · have d0 : ((n : Int) == 0) = true := by rw [beq_iff_eq]; omega
        clear h0
        go_wp2_with fail
        refine (awake_any _).mono ?_
        rintro e wz4 ⟨rfl, hb⟩
        have HBz := Lib.hid (stepB HB1.out hb)
        clear hb
        go_wp2
        go_ret
        exact ⟨rfl, HBz.out⟩
      · have d0 : ((n : Int) == 0) = false := by rw [beq_eq_false_iff_ne]; omega
        go_wp2_with fail
        refine (awake_any _).mono ?_
        rintro e w2 ⟨rfl, hb⟩
        have HB2 := Lib.hid (stepB HB1.out hb)
        replace HC := Lib.hid (HC.out.later hb)
        replace HV := Lib.hid (HV.out.later hb)
        clear hb HB1 v0 v1 v2 v3
        have c0 := HC.out.cell 0
        have c1 := HC.out.cell 1
        have c2 := HC.out.cell 2
        have c3 := HC.out.cell 3
        have c4 := HC.out.cell 4
        have c5 := HC.out.cell 5
        have c6 := HC.out.cell 6
        have c7 := HC.out.cell 7
        simp only [List.getElem?_toArray, List.getElem?_cons_zero, List.getElem?_cons_succ] at c0 c1 c2 c3 c4 c5 c6 c7
        go_wp2_with fail
        refine (build_any cf A n c L w2 (HS.out _ HB2.out) HZ.out HN.out HLG.out).mono ?_
        clear HLG c0 c1 c2 c3 c4 c5 c6 c7 HC
        rintro e w3 (⟨rfl, hb⟩ | ⟨q, a, m, st, S0, nd, us, vU, rfl, hm, hn3, ho, hx, hbd, hb⟩)
        · have HB3 := Lib.hid (stepB HB2.out hb)
          clear hb
          go_wp2
          go_ret
          exact ⟨rfl, HB3.out⟩
        · have hl := hbd.len
          rw [hl] at ho
          obtain ⟨gU, cU, rfl⟩ := own0 ho (by omega)
          have HB3 := Lib.hid (stepB HB2.out hb)
          replace HV := Lib.hid (HV.out.later hb)
          have HO3 := Lib.hid (ho.base HB2.out.size)
          have HX3 := Lib.hid (hx.base HB2.out.size)
          have HD := Lib.hid hbd
          have HM := Lib.hid hm
          obtain ⟨Y, k, hk, y1, y2, y3, y4, y5, y6⟩ := which_of y n (by omega) (by omega)
          have i1 := idx48 gU n cU k (k : Int) rfl hk
          have x1 := own_at HO3.out hk
          obtain ⟨X, hX⟩ : ∃ X, us.getD k 0 = X := ⟨_, rfl⟩
          obtain ⟨Z, hZ⟩ : ∃ Z, L.getD k vn0 = Z := ⟨_, rfl⟩
          have hhas := HD.out.has hk
          have hndk := HD.out.nd k hk
          rw [hX] at x1 hhas hndk
          rw [hZ] at hndk
          obtain ⟨tp, htp⟩ : ∃ tp, topU us k = tp := ⟨_, rfl⟩
          rw [htp] at hndk
          have HXX := Lib.hid hX
          have HZZ := Lib.hid hZ
          have HH := Lib.hid hhas
          have HK := Lib.hid hndk
          obtain ⟨zw, zt, zb, zs⟩ := Z
          have HRD := Lib.hid (read_is HX3.out hhas.1 hhas.2 hndk)
          clear hm ho hx hbd hb HB2 hX hZ hhas hndk htp hl d5
          go_wp2_with fail
          refine HRD.out.mono ?_
          rintro e w4 ⟨rfl, hb⟩
          simp only
          have HB4 := Lib.hid (stepB HB3.out hb)
          replace HV := Lib.hid (HV.out.later hb)
          have HO4 := Lib.hid (HO3.out.later hb)
          have HX4 := Lib.hid (HX3.out.later hb)
          clear hb HB3 HO3 HX3 HRD x1 y1 y2 y3 y4 y5 y6 d0
          obtain ⟨r, hr⟩ : ∃ r : Int, u % 3 = r := ⟨_, rfl⟩
          have hr1 : Int.tmod u 3 = r := by rw [← hr]; exact Int.tmod_eq_emod_of_nonneg HU.out.1
          have hr2 : IntKind.u8.wrap r = r := by simp [IntKind.wrap, IntKind.bits, IntKind.signed]; omega
          have HR : Hid (0 ≤ r ∧ r < 3) := Lib.hid (by omega)
          clear hr
          have HW5 : Hid (Blk (w4.alloc (.cells #[.int .i64 zw, .int .i64 zt, .bool zb, .string zs, .int .u64 tp] 31)) w4.heap.size #[.int .i64 zw, .int .i64 zt, .bool zb, .string zs, .int .u64 tp] 31) := Blk.new _ _ _
          have hby : Below w4.heap.size w4 (w4.alloc (.cells #[.int .i64 zw, .int .i64 zt, .bool zb, .string zs, .int .u64 tp] 31)) := (Below.refl _ _).alloc (Nat.le_refl _) _
          have HB5 := Lib.hid (stepB HB4.out hby)
          replace HV := Lib.hid (HV.out.later hby)
          have HO5 := Lib.hid (HO4.out.later hby)
          have HX5 := Lib.hid (HX4.out.later hby)
          clear hby HB4 HO4 HX4
          go_upto_region 9 with (fail)
          generalize w4.alloc (.cells #[.int .i64 zw, .int .i64 zt, .bool zb, .string zs, .int .u64 tp] 31) = w5 at *
          obtain ⟨pw, hpw⟩ : ∃ p, w4.heap.size = p := ⟨_, rfl⟩
          rw [hpw] at HW5 ⊢
          clear hpw
          go_upto_block 0 with (fail)
          have HP : Hid (PA w w5 q cf a m st S0 nd us n gU cU pv (vw, vt, vb, vs) pw ((zw, zt, zb, zs), tp)) := Lib.hid ⟨HX5.out, HO5.out, HV.out, HW5.out, HB5.out⟩
          clear HX5 HO5 HV HW5 HB5
          go_cut [19] (fun s19 wx => ∃ er, s19 = .int .i64 er ∧ PD r t k L w q cf a m us n gU cU pv (vw, vt, vb, vs) pw ((zw, zt, zb, zs), tp) (.returned (.int .i64 er)) wx)
          case first =>
            rcases (show r = 0 ∨ r = 1 ∨ r = 2 by have := HR.out; omega) with rfl | rfl | rfl
            · have KS : Hid (∀ W st S nd, PA w W q cf a m st S nd us n gU cU pv (vw, vt, vb, vs) pw ((zw, zt, zb, zs), tp) → SA gU k X pv vw vt vb vs W) := fun W _ _ _ h => ⟨by rw [← HXX.out]; exact own_at h.ow hk, h.bv.cell 0, h.bv.cell 1, h.bv.cell 2, h.bv.cell 3⟩
              have K0 : Hid (SA gU k X pv vw vt vb vs w5) := KS.out _ _ _ _ HP.out
              have HC : Hid (∀ W, PA w W q cf a m st S0 nd us n gU cU pv (vw, vt, vb, vs) pw ((zw, zt, zb, zs), tp) → Calls Try.prog 11 #[.pointer (some ⟨q, 0, none⟩), .int .u64 X, .agg #[.int .i64 vw, .int .i64 vt, .bool vb, .string vs]] W (PD 0 t k L w q cf a m us n gU cU pv (vw, vt, vb, vs) pw ((zw, zt, zb, zs), tp))) := fun W h => pa_change h HD.out hk HXX.out HK.out HH.out HVO.out.2.2 HVO.out.1.2
              have hpa := HP.out
              go_upto_region 12 with (fail)
              go_region_held3 (SA gU k X pv vw vt vb vs) (first | assumption | exact K0.out | exact KS.out _ _ _ _ (by assumption) | exact KS.out _ _ _ _ (PA.later (by assumption) (below_drewN (Below.refl _ _) _))) (first
                | (go_at_call 11; refine (HC.out _ (by first | assumption | exact PA.later (by assumption) (below_drewN (Below.refl _ _) _))).mono ?_; rintro x wz ⟨er, st2, S2, nd2, N, rfl, hwt, hal, hp2⟩))
              all_goals (
                go_wp2_with fail
                go_meet
                exact ⟨er, rfl, er, st2, S2, nd2, N, rfl, hwt, hal, by first | assumption | exact PA.later (by assumption) (below_drewN (Below.refl _ _) _)⟩)
            · have x1 := own_at HP.out.ow hk
              rw [HXX.out] at x1
              have HC := Lib.hid (pa_stamp HP.out HD.out hk HXX.out HK.out HH.out (t := t))
              go_wp2_with fail
              refine HC.out.mono ?_
              rintro e w6 ⟨er, st2, S2, nd2, N, rfl, h6⟩
              have H6 := Lib.hid h6
              clear h6 HC x1
              go_wp2
              go_meet
              exact ⟨er, rfl, er, st2, S2, nd2, N, rfl, H6.out⟩
            · have x1 := own_at HP.out.ow hk
              rw [HXX.out] at x1
              have HC := Lib.hid (pa_cut HP.out HD.out hk HXX.out HK.out HH.out (t := t))
              go_wp2_with fail
              refine HC.out.mono ?_
              rintro e w6 ⟨er, st2, S2, nd2, N, rfl, h6⟩
              have H6 := Lib.hid h6
              clear h6 HC x1
              go_wp2
              go_meet
              exact ⟨er, rfl, er, st2, S2, nd2, N, rfl, H6.out⟩
          case rest =>
            obtain ⟨er, rfl, er2, st2, S2, nd2, N, he2, hwt, ha, ⟨hx, ho, hv2, hw2, hb2⟩⟩ := hcut
            cases he2
            obtain ⟨w6, rfl⟩ : ∃ w6 : World, w6 = wc := ⟨_, rfl⟩
            have HWT := Lib.hid hwt
            have HX6 := Lib.hid hx
            have HA := Lib.hid ha
            have HO6 := Lib.hid ho
            have HV6 := Lib.hid hv2
            have HW6 := Lib.hid hw2
            have HB6 := Lib.hid hb2
            clear hwt hx ha ho hv2 hw2 hb2 HP i1
            go_wp2
            go_loopw [20] (fun ix W => ∃ i : Nat, i ≤ n ∧ ix = .int .i64 i ∧ CX W w.heap.size q cf a m st2 S2 nd2 us n ∧ Ow hv W w.heap.size 24 (.slice (some ⟨gU, 0, none⟩) n cU) n us ∧ Blk W pv #[.int .i64 vw, .int .i64 vt, .bool vb, .string vs] 29 ∧ Blk W pw #[.int .i64 zw, .int .i64 zt, .bool zb, .string zs, .int .u64 tp] 31 ∧ Below w.heap.size w W) (fun ix _ => n - (intOf ix).toNat)
            case atStart => exact ⟨0, by omega, rfl, HX6.out, HO6.out, HV6.out, HW6.out, HB6.out⟩
            case round =>
              obtain ⟨i, hi, rfl, hx, ho, hv2, hw2, hb2⟩ := hrel
              clear HX6 HO6 HV6 HW6 HB6
              have HX := Lib.hid hx
              have HO := Lib.hid ho
              have HV := Lib.hid hv2
              have HW := Lib.hid hw2
              have HB := Lib.hid hb2
              clear hx ho hv2 hw2 hb2
              by_cases hlt : i < n
              · have d2 : decide ((i : Int) < (n : Int)) = true := decide_eq_true (by omega)
                have wi : IntKind.i64.wrap ((i : Int) + 1) = (i : Int) + 1 := IntWalk.i64_in _ (by omega)
                have i1 := idx48 gU n cU i (i : Int) rfl hlt
                have x1 := own_at HO.out hlt
                have hhas := HA.out.has hlt
                by_cases hik : i = k
                · obtain rfl := hik
                  have hnd := HA.out.at_
                  rw [HXX.out] at x1 hhas hnd
                  obtain ⟨⟨nw, nt, nb, ns⟩, nx⟩ := N
                  have HRD := Lib.hid (read_is HX.out hhas.1 hhas.2 hnd)
                  have q1 : ((i : Int) != (i : Int)) = false := by simp
                  clear hhas hnd
                  go_wp2_with fail
                  refine HRD.out.mono ?_
                  rintro e w7 ⟨rfl, hb⟩
                  simp only
                  have hby : Below w7.heap.size w7 (w7.alloc (.cells #[.int .i64 nw, .int .i64 nt, .bool nb, .string ns, .int .u64 nx] 31)) := (Below.refl _ _).alloc (Nat.le_refl _) _
                  have HB7 := Lib.hid (stepB (stepB HB.out hb |> Lib.hid).out hby)
                  replace HV := Lib.hid ((HV.out.later hb).later hby)
                  replace HW := Lib.hid ((HW.out.later hb).later hby)
                  have HO7 := Lib.hid ((HO.out.later hb).later hby)
                  have HX7 := Lib.hid ((HX.out.later hb).later hby)
                  have HN7 : Hid (Blk (w7.alloc (.cells #[.int .i64 nw, .int .i64 nt, .bool nb, .string ns, .int .u64 nx] 31)) w7.heap.size #[.int .i64 nw, .int .i64 nt, .bool nb, .string ns, .int .u64 nx] 31) := Blk.new _ _ _
                  clear hby hb HB HO HX HRD x1
                  go_upto_region 19 with (fail)
                  generalize w7.alloc (.cells #[.int .i64 nw, .int .i64 nt, .bool nb, .string ns, .int .u64 nx] 31) = w8 at *
                  obtain ⟨pn, hpn⟩ : ∃ p, w7.heap.size = p := ⟨_, rfl⟩
                  rw [hpn] at HN7 ⊢
                  clear hpn
                  go_wp2
                  go_quiet (fail)
                  have hby : Below w8.heap.size w8 (w8.drewN nq) := below_drewN (Below.refl _ _) _
                  replace HB7 := Lib.hid (stepB HB7.out hby)
                  replace HV := Lib.hid (HV.out.later hby)
                  replace HW := Lib.hid (HW.out.later hby)
                  replace HO7 := Lib.hid (HO7.out.later hby)
                  replace HX7 := Lib.hid (HX7.out.later hby)
                  replace HN7 := Lib.hid (HN7.out.later hby)
                  generalize w8.drewN nq = w9 at *
                  clear hby
                  go_upto_region 22 with (fail)
                  have hbn : Below w9.heap.size w9 (w9.alloc (.cells #[.int .i64 nw, .int .i64 nt, .bool nb, .string ns, .int .u64 nx] 31)) := (Below.refl _ _).alloc (Nat.le_refl _) _
                  have HBX := Lib.hid (stepB HB7.out hbn)
                  have HXX7 := Lib.hid (HX7.out.later hbn)
                  have HOX := Lib.hid (HO7.out.later hbn)
                  have HVX := Lib.hid (HV.out.later hbn)
                  have HWX := Lib.hid (HW.out.later hbn)
                  have HNX := Lib.hid (HN7.out.later hbn)
                  have HV1 := Lib.hid (HV.out.alloc (.cells #[.int .i64 zw, .int .i64 zt, .bool zb, .string zs, .int .u64 tp] 31))
                  clear hbn
                  have a0 := HW.out.cell 0
                  have a1 := HW.out.cell 1
                  have a2 := HW.out.cell 2
                  have a3 := HW.out.cell 3
                  have a4 := HW.out.cell 4
                  simp only [List.getElem?_toArray, List.getElem?_cons_zero, List.getElem?_cons_succ] at a0 a1 a2 a3 a4
                  have b0 := HNX.out.cell 0
                  have b1 := HNX.out.cell 1
                  have b2 := HNX.out.cell 2
                  have b3 := HNX.out.cell 3
                  have b4 := HNX.out.cell 4
                  simp only [List.getElem?_toArray, List.getElem?_cons_zero, List.getElem?_cons_succ] at b0 b1 b2 b3 b4
                  have v0 := HV1.out.cell 0
                  have v1 := HV1.out.cell 1
                  have v2 := HV1.out.cell 2
                  have v3 := HV1.out.cell 3
                  simp only [List.getElem?_toArray, List.getElem?_cons_zero, List.getElem?_cons_succ] at v0 v1 v2 v3
                  clear HX7 HO7 HB7 HN7 HV HW HNX HV1
                  rcases HWT.out with ⟨rfl, rfl, h⟩ | ⟨rfl, h0, h⟩ | ⟨rfl, rfl, h⟩ | ⟨rfl, h0, h⟩ | ⟨rfl, rfl, h⟩
                  all_goals (
                    cases h
                    try have e0 : (er == 0) = false := by rw [beq_eq_false_iff_ne]; exact h0
                    try clear h0
                    go_wp2
                    go_roundw
                    case rel => exact ⟨i + 1, by omega, by go_num, HXX7.out, HOX.out, HVX.out, HWX.out, HBX.out⟩
                    case measure => simp [intOf]; omega)
                · have q1 : ((i : Int) != (k : Int)) = true := by rw [bne_iff_ne]; omega
                  have hnd := HA.out.oth i hlt hik
                  obtain ⟨X2, hX2⟩ : ∃ X, us.getD i 0 = X := ⟨_, rfl⟩
                  obtain ⟨V2, hV2⟩ : ∃ V, L.getD i vn0 = V := ⟨_, rfl⟩
                  obtain ⟨tq, htq⟩ : ∃ tq, topU us i = tq := ⟨_, rfl⟩
                  rw [hX2] at x1 hhas hnd
                  rw [hV2, htq] at hnd
                  have HV2 := Lib.hid hV2
                  obtain ⟨lw, lt, lb, ls⟩ := V2
                  have HRD := Lib.hid (read_is HX.out hhas.1 hhas.2 hnd)
                  clear hhas hnd hX2 hV2 htq
                  go_wp2_with fail
                  refine HRD.out.mono ?_
                  rintro e w7 ⟨rfl, hb⟩
                  simp only
                  have hby : Below w7.heap.size w7 (w7.alloc (.cells #[.int .i64 lw, .int .i64 lt, .bool lb, .string ls, .int .u64 tq] 31)) := (Below.refl _ _).alloc (Nat.le_refl _) _
                  have HB7 := Lib.hid (stepB (stepB HB.out hb |> Lib.hid).out hby)
                  replace HV := Lib.hid ((HV.out.later hb).later hby)
                  replace HW := Lib.hid ((HW.out.later hb).later hby)
                  have HO7 := Lib.hid ((HO.out.later hb).later hby)
                  have HX7 := Lib.hid ((HX.out.later hb).later hby)
                  have HN7 : Hid (Blk (w7.alloc (.cells #[.int .i64 lw, .int .i64 lt, .bool lb, .string ls, .int .u64 tq] 31)) w7.heap.size #[.int .i64 lw, .int .i64 lt, .bool lb, .string ls, .int .u64 tq] 31) := Blk.new _ _ _
                  clear hby hb HB HO HX HRD x1 i1
                  go_upto_region 19 with (fail)
                  generalize w7.alloc (.cells #[.int .i64 lw, .int .i64 lt, .bool lb, .string ls, .int .u64 tq] 31) = w8 at *
                  obtain ⟨pn, hpn⟩ : ∃ p, w7.heap.size = p := ⟨_, rfl⟩
                  rw [hpn] at HN7 ⊢
                  clear hpn
                  obtain ⟨g, off, rfl, hg, a0, a1, a2, a3⟩ := rsl_at (HS.out _ HB7.out) hlt
                  rw [HV2.out] at a0 a1 a2 a3
                  simp only at a0 a1 a2 a3
                  have hx1 := index_run g off n c i (i : Int) rfl hlt
                  have b0 := HN7.out.cell 0
                  have b1 := HN7.out.cell 1
                  have b2 := HN7.out.cell 2
                  have b3 := HN7.out.cell 3
                  have b4 := HN7.out.cell 4
                  simp only [List.getElem?_toArray, List.getElem?_cons_zero, List.getElem?_cons_succ] at b0 b1 b2 b3 b4
                  clear hg
                  go_wp2
                  go_quiet (fail)
                  have hby : Below w8.heap.size w8 (w8.drewN nq) := below_drewN (Below.refl _ _) _
                  replace HB7 := Lib.hid (stepB HB7.out hby)
                  replace HV := Lib.hid (HV.out.later hby)
                  replace HW := Lib.hid (HW.out.later hby)
                  replace HO7 := Lib.hid (HO7.out.later hby)
                  replace HX7 := Lib.hid (HX7.out.later hby)
                  generalize w8.drewN nq = w9 at *
                  clear hby a0 a1 a2 a3 b0 b1 b2 b3 b4 HN7
                  go_wp2
                  go_roundw
                  case rel => exact ⟨i + 1, by omega, by go_num, HX7.out, HO7.out, HV.out, HW.out, HB7.out⟩
                  case measure => simp [intOf]; omega
              · obtain rfl : i = n := by omega
                have d1 : decide ((i : Int) < (i : Int)) = false := decide_eq_false (by omega)
                have HUS := Lib.hid (used_is HX.out (HA.out.usn HX.out (by omega)))
                go_wp2_with fail
                refine HUS.out.mono ?_
                rintro e w7 ⟨rfl, rfl⟩
                rcases HWT.out with ⟨rfl, rfl, h⟩ | ⟨rfl, h0, h⟩ | ⟨rfl, rfl, h⟩ | ⟨rfl, h0, h⟩ | ⟨rfl, rfl, h⟩
                all_goals (
                  clear h
                  try clear h0
                  go_wp2
                  go_ret
                  exact ⟨rfl, HB.out⟩)


set_option maxRecDepth 100000 in
theorem lifted (os : Os) (started : os.Started) (H : Type) (enc : TypeId × Value → H) :
    ReturnsInHanded {} Try.checked os 5 .any (Rows.chainAloneSpec.pre6 enc Try.prog Try.f5 Rows.chainAloneRow.domain false) (Rows.chainAloneSpec.post enc Try.prog Try.f5 false true false false) := by
  refine returnsInHanded_of_change_sized (C := Try.checked) own started (by kernel_rfl) Try.func5
    (ChangeSpec.witness6 (enc := enc) (C := Try.checked) false ⟨#[], #[.agg #[.int .i64 0, .int .i64 0, .int .i64 0, .int .i64 0, .int .i64 0, .int .i64 0, .int .i64 0, .int .i64 0], .slice none 0 0, .int .i64 0, .agg #[.int .i64 0, .int .i64 0, .bool false, .string { data := #[] }], .int .i64 0, .int .u8 0], []⟩ 8 (by kernel_rfl) (by kernel_rfl) (by kernel_rfl) (by kernel_rfl)) ?_
  intro W base args ds gs before hval0 hW _ hsz _
  have hval : ∀ (j : Nat) t v, Try.f5.params[j]? = some t → args[j]? = some v → Value.okWide Try.prog W .any base t v := hval0
  have hW' := hW
  obtain ⟨p, q, hA0, hV, hbef, _, _⟩ := hW
  have hA : DataW.TrodAll enc Try.prog W 0 (fun _ => true) true Try.f5.params.toList args.toList ds p := hA0
  rw [Try.params5] at hA hval
  obtain ⟨v0, vs0, d0, ds0, p0, q0, hargs, rfl, rfl, h0, r0⟩ := trodAll_cons hA
  obtain ⟨v1, vs1, d1, ds1, p1, q1, rfl, rfl, rfl, h1, r1⟩ := trodAll_cons r0
  obtain ⟨v2, vs2, d2, ds2, p2, q2, rfl, rfl, rfl, h2, r2⟩ := trodAll_cons r1
  obtain ⟨v3, vs3, d3, ds3, p3, q3, rfl, rfl, rfl, h3, r3⟩ := trodAll_cons r2
  obtain ⟨v4, vs4, d4, ds4, p4, q4, rfl, rfl, rfl, h4, r4⟩ := trodAll_cons r3
  obtain ⟨v5, vs5, d5, ds5, p5, q5, rfl, rfl, rfl, h5, r5⟩ := trodAll_cons r4
  obtain ⟨rfl, rfl, rfl⟩ := trodAll_nil r5
  obtain rfl : args = #[v0, v1, v2, v3, v4, v5] := by cases args; simp_all
  obtain ⟨rfl, rfl⟩ := trodVars_none hV
  obtain ⟨a0, rfl⟩ := open_conf (hval 0 43 v0 rfl rfl) h0
  obtain ⟨A1, n1, c1, L1, rfl, st1, ok1, mx1, _, _⟩ := open_vers (hval 1 38 v1 rfl rfl) h1
  obtain ⟨a2, rfl, _, _, w2⟩ := open_int Try.underlying3 (hval 2 3 v2 rfl rfl) h2
  obtain ⟨⟨s0, s1, s2, s3⟩, rfl, ok3⟩ := open_ver (hval 3 29 v3 rfl rfl) h3
  obtain ⟨a4, rfl, _, _, w4⟩ := open_int Try.underlying3 (hval 4 3 v4 rfl rfl) h4
  obtain ⟨a5, rfl, _, _, w5⟩ := open_int Try.underlying5 (hval 5 5 v5 rfl rfl) h5
  refine (walk a0 A1 n1 c1 L1 a2 s0 s1 s2 s3 a4 a5 W st1 ok1 mx1 ok3 (rg8 w5)).mono fun e W' ⟨he, hb⟩ => ?_
  subst he
  exact ⟨_, rfl, law_post laidOut (of_decide_eq_true (by kernel_rfl)) rfl Try.underlying4 rfl rfl hW' hb⟩

theorem over : Rows.chainAloneRow.holds Try.pinned (OpenSpec.ofChange Rows.chainAloneSpec) :=
  OpenClaim.holds_of_wide 5 Try.f5 rfl rfl rfl rfl rfl rfl rfl ⟨rfl, rfl, rfl, rfl, rfl⟩ rfl rfl rfl rfl rfl (by kernel_rfl) Try.func5 (by kernel_rfl)
    (of_decide_eq_true (by kernel_rfl)) (by unfold Func.isWrapper; first | (rw [if_pos (by decide +kernel)]; kernel_rfl) | (rw [if_neg (by decide +kernel)]; exact ⟨rfl, rfl⟩))
    (fun os started H enc _ => lifted os started H enc)

end Go.Proofs.Ytbncpfkoeahhpaa.chainAlone
namespace Go.Proofs.Ytbncpfkoeahhpaa
theorem chainAlone_holds : Rows.ChainAloneSaid := chainAlone.over
end Go.Proofs.Ytbncpfkoeahhpaa
