/-
Of versions that are made one ahead of the other the List is these, the last one made first; Used is how many were made; of all that are used each can be read. For any config, any versions.
-/
import Derived.Test.YtbncpfkoeahhpaaOA
import Derived.Test.YtbncpfkoeahhpaaCV
import Derived.Test.YtbncpfkoeahhpaaCP
import Derived.Test.YtbncpfkoeahhpaaRows
import Derived.Test.YtbncpfkoeahhpaaLF
namespace Go.Proofs.Ytbncpfkoeahhpaa.chainMade
open Go.ChangeShapes Go.WideShapes Go.ChangeAt Go.RowKit Go.Maps
set_option linter.unusedVariables false
set_option linter.unusedSimpArgs false

theorem own : ownKnob Try.prog.godebug = none := by kernel_rfl
theorem laidOut : laidOutB Try.prog = true := by kernel_rfl

set_option maxRecDepth 100000 in
set_option maxHeartbeats 16000000 in
theorem walk (cf : Conf) (A : Option Addr) (n c : Nat) (L : List Vn) (w : World) (hS : RSl vec 4 w A n L) (hz : ∀ v ∈ L, VOk v) (hn : n ≤ maxLen) : Calls Try.prog 4 #[.agg #[.int .i64 cf.ta, .int .i64 cf.ac, .int .i64 cf.ke, .int .i64 cf.de, .int .i64 cf.ts, .int .i64 cf.kl, .int .i64 cf.vl, .int .i64 cf.fa], .slice A n c] w (fun e w' => e = .returned (.bool true) ∧ Below w.heap.size w w') := by
  have HS : Hid (∀ W, Below w.heap.size w W → RSl vec 4 W A n L) := fun W hb => hS.later hb
  have HZ : Hid (∀ v ∈ L, v.2.2.2.size ≤ maxLen ∧ v.1 ≤ 9223372036854775807) := fun v hm => ⟨(hz v hm).2.2, (hz v hm).1.2⟩
  have HN := Lib.hid hn
  have HLN : Hid (L.length = n) := hS.1
  unfold maxLen at hn
  clear hS hz
  go_enter Try.func4, Try.ntmps4
  go_upto_region 1 with (fail)
  have HB0 : Hid (Below w.heap.size w (w.alloc (.cells #[.int .i64 cf.ta, .int .i64 cf.ac, .int .i64 cf.ke, .int .i64 cf.de, .int .i64 cf.ts, .int .i64 cf.kl, .int .i64 cf.vl, .int .i64 cf.fa] 43))) := ((Below.refl _ _).alloc (Nat.le_refl _) _)
  have HC : Hid (Blk (w.alloc (.cells #[.int .i64 cf.ta, .int .i64 cf.ac, .int .i64 cf.ke, .int .i64 cf.de, .int .i64 cf.ts, .int .i64 cf.kl, .int .i64 cf.vl, .int .i64 cf.fa] 43)) w.heap.size #[.int .i64 cf.ta, .int .i64 cf.ac, .int .i64 cf.ke, .int .i64 cf.de, .int .i64 cf.ts, .int .i64 cf.kl, .int .i64 cf.vl, .int .i64 cf.fa] 43) := (Blk.new w _ _)
  generalize w.alloc (.cells #[.int .i64 cf.ta, .int .i64 cf.ac, .int .i64 cf.ke, .int .i64 cf.de, .int .i64 cf.ts, .int .i64 cf.kl, .int .i64 cf.vl, .int .i64 cf.fa] 43) = w0 at *
  obtain ⟨pc, hpc⟩ : ∃ p, w.heap.size = p := ⟨_, rfl⟩
  rw [hpc] at HC ⊢
  clear hpc
  go_wp2_with fail
  refine (large_any A n c L _ (HS.out _ HB0.out) HN.out).mono ?_
  rintro e w1 ⟨r, rfl, hb, hlg⟩
  have HB1 := Lib.hid (stepB HB0.out hb)
  replace HC := Lib.hid (HC.out.later hb)
  clear hb HB0
  cases r with
  | true =>
    clear hlg
    go_wp2_with fail
    refine (awake_any _).mono ?_
    rintro e wz2 ⟨rfl, hb⟩
    have HBz := Lib.hid (stepB HB1.out hb)
    clear hb
    go_wp2
    go_ret
    exact ⟨rfl, HBz.out⟩
  | false =>
    have HLG := Lib.hid (hlg rfl)
    clear hlg
    go_wp2_with fail
    refine (awake_any _).mono ?_
    rintro e w2 ⟨rfl, hb⟩
    have HB2 := Lib.hid (stepB HB1.out hb)
    replace HC := Lib.hid (HC.out.later hb)
    clear hb HB1
    have c0 := HC.out.cell 0
    have c1 := HC.out.cell 1
    have c2 := HC.out.cell 2
    have c3 := HC.out.cell 3
    have c4 := HC.out.cell 4
    have c5 := HC.out.cell 5
    have c6 := HC.out.cell 6
    have c7 := HC.out.cell 7
    simp only [List.getElem?_toArray, List.getElem?_cons_zero, List.getElem?_cons_succ] at c0 c1 c2 c3 c4 c5 c6 c7
    go_wp2_with fail
    refine (build_any cf A n c L w2 (HS.out _ HB2.out) HZ.out HN.out HLG.out).mono ?_
    clear HLG c0 c1 c2 c3 c4 c5 c6 c7 HC
    rintro e w3 (⟨rfl, hb⟩ | ⟨q, a, m, st, S0, nd, us, vU, rfl, hm, hn3, ho, hx, hbd, hb⟩)
    · have HB3 := Lib.hid (stepB HB2.out hb)
      clear hb
      go_wp2
      go_ret
      exact ⟨rfl, HB3.out⟩
    · have hl := hbd.len
      rw [hl] at ho
      obtain ⟨AU, cU, rfl, _⟩ := ho.sl
      have HP3 : Hid (PU w w3 q cf a m st S0 nd us n AU cU) := Lib.hid ⟨hx.base HB2.out.size, ho.base HB2.out.size, stepB HB2.out hb⟩
      have HD := Lib.hid hbd
      have HUN := Lib.hid (hbd.us hx (by omega))
      clear hm ho hx hbd hb HB2 hl
      go_wp2
      go_loopw [8] (fun ix W => ∃ i : Nat, i ≤ n ∧ ix = .int .i64 i ∧ PU w W q cf a m st S0 nd us n AU cU) (fun ix _ => n - (intOf ix).toNat)
      case atStart => exact ⟨0, by omega, rfl, HP3.out⟩
      case round =>
        obtain ⟨i, hi, rfl, hp⟩ := hrel
        clear HP3
        have HP := Lib.hid hp
        clear hp
        by_cases hlt : i < n
        · have d2 : decide ((i : Int) < (n : Int)) = true := decide_eq_true (by omega)
          have wi : IntKind.i64.wrap ((i : Int) + 1) = (i : Int) + 1 := IntWalk.i64_in _ (by omega)
          obtain ⟨gU, cV, e9⟩ := own0 HP.out.ow (by omega)
          cases e9
          have i1 := idx48 gU n cU i (i : Int) rfl hlt
          have x1 := own_at HP.out.ow hlt
          obtain ⟨X, hX⟩ : ∃ X, us.getD i 0 = X := ⟨_, rfl⟩
          obtain ⟨Z, hZ⟩ : ∃ Z, L.getD i vn0 = Z := ⟨_, rfl⟩
          have hhas := HD.out.has hlt
          have hndk := HD.out.nd i hlt
          rw [hX] at x1 hhas hndk
          rw [hZ] at hndk
          obtain ⟨tp, htp⟩ : ∃ tp, topU us i = tp := ⟨_, rfl⟩
          rw [htp] at hndk
          have HXX := Lib.hid hX
          have HZZ := Lib.hid hZ
          have HH := Lib.hid hhas
          have HTP := Lib.hid htp
          obtain ⟨zw, zt, zb, zs⟩ := Z
          have HRD := Lib.hid (read_is HP.out.cx hhas.1 hhas.2 hndk)
          clear hX hZ hhas hndk htp
          go_wp2_with fail
          refine HRD.out.mono ?_
          rintro e w4 ⟨rfl, hb⟩
          simp only
          have hby : Below w4.heap.size w4 (w4.alloc (.cells #[.int .i64 zw, .int .i64 zt, .bool zb, .string zs, .int .u64 tp] 31)) := (Below.refl _ _).alloc (Nat.le_refl _) _
          have HM : Hid (PM w (w4.alloc (.cells #[.int .i64 zw, .int .i64 zt, .bool zb, .string zs, .int .u64 tp] 31)) q cf a m st S0 nd us n (some ⟨gU, 0, none⟩) cU w4.heap.size ((zw, zt, zb, zs), tp)) := Lib.hid ⟨(HP.out.later hb).later hby, Blk.new _ _ _⟩
          clear hb hby HP HRD x1
          go_upto_region 10 with (fail)
          generalize w4.alloc (.cells #[.int .i64 zw, .int .i64 zt, .bool zb, .string zs, .int .u64 tp] 31) = w5 at *
          obtain ⟨pn, hpn⟩ : ∃ p, w4.heap.size = p := ⟨_, rfl⟩
          rw [hpn] at HM ⊢
          clear hpn
          go_upto_if 48 with (fail)
          go_cut [11] (fun s11 wx => s11 = .int .u64 tp ∧ wx = w5)
          case first =>
            by_cases h0 : i = 0
            · have d0 : decide (0 < i) = false := decide_eq_false (by omega)
              rw [d0]
              have HT0 : Hid (tp = 0) := by show _ = _; rw [← HTP.out, h0]; rfl
              clear h0
              go_wp2
              go_meet
              first | exact ⟨by rw [HT0.out], rfl⟩ | simp [HT0.out]
            · have d0 : decide (0 < i) = true := decide_eq_true (by omega)
              rw [d0]
              have w1_ : IntKind.i64.wrap ((i : Int) - 1) = (i : Int) - 1 := IntWalk.i64_in _ (by omega)
              have i2 := idx48 gU n cU (i - 1) ((i : Int) - 1) (by omega) (by omega)
              have x2 := own_at HM.out.pu.ow (j := i - 1) (by omega)
              have HT0 : Hid (us.getD (i - 1) 0 = tp) := by show _ = _; rw [← HTP.out]; unfold topU; rw [if_neg h0]
              rw [HT0.out] at x2
              clear h0
              go_wp2
              go_meet
              first | exact ⟨rfl, rfl⟩ | simp
          case rest =>
            obtain ⟨rfl, rfl⟩ := hcut
            obtain ⟨g, off, rfl, hg, _⟩ := rsl_at (HS.out _ HM.out.pu.lo) hlt
            have hx1 := index_run g off n c i (i : Int) rfl hlt
            have KS : Hid (∀ W, PM w W q cf a m st S0 nd us n (some ⟨gU, 0, none⟩) cU pn ((zw, zt, zb, zs), tp) → SM gU i X pn zw zt zb zs tp g (off + i * 4) W) := fun W h => by
              obtain ⟨g2, off2, e, _, a0, a1, a2, a3⟩ := rsl_at (HS.out _ h.pu.lo) hlt
              cases e
              have x1 := own_at h.pu.ow hlt
              rw [HXX.out] at x1
              rw [HZZ.out] at a0 a1 a2 a3
              exact ⟨x1, h.bn.cell 0, h.bn.cell 1, h.bn.cell 2, h.bn.cell 3, h.bn.cell 4, a0, a1, a2, a3⟩
            have HC15 : Hid (∀ W, PM w W q cf a m st S0 nd us n (some ⟨gU, 0, none⟩) cU pn ((zw, zt, zb, zs), tp) → Calls Try.prog 15 #[.pointer (some ⟨q, 0, none⟩), .int .u64 X] W (RwI (bh L i) W)) := fun W h => by
              have hl := HD.out.list (by rw [HLN.out]; exact Nat.le_refl _) i hlt n (by omega)
              rw [HXX.out] at hl
              exact pu_list h.pu HH.out.1 HUN.out hl (by omega)
            have HC23 : Hid (∀ W, PM w W q cf a m st S0 nd us n (some ⟨gU, 0, none⟩) cU pn ((zw, zt, zb, zs), tp) → Calls Try.prog 23 #[.slice (some ⟨g, off, none⟩) n c, .int .i64 (i : Int)] W (RwI (bh L i) W)) := fun W h => pu_behind (HS.out _ h.pu.lo) hlt (by omega)
            have HBL : Hid ((bh L i).length ≤ 100000) := Lib.hid (by have := bh_len (L := L) (j := i) (by rw [HLN.out]; exact hlt); omega)
            have K0 : Hid (SM gU i X pn zw zt zb zs tp g (off + i * 4) wc) := KS.out _ HM.out
            have hpm := HM.out
            clear hg i1
            have i1 := idx48 gU n cU i (i : Int) rfl hlt
            go_upto_region 13 with (fail)
            go_cut [83] (fun s83 wx => s83 = .bool false ∧ PM w wx q cf a m st S0 nd us n (some ⟨gU, 0, none⟩) cU pn ((zw, zt, zb, zs), tp))
            case first =>
              go_region_held3 (SM gU i X pn zw zt zb zs tp g (off + i * 4)) (first | assumption | exact K0.out | exact KS.out _ (by assumption) | exact KS.out _ (PM.later (by assumption) (below_drewN (Below.refl _ _) _)) | exact KS.out _ (PM.later (by assumption) (Below.drew (Below.refl _ _)))) (first
                | (go_at_call 15; refine (HC15.out _ (by first | assumption | exact PM.later (by assumption) (below_drewN (Below.refl _ _) _))).mono ?_; rintro x wz ⟨A5, c5, rfl, hr5, hb5⟩; have hp5 := PM.later (by first | assumption | exact PM.later hpm (below_drewN (Below.refl _ _) _)) hb5)
                | (go_at_call 23; refine (HC23.out _ (by assumption)).mono ?_; rintro x wy ⟨A6, c6, rfl, hr6, hb6⟩; have hp6 := PM.later hp5 hb6; have hr7 := hr5.later hb6)
                | (go_at_call 22; refine (same_lists hr7 hr6 HBL.out).mono ?_; rintro x wv ⟨rfl, hb8⟩; have hp8 := PM.later hp6 hb8))
              all_goals (
                go_wp2_with fail
                go_meet
                exact ⟨rfl, by first | assumption | exact PM.later (by assumption) (below_drewN (Below.refl _ _) _)⟩)
            case rest =>
              obtain ⟨rfl, hpm2⟩ := hcut
              obtain ⟨w6, rfl⟩ : ∃ w6 : World, w6 = wc := ⟨_, rfl⟩
              have HP6 := Lib.hid hpm2.pu
              clear hpm2 hpm K0 KS HC15 HC23 HBL HM hx1
              go_wp2
              go_loopw [12] (fun kx W => ∃ j : Nat, j ≤ i ∧ kx = .int .i64 j ∧ PU w W q cf a m st S0 nd us n (some ⟨gU, 0, none⟩) cU) (fun kx _ => i - (intOf kx).toNat)
              case atStart => exact ⟨0, by omega, rfl, HP6.out⟩
              case round =>
                obtain ⟨j, hj, rfl, hp⟩ := hrel
                clear HP6
                have HP := Lib.hid hp
                clear hp
                by_cases hjl : j < i
                · have d3 : decide ((j : Int) < (i : Int)) = true := decide_eq_true (by omega)
                  have wj : IntKind.i64.wrap ((j : Int) + 1) = (j : Int) + 1 := IntWalk.i64_in _ (by omega)
                  have x1 := own_at HP.out.ow hlt
                  have x2 := own_at HP.out.ow (j := j) (by omega)
                  have i2 := idx48 gU n cU j (j : Int) rfl (by omega)
                  have hne := us_ne HD.out.nod (i := j) (j := i) (by rw [HD.out.len]; omega) (by rw [HD.out.len]; omega) (by omega)
                  rw [HXX.out] at x1 hne
                  obtain ⟨Y, hY⟩ : ∃ Y, us.getD j 0 = Y := ⟨_, rfl⟩
                  rw [hY] at x2 hne
                  have q1 : (Y == X) = false := by rw [beq_eq_false_iff_ne]; exact hne
                  clear hY hne
                  go_wp2
                  go_quiet (fail)
                  have HP7 := Lib.hid (HP.out.later (below_drewN (Below.refl _ _) nq))
                  generalize wr.drewN nq = w7 at *
                  clear x1 x2 i2 HP
                  go_wp2
                  go_roundw
                  case rel => exact ⟨j + 1, by omega, by go_num, HP7.out⟩
                  case measure => simp [intOf]; omega
                · obtain rfl : j = i := by omega
                  have d3 : decide ((j : Int) < (j : Int)) = false := decide_eq_false (by omega)
                  go_wp2
                  go_roundw
                  case rel => exact ⟨j + 1, by omega, by go_num, HP.out⟩
                  case measure => simp [intOf]; omega
        · obtain rfl : i = n := by omega
          have d1 : decide ((i : Int) < (i : Int)) = false := decide_eq_false (by omega)
          have HUS := Lib.hid (used_is HP.out.cx HUN.out)
          have q0 : ((i : Int) != (i : Int)) = false := by simp
          go_wp2_with fail
          refine HUS.out.mono ?_
          rintro e w4 ⟨rfl, rfl⟩
          clear HUS d1
          go_wp2
          go_loopw [13] (fun jx W => ∃ (j : Nat) (st : AS) (S : Nat → Prop), j ≤ i ∧ jx = .int .i64 j ∧ PU w W q cf a m st S nd us i AU cU ∧ ∀ x, hR x → isA st x = decide (x ∈ us.drop j)) (fun jx _ => i - (intOf jx).toNat)
          case atStart => exact ⟨0, st, S0, by omega, rfl, HP.out, fun x hx => by rw [List.drop_zero]; exact HD.out.is x hx⟩
          case round =>
            obtain ⟨j, st1, S1, hj, rfl, hp, his⟩ := hrel
            clear HP
            have HP := Lib.hid hp
            have HI := Lib.hid his
            clear hp his
            by_cases hlt : j < i
            · have d2 : decide ((j : Int) < (i : Int)) = true := decide_eq_true (by omega)
              have wj : IntKind.i64.wrap ((j : Int) + 1) = (j : Int) + 1 := IntWalk.i64_in _ (by omega)
              have n1 : IntKind.i64.wrap ((i : Int) - 1) = (i : Int) - 1 := IntWalk.i64_in _ (by omega)
              obtain ⟨r, hr⟩ : ∃ r, i - (j + 1) = r := ⟨_, rfl⟩
              have n2 : IntKind.i64.wrap ((i : Int) - 1 - (j : Int)) = (r : Int) := by rw [IntWalk.i64_in _ (by omega)]; omega
              have q1 : ((r : Int) != (r : Int)) = false := by simp
              obtain ⟨gU, cV, e9⟩ := own0 HP.out.ow (by omega)
              cases e9
              have i1 := idx48 gU i cU j (j : Int) rfl hlt
              have x1 := own_at HP.out.ow hlt
              have hlu : j < us.length := by rw [HD.out.len]; exact hlt
              have hhr := (HD.out.rg _ (getD_in hlu)).1
              have hhi : isA st1 (us.getD j 0) = true := by rw [HI.out _ hhr, us_cons hlu]; exact decide_eq_true (List.mem_cons_self ..)
              obtain ⟨N, hN⟩ : ∃ N, nd (us.getD j 0) = N := ⟨_, rfl⟩
              have HRD := Lib.hid (read_is HP.out.cx hhr hhi hN)
              have HF : Hid (∀ W, PU w W q cf a m st1 S1 nd us i (some ⟨gU, 0, none⟩) cU → _) := Lib.hid (fun W h => pu_free (W := W) h HD.out.nod HD.out.rg HD.out.len HI.out hlt (by omega))
              obtain ⟨X, hX⟩ : ∃ X, us.getD j 0 = X := ⟨_, rfl⟩
              rw [hX] at HF HRD x1
              rw [hr] at HF
              obtain ⟨⟨nw, nt, nb, ns⟩, nx⟩ := N
              have HXX := Lib.hid hX
              clear hr hX hhr hhi hN hlu
              go_wp2_with fail
              refine HRD.out.mono ?_
              rintro e w5 ⟨rfl, hb⟩
              simp only
              have hby : Below w5.heap.size w5 (w5.alloc (.cells #[.int .i64 nw, .int .i64 nt, .bool nb, .string ns, .int .u64 nx] 31)) := (Below.refl _ _).alloc (Nat.le_refl _) _
              have HP6 := Lib.hid ((HP.out.later hb).later hby)
              clear hby hb HRD x1 HP
              go_upto_region 26 with (fail)
              generalize w5.alloc (.cells #[.int .i64 nw, .int .i64 nt, .bool nb, .string ns, .int .u64 nx] 31) = w6 at *
              have x1 := own_at HP6.out.ow hlt
              rw [HXX.out] at x1
              go_wp2_with fail
              refine (HF.out _ HP6.out).mono ?_
              rintro e w7 ⟨rfl, st2, S2, hp2, hi2, hu2⟩
              have HP7 := Lib.hid hp2
              have HI7 := Lib.hid hi2
              have HUS := Lib.hid (used_is hp2.cx hu2)
              clear hp2 hi2 hu2 HF HP6 HI x1 i1
              go_wp2_with fail
              refine HUS.out.mono ?_
              rintro e w8 ⟨rfl, rfl⟩
              clear HUS
              go_wp2
              go_roundw
              case rel => exact ⟨j + 1, st2, S2, by omega, by go_num, HP7.out, HI7.out⟩
              case measure => simp [intOf]; omega
            · obtain rfl : j = i := by omega
              have d2 : decide ((j : Int) < (j : Int)) = false := decide_eq_false (by omega)
              have HB := Lib.hid HP.out.lo
              clear HP HI
              go_wp2
              go_ret
              exact ⟨rfl, HB.out⟩


set_option maxRecDepth 100000 in
theorem lifted (os : Os) (started : os.Started) (H : Type) (enc : TypeId × Value → H) :
    ReturnsInHanded {} Try.checked os 4 .any (Rows.chainMadeSpec.pre6 enc Try.prog Try.f4 Rows.chainMadeRow.domain false) (Rows.chainMadeSpec.post enc Try.prog Try.f4 false true false false) := by
  refine returnsInHanded_of_change_sized (C := Try.checked) own started (by kernel_rfl) Try.func4
    (ChangeSpec.witness6 (enc := enc) (C := Try.checked) false ⟨#[], #[.agg #[.int .i64 0, .int .i64 0, .int .i64 0, .int .i64 0, .int .i64 0, .int .i64 0, .int .i64 0, .int .i64 0], .slice none 0 0], []⟩ 8 (by kernel_rfl) (by kernel_rfl) (by kernel_rfl) (by kernel_rfl)) ?_
  intro W base args ds gs before hval0 hW _ hsz _
  have hval : ∀ (j : Nat) t v, Try.f4.params[j]? = some t → args[j]? = some v → Value.okWide Try.prog W .any base t v := hval0
  have hW' := hW
  obtain ⟨p, q, hA0, hV, hbef, _, _⟩ := hW
  have hA : DataW.TrodAll enc Try.prog W 0 (fun _ => true) true Try.f4.params.toList args.toList ds p := hA0
  rw [Try.params4] at hA hval
  obtain ⟨v0, vs0, d0, ds0, p0, q0, hargs, rfl, rfl, h0, r0⟩ := trodAll_cons hA
  obtain ⟨v1, vs1, d1, ds1, p1, q1, rfl, rfl, rfl, h1, r1⟩ := trodAll_cons r0
  obtain ⟨rfl, rfl, rfl⟩ := trodAll_nil r1
  obtain rfl : args = #[v0, v1] := by cases args; simp_all
  obtain ⟨rfl, rfl⟩ := trodVars_none hV
  obtain ⟨a0, rfl⟩ := open_conf (hval 0 43 v0 rfl rfl) h0
  obtain ⟨A1, n1, c1, L1, rfl, st1, ok1, mx1, _, _⟩ := open_vers (hval 1 38 v1 rfl rfl) h1
  refine (walk a0 A1 n1 c1 L1 W st1 ok1 mx1).mono fun e W' ⟨he, hb⟩ => ?_
  subst he
  exact ⟨_, rfl, law_post laidOut (of_decide_eq_true (by kernel_rfl)) rfl Try.underlying4 rfl rfl hW' hb⟩

theorem over : Rows.chainMadeRow.holds Try.pinned (OpenSpec.ofChange Rows.chainMadeSpec) :=
  OpenClaim.holds_of_wide 4 Try.f4 rfl rfl rfl rfl rfl rfl rfl ⟨rfl, rfl, rfl, rfl, rfl⟩ rfl rfl rfl rfl rfl (by kernel_rfl) Try.func4 (by kernel_rfl)
    (of_decide_eq_true (by kernel_rfl)) (by unfold Func.isWrapper; first | (rw [if_pos (by decide +kernel)]; kernel_rfl) | (rw [if_neg (by decide +kernel)]; exact ⟨rfl, rfl⟩))
    (fun os started H enc _ => lifted os started H enc)

end Go.Proofs.Ytbncpfkoeahhpaa.chainMade
namespace Go.Proofs.Ytbncpfkoeahhpaa
theorem chainMade_holds : Rows.ChainMadeSaid := chainMade.over
end Go.Proofs.Ytbncpfkoeahhpaa
