/-
Whatever is asked of a page, each answer is the document's, and all that is told; a copy goes its own way. For any length of slots, any steps.
-/
import Derived.Test.YtjkohdenmiljpaaZ9
import Derived.Test.YtjkohdenmiljpaaLF
import Derived.Test.YtjkohdenmiljpaaRows
import Derived.Deep.RegionHeld3
namespace Go.Proofs.Ytjkohdenmiljpaa.pagePlays
open Go.ChangeShapes Go.WideShapes Go.ChangeAt Go.RowKit Go.Maps
set_option linter.unusedVariables false
set_option linter.unusedSimpArgs false

theorem own : ownKnob Try.prog.godebug = none := by kernel_rfl
theorem laidOut : laidOutB Try.prog = true := by kernel_rfl

set_option maxRecDepth 100000 in
set_option maxHeartbeats 8000000 in
theorem walk (x : Int) (A : Option Addr) (n c : Nat) (S : List Stp) (w : World) (hS : Steps w.heap.size w A n S) (hn : n ≤ maxLen) : Calls Try.prog 4 #[.int .i64 x, .slice A n c] w (fun e w' => e = .returned (.bool true) ∧ Below w.heap.size w w') := by
  have HS := Lib.hid hS
  have HN := Lib.hid hn
  clear hS
  unfold maxLen at hn
  go_enter Try.func4, Try.ntmps4
  go_wp2_with fail
  refine (long_any A n c S w HS.out HN.out).mono ?_
  rintro e w1 ⟨⟨r, rfl⟩, rfl⟩
  cases r with
  | true =>
    go_wp2_with fail
    refine (awake_any _).mono ?_
    rintro e w2 ⟨rfl, hb⟩
    have HB := Lib.hid hb
    clear hb
    go_wp2
    go_ret
    exact ⟨rfl, HB.out⟩
  | false =>
    by_cases hx : x < 2 ∨ 4096 < x
    · have HX := Lib.hid hx
      clear hx
      go_wp2_with fail
      refine (new_no x w HX.out).mono ?_
      rintro e w3 ⟨rfl, rfl⟩
      go_wp2_with fail
      refine (dnew_no x w HX.out).mono ?_
      rintro e w3 ⟨rfl, rfl⟩
      go_wp2_with fail
      refine (awake_any _).mono ?_
      rintro e w2 ⟨rfl, hb⟩
      have HB := Lib.hid hb
      clear hb
      go_wp2
      go_ret
      exact ⟨rfl, HB.out⟩
    · obtain ⟨s, rfl⟩ : ∃ s : Nat, x = (s : Int) := ⟨x.toNat, by omega⟩
      have h2 : 2 ≤ s := by omega
      have h4 : s ≤ 4096 := by omega
      clear hx
      go_wp2_with fail
      refine (pg_new s w h2 h4).mono ?_
      rintro e w2 ⟨rfl, hp, hb⟩
      have HP0 : Hid (PgS w2 w.heap.size (w.heap.size + 1) w.heap.size s (0, [], List.replicate 4096 0, [])) := Lib.hid hp
      have HB2 := Lib.hid hb
      clear hp hb
      generalize w.heap.size + 1 = p at *
      obtain ⟨b, hbq⟩ : ∃ b, w.heap.size = b := ⟨_, rfl⟩
      have HP1 : Hid (PgS w2 w.heap.size p b s (0, [], List.replicate 4096 0, [])) := Lib.hid (by rw [← hbq]; rw [← hbq] at *; exact HP0.out)
      clear HP0 hbq
      go_wp2_with fail
      refine (dnew_any s w2 h2 h4).mono ?_
      rintro e w3 ⟨rfl, hd, hb⟩
      have HPR : Hid (Pr w3 w.heap.size p b w2.heap.size s (0, [], List.replicate 4096 0, [])) := Lib.hid ⟨HP1.out.later hb, _, _, _, _, _, _, hd.base HB2.out.size, rel_new⟩
      have HB3 := Lib.hid (stepB HB2.out hb)
      clear hd hb HP1 HB2
      generalize w2.heap.size = q at *
      generalize ((0, [], List.replicate 4096 0, []) : PS) = st0 at *
      go_wp2
      go_loopw [9] (fun i wr => ∃ (k : Nat) (st : PS), k ≤ n ∧ i = .int .i64 k ∧ Pr wr w.heap.size p b q s st ∧ Below w.heap.size w wr) (fun i _ => n - (intOf i).toNat)
      case atStart => exact ⟨0, _, Nat.zero_le _, rfl, HPR.out, HB3.out⟩
      case round =>
        obtain ⟨k, st, hk, rfl, hp, hb⟩ := hrel
        obtain ⟨w4, rfl⟩ : ∃ w4 : World, w4 = wr := ⟨_, rfl⟩
        replace HPR := Lib.hid hp
        replace HB3 := Lib.hid hb
        clear hp hb
        by_cases hlt : k < n
        · have d2 : decide ((k : Int) < (n : Int)) = true := decide_eq_true (by omega)
          have wk : IntKind.i64.wrap ((k : Int) + 1) = (k : Int) + 1 := IntWalk.i64_in _ (by omega)
          obtain ⟨m7, hm7⟩ : ∃ m : Int, (k : Int) % 7 = m := ⟨_, rfl⟩
          have hm8 : Int.tmod (k : Int) 7 = m7 := by rw [← hm7]; exact Int.tmod_eq_emod_of_nonneg (by omega)
          have hm9 : IntKind.i64.wrap m7 = m7 := IntWalk.i64_in _ (by omega)
          obtain ⟨m5, hm5⟩ : ∃ m : Int, (k : Int) % 5 = m := ⟨_, rfl⟩
          have hm6 : Int.tmod (k : Int) 5 = m5 := by rw [← hm5]; exact Int.tmod_eq_emod_of_nonneg (by omega)
          have hm4 : IntKind.i64.wrap m5 = m5 := IntWalk.i64_in _ (by omega)
          obtain ⟨g, off, rfl, hg, hcell⟩ := HS.out.2 (by omega)
          have i1 := sindex g off n c k (k : Int) rfl hlt
          obtain ⟨hc, hok⟩ := hcell k hlt
          obtain ⟨⟨kd, sa, so, sst⟩, hx⟩ : ∃ x, S.getD k stp0 = x := ⟨_, rfl⟩
          rw [hx] at hc hok
          obtain ⟨x0, x1, x2, x3⟩ := hc
          simp only at x0 x1 x2 x3
          have HOK := Lib.hid hok
          have K0 : Hid (∀ W, Below w.heap.size w W → W.cell? ⟨g, off + k * 4, none⟩ = some (.int .u8 kd) ∧ W.cell? ⟨g, off + k * 4 + 1, none⟩ = some (.int .u16 sa) ∧ W.cell? ⟨g, off + k * 4 + 2, none⟩ = some (.int .u16 so) ∧ W.cell? ⟨g, off + k * 4 + 3, none⟩ = some (.string sst)) := fun W hb => ⟨(hb.cell (p := ⟨g, off + k * 4, none⟩) hg).trans x0, (hb.cell (p := ⟨g, off + k * 4 + 1, none⟩) hg).trans x1, (hb.cell (p := ⟨g, off + k * 4 + 2, none⟩) hg).trans x2, (hb.cell (p := ⟨g, off + k * 4 + 3, none⟩) hg).trans x3⟩
          have HM5 := Lib.hid (And.intro hm6 hm4)
          clear hcell hx hok x0 x1 x2 x3 hg hm6 hm4 hm5 hm7
          go_upto_if 58 with (fail)
          go_cut [10, 11] (fun s10 s11 wx => ∃ pc qc : Nat, s10 = .pointer (some ⟨pc, 0, none⟩) ∧ s11 = .pointer (some ⟨qc, 0, none⟩) ∧ All w wx p b q s st pc qc)
          case first =>
            by_cases h3 : m7 = 3
            · have e3 : (m7 == 3) = true := by rw [h3]; rfl
              clear h3
              have HPG := Lib.hid HPR.out.1
              go_wp2_with fail
              refine (copy_any w.heap.size p b s st.1 st.2.1 st.2.2.1 st.2.2.2 w4 HPG.out).mono ?_
              rintro x w5 ⟨pc, bc, rfl, hpc, hb⟩
              have HPC : Hid (PgS w5 w4.heap.size pc bc s st) := Lib.hid hpc
              have HP5 := Lib.hid (HPR.out.later hb)
              have HB5 := Lib.hid (stepB HB3.out hb)
              have HW5 := Lib.hid hb
              clear hpc hb
              have HCY : Hid (Calls Try.prog 22 #[.pointer (some ⟨q, 0, none⟩)] w5 (CpD s st w5)) := by
                obtain ⟨h1, Bs, Us, Bk, vB, vU, vK, hd, hr⟩ := HP5.out
                exact dcopy_any w.heap.size q s st Bs Us Bk vB vU vK w5 hd hr h1.inv h4
              go_wp2_with fail
              refine HCY.out.mono ?_
              rintro x w6 ⟨qc, Bs2, Us2, Bk2, vB2, vU2, vK2, rfl, hd2, hr2, hb⟩
              have hA : All w w6 p b q s st pc qc := by
                have hz := HW5.out.size
                obtain ⟨h1, Bs, Us, Bk, vB, vU, vK, hd, hr⟩ := HPR.out
                have ha := Pg.at_ h1
                have hl := hd.lt
                have hbb : Below w4.heap.size w4 w6 := stepB HW5.out hb
                exact ⟨Bs, Us, Bk, vB, vU, vK, h1.later hbb, hd.later hbb, hr, stepB HB5.out hb, .inr ⟨w4.heap.size, bc, ⟨HPC.out.later hb, _, _, _, _, _, _, hd2.base hz, hr2⟩, HB3.out.size, ha.plt, ha.blt, hl.1, fun k e => (hl.2.1 k e).2, fun k e => (hl.2.2.1 k e).2⟩⟩
              have HA := Lib.hid hA
              clear hA hd2 hr2 hb HCY HPC HP5 HB5 HW5 HPG
              go_wp2
              go_meet
              exact ⟨pc, qc, rfl, rfl, HA.out⟩
            · have e3 : (m7 == 3) = false := by rw [beq_eq_false_iff_ne]; exact h3
              clear h3
              go_wp2
              go_meet
              exact ⟨p, q, rfl, rfl, All.same HPR.out HB3.out⟩
          case rest =>
            obtain ⟨pc, qc, rfl, rfl, hA⟩ := hcut
            obtain ⟨w5, rfl⟩ : ∃ w5 : World, w5 = wc := ⟨_, rfl⟩
            clear HPR HB3 hm8 hm9
            obtain ⟨Bs, Us, Bk, vB, vU, vK, h1, hd, hr, hb, hc⟩ := hA
            obtain ⟨y0, y1, y2, y3⟩ := K0.out _ hb
            have HA1 := Lib.hid h1
            have HD1 := Lib.hid hd
            have HC1 := Lib.hid hc
            have HB5 := Lib.hid hb
            have HDO := Lib.hid (do_any w.heap.size p b q s st Bs Us Bk vB vU vK kd sa so sst w5 h1 hd hr hb.size h4 HOK.out.1 HOK.out.2.1)
            clear h1 hd hr hb hc
            generalize stS s (kd, sa, so, sst) st = st1 at *
            go_wp2_with fail
            refine HDO.out.mono ?_
            rintro e w6 ⟨rfl, hp1, hd1, hf⟩
            have HP6 : Hid (Pr w6 w.heap.size p b q s st1) := Lib.hid ⟨hp1, hd1⟩
            have HQ6 := Lib.hid (All.done HA1.out HD1.out HB5.out HC1.out HP6.out hf)
            clear hp1 hd1 hf HDO HA1 HD1 HC1 HB5 y0 y1 y2 y3
            obtain ⟨hb6, bc, st2, hp2⟩ := HQ6.out
            have HB6 := Lib.hid hb6
            have HC6 := Lib.hid hp2
            clear hb6 hp2 HQ6
            have U1 := Lib.hid (pr_used HP6.out)
            generalize hL1 : st1.2.1.length = L1 at *
            go_wp2_with fail
            refine U1.out.1.mono ?_
            rintro e w7 ⟨rfl, rfl⟩
            go_wp2_with fail
            refine U1.out.2.mono ?_
            rintro e w7 ⟨rfl, rfl⟩
            have R1 := Lib.hid (fun W (hb : Below w6.heap.size w6 W) => pr_room (HP6.out.later hb) h4)
            have HL1 := Lib.hid hL1
            clear hL1 U1
            obtain ⟨R, hR⟩ : ∃ R : Int, ((4096 / s : Nat) : Int) - (st1.2.1.length : Nat) = R := ⟨_, rfl⟩
            rw [hR] at R1
            have HRR := Lib.hid hR
            clear hR
            go_wp2_with fail
            refine (R1.out _ (Below.refl _ _)).1.mono ?_
            rintro e w7 ⟨rfl, hb⟩
            have HB7 := Lib.hid hb
            clear hb
            go_wp2_with fail
            refine (R1.out _ HB7.out).2.mono ?_
            rintro e w8 ⟨rfl, hb⟩
            have HB8 := Lib.hid (stepB HB7.out hb)
            clear hb R1 HB7
            have U2 := Lib.hid (pr_used (HC6.out.later HB8.out))
            generalize hL2 : st2.2.1.length = L2 at *
            have HL2 := Lib.hid hL2
            clear hL2
            go_wp2_with fail
            refine U2.out.1.mono ?_
            rintro e w9 ⟨rfl, rfl⟩
            go_wp2_with fail
            refine U2.out.2.mono ?_
            rintro e w9 ⟨rfl, rfl⟩
            replace HP6 := Lib.hid (HP6.out.later HB8.out)
            replace HC6 := Lib.hid (HC6.out.later HB8.out)
            replace HB6 := Lib.hid (stepB HB6.out HB8.out)
            clear U2 HB8 HRR HL1 HL2
            have hm6 := HM5.out.1
            have hm4 := HM5.out.2
            have HPQ := Lib.hid HP6.out
            obtain ⟨h1, Bs', Us', Bk', vB', vU', vK', hd', hr'⟩ := HPQ.out
            have hul : Us'.length ≤ 4096 := by
              have := hr'.um
              have hms := Inv.le h1.inv
              have hs2 := Inv.s2 h1.inv
              have : st1.1 * 2 ≤ st1.1 * s := Nat.mul_le_mul_left _ hs2
              omega
            have HKS : Hid (∀ j, j < Us'.length → j * s + s ≤ 4096) := fun j hj => by
              have := hr'.um
              have hms := Inv.le h1.inv
              have h5 : (j + 1) * s ≤ st1.1 * s := Nat.mul_le_mul_right _ (by omega)
              rw [Nat.add_mul, Nat.one_mul] at h5
              omega
            have HDD := Lib.hid hd'
            obtain ⟨AU, cU, rfl, _⟩ := Ow.sl hd'.oU
            clear h1 hd' hr' HPQ
            by_cases h5 : m5 = 4
            · have e5 : (m5 == 4) = true := by rw [h5]; rfl
              clear h5
              go_wp2
              go_loopw [12] (fun i wr => ∃ j : Nat, j ≤ Us'.length ∧ i = .int .i64 j ∧ Below w8.heap.size w8 wr) (fun i _ => Us'.length - (intOf i).toNat)
              case atStart => exact ⟨0, Nat.zero_le _, rfl, Below.refl _ _⟩
              case round =>
                obtain ⟨w10, rfl⟩ : ∃ w10 : World, w10 = wr := ⟨_, rfl⟩
                obtain ⟨j, hj, rfl, hb⟩ := hrel
                have HB10 := Lib.hid hb
                clear hb
                have c2 := (HDD.out.later HB10.out).blk.cell 2
                simp only [List.getElem?_toArray, List.getElem?_cons_zero, List.getElem?_cons_succ] at c2
                by_cases hjl : j < Us'.length
                · have d5 : decide ((j : Int) < (Us'.length : Int)) = true := decide_eq_true (by omega)
                  have d5' : decide (j < Us'.length) = true := decide_eq_true (by omega)
                  have wj : IntKind.i64.wrap ((j : Int) + 1) = (j : Int) + 1 := IntWalk.i64_in _ (by omega)
                  obtain ⟨t, ht⟩ : ∃ t : Nat, j * s = t := ⟨_, rfl⟩
                  have hks := HKS.out j hjl
                  have ht4 : t ≤ 4096 := by omega
                  have hti : (j : Int) * (s : Int) = (t : Int) := by rw [← ht]; simp
                  have htw : IntKind.i64.wrap (t : Int) = (t : Int) := IntWalk.i64_in _ (by omega)
                  have htu : IntKind.u16.wrap (t : Int) = (t : Int) := by simp [IntKind.wrap, IntKind.bits, IntKind.signed]; omega
                  have P1 := Lib.hid (fun W (hb : Below w10.heap.size w10 W) => pr_read (HP6.out.later (stepB HB10.out hb)) (t : Int) (by omega) (by omega))
                  have P2 := Lib.hid (fun W (hb : Below w10.heap.size w10 W) => pr_read (HC6.out.later (stepB HB10.out hb)) (t : Int) (by omega) (by omega))
                  have P3 := Lib.hid (fun W (hb : Below w10.heap.size w10 W) => pr_is (HP6.out.later (stepB HB10.out hb)) (t : Int) (by omega) (by omega))
                  generalize rdT s (t : Int) st1 = t1 at *
                  generalize rdE (t : Int) st1 = r1 at *
                  generalize rdT s (t : Int) st2 = t2 at *
                  generalize rdE (t : Int) st2 = r2 at *
                  generalize isC st1.2.1 (t : Int) = bb at *
                  clear ht hks
                  go_wp2_with fail
                  refine (P1.out _ (Below.refl _ _)).1.mono ?_
                  rintro e w11 ⟨rfl, hb⟩
                  have HB11 := Lib.hid hb
                  clear hb c2 hti htw htu
                  go_wp2_with fail
                  refine (P1.out _ HB11.out).2.mono ?_
                  rintro e w12 ⟨rfl, rfl⟩
                  go_wp2_with fail
                  refine (P2.out _ HB11.out).1.mono ?_
                  rintro e w12 ⟨rfl, hb⟩
                  have HB12 := Lib.hid (stepB HB11.out hb)
                  clear hb
                  go_wp2_with fail
                  refine (P2.out _ HB12.out).2.mono ?_
                  rintro e w13 ⟨rfl, rfl⟩
                  go_wp2_with fail
                  refine (P3.out _ HB12.out).1.mono ?_
                  rintro e w13 ⟨rfl, hb⟩
                  have HB13 := Lib.hid (stepB HB12.out hb)
                  clear hb
                  go_wp2_with fail
                  refine (P3.out _ HB13.out).2.mono ?_
                  rintro e w14 ⟨rfl, rfl⟩
                  have HB14 := Lib.hid (stepB HB10.out HB13.out)
                  clear P1 P2 P3 HB13 HB12 HB11
                  go_wp2
                  go_roundw
                  case rel => exact ⟨j + 1, by omega, by go_num, HB14.out⟩
                  case measure => simp [intOf]; omega
                · obtain rfl : j = Us'.length := by omega
                  have d5 : decide ((Us'.length : Int) < (Us'.length : Int)) = false := decide_eq_false (by omega)
                  have HP9 := Lib.hid (HP6.out.later HB10.out)
                  have HB9 := Lib.hid (stepB HB6.out HB10.out)
                  clear HP6 HC6 HB6 HB10
                  go_wp2
                  go_roundw
                  case rel => exact ⟨k + 1, st1, by omega, by go_num, HP9.out, HB9.out⟩
                  case measure => simp [intOf]; omega
            · have e5 : (m5 == 4) = false := by rw [beq_eq_false_iff_ne]; exact h5
              clear h5
              go_wp2
              go_loopw [12] (fun i wr => i = .int .i64 0 ∧ w8 = wr) (fun i _ => 0)
              case atStart => exact ⟨rfl, rfl⟩
              case round =>
                obtain ⟨rfl, rfl⟩ := hrel
                have c2 := HDD.out.blk.cell 2
                simp only [List.getElem?_toArray, List.getElem?_cons_zero, List.getElem?_cons_succ] at c2
                by_cases h0 : 0 < Us'.length
                · have d5 : decide ((0 : Int) < (Us'.length : Int)) = true := decide_eq_true (by omega)
                  go_wp2
                  go_roundw
                  case rel => exact ⟨k + 1, st1, by omega, by go_num, HP6.out, HB6.out⟩
                  case measure => simp [intOf]; omega
                · have d5 : decide ((0 : Int) < (Us'.length : Int)) = false := decide_eq_false (by omega)
                  go_wp2
                  go_roundw
                  case rel => exact ⟨k + 1, st1, by omega, by go_num, HP6.out, HB6.out⟩
                  case measure => simp [intOf]; omega
        · obtain rfl : k = n := by omega
          have d2 : decide ((k : Int) < (k : Int)) = false := decide_eq_false (by omega)
          go_wp2_with fail
          refine (awake_any _).mono ?_
          rintro e w5 ⟨rfl, hb⟩
          replace HB3 := Lib.hid (stepB HB3.out hb)
          clear hb
          go_wp2
          go_ret
          exact ⟨rfl, HB3.out⟩


set_option maxRecDepth 100000 in
theorem lifted (os : Os) (started : os.Started) (H : Type) (enc : TypeId × Value → H) :
    ReturnsInHanded {} Try.checked os 4 .any (Rows.pagePlaysSpec.pre6 enc Try.prog Try.f4 Rows.pagePlaysRow.domain false) (Rows.pagePlaysSpec.post enc Try.prog Try.f4 false true false false) := by
  refine returnsInHanded_of_change_sized (C := Try.checked) own started (by kernel_rfl) Try.func4
    (ChangeSpec.witness6 (enc := enc) (C := Try.checked) false ⟨#[], #[.int .i64 0, .slice none 0 0], []⟩ 8 (by kernel_rfl) (by kernel_rfl) (by kernel_rfl) (by kernel_rfl)) ?_
  intro W base args ds gs before hval0 hW _ hsz _
  have hval : ∀ (j : Nat) t v, Try.f4.params[j]? = some t → args[j]? = some v → Value.okWide Try.prog W .any base t v := hval0
  have hW' := hW
  obtain ⟨p, q, hA0, hV, hbef, _, _⟩ := hW
  have hA : DataW.TrodAll enc Try.prog W 0 (fun _ => true) true Try.f4.params.toList args.toList ds p := hA0
  rw [Try.params4] at hA hval
  obtain ⟨v0, vs0, d0, ds0, p0, q0, hargs, rfl, rfl, h0, r0⟩ := trodAll_cons hA
  obtain ⟨v1, vs1, d1, ds1, p1, q1, rfl, rfl, rfl, h1, r1⟩ := trodAll_cons r0
  obtain ⟨rfl, rfl, rfl⟩ := trodAll_nil r1
  obtain rfl : args = #[v0, v1] := by cases args; simp_all
  obtain ⟨rfl, rfl⟩ := trodVars_none hV
  obtain ⟨a0, rfl, _, _, w0⟩ := open_int Try.underlying3 (hval 0 3 v0 rfl rfl) h0
  obtain ⟨A1, n1, c1, S1, rfl, st1, mx1, _, _⟩ := open_steps (hval 1 40 v1 rfl rfl) h1
  refine (walk a0 A1 n1 c1 S1 W st1 mx1).mono fun e W' ⟨he, hb⟩ => ?_
  subst he
  exact ⟨_, rfl, law_post laidOut (of_decide_eq_true (by kernel_rfl)) rfl Try.underlying4 rfl rfl hW' hb⟩

theorem over : Rows.pagePlaysRow.holds Try.pinned (OpenSpec.ofChange Rows.pagePlaysSpec) :=
  OpenClaim.holds_of_wide 4 Try.f4 rfl rfl rfl rfl rfl rfl rfl ⟨rfl, rfl, rfl, rfl, rfl⟩ rfl rfl rfl rfl rfl (by kernel_rfl) Try.func4 (by kernel_rfl)
    (of_decide_eq_true (by kernel_rfl)) (by unfold Func.isWrapper; first | (rw [if_pos (by decide +kernel)]; kernel_rfl) | (rw [if_neg (by decide +kernel)]; exact ⟨rfl, rfl⟩))
    (fun os started H enc _ => lifted os started H enc)

end Go.Proofs.Ytjkohdenmiljpaa.pagePlays
namespace Go.Proofs.Ytjkohdenmiljpaa
theorem pagePlays_holds : Rows.PagePlaysSaid := pagePlays.over
end Go.Proofs.Ytjkohdenmiljpaa
