/-
Used and Room are together as many slots as there are; a slot that is told was not used. For any length of slots, any steps.
-/
import Derived.Test.YtjkohdenmiljpaaV
import Derived.Test.YtjkohdenmiljpaaLF
import Derived.Test.YtjkohdenmiljpaaRows
namespace Go.Proofs.Ytjkohdenmiljpaa.pageMany
open Go.ChangeShapes Go.WideShapes Go.ChangeAt Go.RowKit Go.Maps
set_option linter.unusedVariables false
set_option linter.unusedSimpArgs false

theorem own : ownKnob Try.prog.godebug = none := by kernel_rfl
theorem laidOut : laidOutB Try.prog = true := by kernel_rfl

abbrev SB (w0 W : World) : Prop := Below w0.heap.size w0 W
set_option maxRecDepth 100000 in
set_option maxHeartbeats 4000000 in
theorem walk (x : Int) (A : Option Addr) (n c : Nat) (S : List Stp) (w : World) (hS : Steps w.heap.size w A n S) (hn : n ≤ maxLen) : Calls Try.prog 6 #[.int .i64 x, .slice A n c] w (fun e w' => e = .returned (.bool true) ∧ Below w.heap.size w w') := by
  have HS := Lib.hid hS
  have HN := Lib.hid hn
  clear hS hn
  go_enter Try.func6, Try.ntmps6
  go_wp2_with fail
  refine (long_any A n c S w HS.out HN.out).mono ?_
  rintro e w1 ⟨⟨r, rfl⟩, rfl⟩
  cases r with
  | true =>
    go_wp2_with fail
    refine (awake_any _).mono ?_
    rintro e w2 ⟨rfl, hb⟩
    have HB := Lib.hid hb
    clear hb
    go_wp2
    go_ret
    exact ⟨rfl, HB.out⟩
  | false =>
    go_wp2_with fail
    refine (awake_any _).mono ?_
    rintro e w2 ⟨rfl, hb⟩
    have HB := Lib.hid hb
    replace HS := Lib.hid ((HS.out.below hb).mono hb.size)
    clear hb
    by_cases hx : x < 2 ∨ 4096 < x
    · have HX := Lib.hid hx
      clear hx
      go_wp2_with fail
      refine (run_no x A n c w2 HX.out).mono ?_
      rintro e w3 ⟨rfl, rfl⟩
      go_wp2
      go_ret
      exact ⟨rfl, HB.out⟩
    · obtain ⟨s, rfl⟩ : ∃ s : Nat, x = (s : Int) := ⟨x.toNat, by omega⟩
      have h2 : 2 ≤ s := by omega
      have h4 : s ≤ 4096 := by omega
      clear hx
      go_wp2_with fail
      refine (run_is A n c s S w2 HS.out HN.out h2 h4).mono ?_
      rintro e w3 ⟨p, b, m, C, bs, F, U, Au, cu, rfl, hp, hu, ho, hb⟩
      have HP := Lib.hid (hp.base HB.out.size)
      have HU := Lib.hid hu
      have HO := Lib.hid (Ow.base ho HB.out.size)
      replace HB := Lib.hid (stepB HB.out hb)
      clear hp hu ho hb
      have hUC := HU.out.len
      have hUL : U.length ≤ 4096 := by have := HP.out.at_.ok.len; omega
      have hRM := HP.out.room.2
      have hQ := Lib.hid (quo_s h2)
      have hq1 := hQ.out.1
      have hq2 := hQ.out.2
      have hq0 : ((s : Int) == 0) = false := by rw [beq_eq_false_iff_ne]; omega
      have hqs : ¬ (s = 0) := by omega
      have hqb : (s == 0) = false := by rw [beq_eq_false_iff_ne]; omega
      have hqn : 4096 / s ≤ 4096 := Nat.div_le_self _ _
      have hDV : Hid (4096 / s = 4096 / s) := rfl
      have KU : Hid (∀ W, SB w3 W → Calls Try.prog 15 #[.pointer (some ⟨p, 0, none⟩)] W fun e w' => e = .returned (.int .i64 (U.length : Nat)) ∧ W = w') := fun W hb => by
        rw [hUC]
        exact used_any _ p b _ _ _ C bs W (HP.out.later hb).at_
      have KR : Hid (∀ W, SB w3 W → Calls Try.prog 16 #[.pointer (some ⟨p, 0, none⟩)] W fun e w' => e = .returned (.int .i64 (((4096 / s : Nat) : Int) - (U.length : Nat))) ∧ Below W.heap.size W w') := fun W hb => by
        rw [hUC]
        exact room_pg _ p b s m C bs F W (HP.out.later hb) h4
      have KA : Hid (∀ W, SB w3 W → (C.length = 4096 / s → Calls Try.prog 9 #[.pointer (some ⟨p, 0, none⟩)] W fun e w' => e = .returned (.tuple #[.int .u16 0, .int .i64 41]) ∧ Below W.heap.size W w') ∧ (C.length < 4096 / s → ∃ o : Nat, (o : Int) ∉ C ∧ Calls Try.prog 9 #[.pointer (some ⟨p, 0, none⟩)] W fun e w' => e = .returned (.tuple #[.int .u16 (o : Int), .int .i64 0]) ∧ Fr W w' p b)) := fun W hb =>
        ⟨fun h => pg_full _ p b s m C bs F W (HP.out.later hb) h4 h, fun h => ⟨_, (pg_alloc_new HP.out h).1, (pg_alloc _ p b s m C bs F W (HP.out.later hb) h).mono fun e w' ⟨he, _, _, _, hf⟩ => ⟨he, hf⟩⟩⟩
      have KI : Hid (∀ W, SB w3 W → ∀ k, k < U.length → Calls Try.prog 14 #[.pointer (some ⟨p, 0, none⟩), .int .u16 (U.getD k 0)] W fun e w' => e = .returned (.bool true) ∧ Below W.heap.size W w') := fun W hb k hk => by
        have hm := (HU.out.mem _).1 (getD_mem hk)
        have := is_any _ p b _ _ _ C bs (U.getD k 0) W (HP.out.later hb).at_ (wf16 (HP.out.at_.ok.rg _ hm).1 (by have := (HP.out.at_.ok.rg _ hm).2; omega))
        rw [is_mem.2 hm] at this
        exact this
      have KS : Hid (∀ k, k < U.length → ∃ o : Nat, U.getD k 0 = (o : Int) ∧ o + s ≤ 4096 ∧ o % s = 0) := fun k hk => by
        obtain ⟨o, e, h1, h2, _⟩ := HP.out.inv.at_ ((HU.out.mem _).1 (getD_mem hk))
        exact ⟨o, e, h1, h2⟩
      have hp3 := HP.out.at_.hp
      have hb3 := HP.out.at_.own.1
      have HPB := Lib.hid hp3
      have HBB := Lib.hid hb3
      have HQQ := Lib.hid hQ.out
      clear hQ
      rw [← hUC] at hRM
      have HCU := Lib.hid hUC
      clear hUC hDV
      generalize 4096 / s = r at *
      have ws : IntKind.i64.wrap ((U.length : Int) + ((r : Int) - (U.length : Int))) = (r : Int) := by rw [IntWalk.i64_in _ (by omega)]; omega
      have K0 : Hid (SB w3 w3) := Below.refl _ _
      go_upto_region 6 with (fail)
      go_region_held3 (SB w3) (first | assumption | exact K0.out | exact stepB (by assumption) (by assumption) | exact stepB (by assumption) (below_drewN (Below.refl _ _) _)) (first
        | (go_at_call 15; refine (KU.out _ (by assumption)).mono ?_; rintro e w9 ⟨rfl, rfl⟩)
        | (go_at_call 16; refine (KR.out _ (by assumption)).mono ?_; rintro e w9 ⟨rfl, hb⟩))
      rename_i w9x hHx
      have hb9 : SB w3 w9 := by assumption
      generalize w9 = wz at *
      have HO9 := Lib.hid (Ow.later HO.out hb9)
      have HB9 := Lib.hid (stepB HB.out hb9)
      have HZ := Lib.hid hb9
      clear KU KR ws hq1 hq2 hq0 hqs hqb hb9
      go_wp2
      go_loopw [8] (fun i wr => ∃ k : Nat, k ≤ U.length ∧ i = .int .i64 k ∧ SB w3 wr) (fun i _ => U.length - (intOf i).toNat)
      case atStart => exact ⟨0, Nat.zero_le _, rfl, HZ.out⟩
      case round =>
        obtain ⟨wq, rfl⟩ : ∃ wq : World, wq = wr := ⟨_, rfl⟩
        obtain ⟨k, hk, rfl, hb⟩ := hrel
        have HR := Lib.hid hb
        clear hb
        by_cases hlt : k < U.length
        · have d5 : decide ((k : Int) < (U.length : Int)) = true := decide_eq_true (by omega)
          have wk1 : IntKind.i64.wrap ((k : Int) + 1) = (k : Int) + 1 := IntWalk.i64_in _ (by omega)
          obtain ⟨g, o, rfl, hg, hc⟩ := ow_cell HO.out hlt
          have i5 := index54 g o U.length cu k (k : Int) rfl hlt
          have KC : Hid (∀ W, SB w3 W → ∀ j, j < U.length → W.cell? ⟨g, o + j, none⟩ = some (.int .u16 (U.getD j 0))) := fun W hb j hj => (Below.cell (p := ⟨g, o + j, none⟩) hb hg).trans (hc j hj)
          have KII := Lib.hid (KI.out wq HR.out k hlt)
          obtain ⟨a, ea, ha1, ha2⟩ := KS.out k hlt
          have c1 := KC.out wq HR.out k hlt
          have HEA := Lib.hid ea
          clear hc hg
          rw [ea] at KII c1
          have m1 : Int.tmod (a : Int) (s : Int) = 0 := by rw [Int.tmod_eq_emod_of_nonneg (by omega)]; exact_mod_cast ha2
          have m2 : IntKind.i64.wrap 0 = 0 := by decide
          have hqs : ¬ (s = 0) := by omega
          have hqb : (s == 0) = false := by rw [beq_eq_false_iff_ne]; omega
          have hqb2 : ((s : Int) == 0) = false := by rw [beq_eq_false_iff_ne]; omega
          have wa : IntKind.i64.wrap ((a : Int) + (s : Int)) = (a : Int) + (s : Int) := IntWalk.i64_in _ (by omega)
          have da : decide (4096 < (a : Int) + (s : Int)) = false := decide_eq_false (by omega)
          have HMM := Lib.hid ha2
          clear ha2 ea
          go_wp2_with fail
          refine KII.out.mono ?_
          rintro e w11 ⟨rfl, hb⟩
          have HR1 := Lib.hid (stepB HR.out hb)
          have c2 := KC.out w11 (stepB HR.out hb) k hlt
          rw [HEA.out] at c2
          clear hb c1 KII
          go_wp2
          clear c2 wa da m1 m2 hqs hqb hqb2 HMM
          go_loopw [9] (fun i wr => ∃ q : Nat, q ≤ k ∧ i = .int .i64 q ∧ SB w3 wr) (fun i _ => k - (intOf i).toNat)
          case atStart => exact ⟨0, Nat.zero_le _, rfl, HR1.out⟩
          case round =>
            obtain ⟨wy, rfl⟩ : ∃ wy : World, wy = wr := ⟨_, rfl⟩
            obtain ⟨q, hq, rfl, hb⟩ := hrel
            have HY := Lib.hid hb
            clear hb
            by_cases hql : q < k
            · have d6 : decide ((q : Int) < (k : Int)) = true := decide_eq_true (by omega)
              have wq1 : IntKind.i64.wrap ((q : Int) + 1) = (q : Int) + 1 := IntWalk.i64_in _ (by omega)
              have i6 := index54 g o U.length cu q (q : Int) rfl (by omega)
              have hne := nodup_ne HU.out.nd (show q < U.length by omega) hlt (by omega)
              have hbn : (U.getD q 0 == U.getD k 0) = false := by rw [beq_eq_false_iff_ne]; exact hne
              have e1 : ∀ n, (wy.drewN n).cell? ⟨g, o + q, none⟩ = some (.int .u16 (U.getD q 0)) := fun n => KC.out _ (stepB HY.out (below_drewN (Below.refl _ _) n)) q (by omega)
              have e2 : ∀ n, (wy.drewN n).cell? ⟨g, o + k, none⟩ = some (.int .u16 (U.getD k 0)) := fun n => KC.out _ (stepB HY.out (below_drewN (Below.refl _ _) n)) k hlt
              have e3 := KC.out _ HY.out q (by omega)
              have e4 := KC.out _ HY.out k hlt
              clear hne
              generalize U.getD q 0 = u1 at *
              generalize U.getD k 0 = u2 at *
              go_upto_region 16 with (fail)
              go_quiet (fail)
              have HYQ := Lib.hid (stepB HY.out (below_drewN (Below.refl _ _) nq))
              clear e1 e2 e3 e4
              go_wp2
              go_roundw
              case rel => exact ⟨q + 1, by omega, by go_num, HYQ.out⟩
              case measure => simp [intOf]; omega
            · obtain rfl : q = k := by omega
              have d6 : decide ((q : Int) < (q : Int)) = false := decide_eq_false (by omega)
              go_wp2
              go_roundw
              case rel => exact ⟨q + 1, by omega, by go_num, HY.out⟩
              case measure => simp [intOf]; omega
        · obtain rfl : k = U.length := by omega
          have d5 : decide ((U.length : Int) < (U.length : Int)) = false := decide_eq_false (by omega)
          have KAA := Lib.hid (KA.out wq HR.out)
          by_cases hfull : C.length = r
          · have KAB := Lib.hid (KAA.out.1 hfull)
            have d8 : decide (U.length < r) = false := decide_eq_false (by have := HCU.out; omega)
            clear hfull
            go_wp2_with fail
            refine KAB.out.mono ?_
            rintro e w11 ⟨rfl, hb⟩
            have HR1 := Lib.hid (stepB HR.out hb)
            clear hb
            go_wp2
            go_loopw [12] (fun i wr => ∃ q : Nat, q ≤ U.length ∧ i = .int .i64 q ∧ SB w3 wr) (fun i _ => U.length - (intOf i).toNat)
            case atStart => exact ⟨0, Nat.zero_le _, rfl, HR1.out⟩
            case round =>
              obtain ⟨wy, rfl⟩ : ∃ wy : World, wy = wr := ⟨_, rfl⟩
              obtain ⟨q, hq, rfl, hb⟩ := hrel
              have HY := Lib.hid hb
              clear hb
              by_cases hql : q < U.length
              · have d6 : decide ((q : Int) < (U.length : Int)) = true := decide_eq_true (by omega)
                have wq1 : IntKind.i64.wrap ((q : Int) + 1) = (q : Int) + 1 := IntWalk.i64_in _ (by omega)
                go_wp2
                go_roundw
                case rel => exact ⟨q + 1, by omega, by go_num, HY.out⟩
                case measure => simp [intOf]; omega
              · obtain rfl : q = U.length := by omega
                have d6 : decide ((U.length : Int) < (U.length : Int)) = false := decide_eq_false (by omega)
                have hqs : ¬ (s = 0) := by omega
                have hqb : (s == 0) = false := by rw [beq_eq_false_iff_ne]; omega
                have hqb2 : ((s : Int) == 0) = false := by rw [beq_eq_false_iff_ne]; omega
                have hq1 : Int.tdiv 4096 (s : Int) = (r : Int) := HQQ.out.1
                have hq2 : IntKind.i64.wrap (r : Int) = (r : Int) := HQQ.out.2
                go_wp2
                go_ret
                exact ⟨rfl, stepB HB.out HY.out⟩
          · obtain ⟨ao, hao, hal⟩ := KAA.out.2 (by have := HCU.out; omega)
            have KAB := Lib.hid hal
            have d8 : decide (U.length < r) = true := decide_eq_true (by have := HCU.out; omega)
            have HNI := Lib.hid hao
            clear hfull hal hao
            go_wp2_with fail
            refine KAB.out.mono ?_
            rintro e w11 ⟨rfl, hf⟩
            have HB1 := Lib.hid (hf.below (stepB HB.out HR.out) (stepB HB.out HR.out).size HPB.out HBB.out)
            have HO1 := Lib.hid (ow_fr (Ow.later HO.out HR.out) (HP.out.later HR.out).at_ hf)
            clear hf
            go_wp2
            go_loopw [12] (fun i wr => ∃ q : Nat, q ≤ U.length ∧ i = .int .i64 q ∧ Below w11.heap.size w11 wr) (fun i _ => U.length - (intOf i).toNat)
            case atStart => exact ⟨0, Nat.zero_le _, rfl, Below.refl _ _⟩
            case round =>
              obtain ⟨wy, rfl⟩ : ∃ wy : World, wy = wr := ⟨_, rfl⟩
              obtain ⟨q, hq, rfl, hb⟩ := hrel
              have HY := Lib.hid hb
              clear hb
              by_cases hql : q < U.length
              · have d6 : decide ((q : Int) < (U.length : Int)) = true := decide_eq_true (by omega)
                have wq1 : IntKind.i64.wrap ((q : Int) + 1) = (q : Int) + 1 := IntWalk.i64_in _ (by omega)
                obtain ⟨g, o, rfl, hg, hc⟩ := ow_cell (Ow.later HO1.out HY.out) hql
                have i6 := index54 g o U.length cu q (q : Int) rfl hql
                have c1 := hc q hql
                have hne : (U.getD q 0 == (ao : Int)) = false := by
                  rw [beq_eq_false_iff_ne]
                  intro e
                  exact HNI.out (by rw [← e]; exact (HU.out.mem _).1 (getD_mem hql))
                clear hc
                generalize U.getD q 0 = u1 at *
                go_wp2
                go_roundw
                case rel => exact ⟨q + 1, by omega, by go_num, HY.out⟩
                case measure => simp [intOf]; omega
              · obtain rfl : q = U.length := by omega
                have d6 : decide ((U.length : Int) < (U.length : Int)) = false := decide_eq_false (by omega)
                have hqs : ¬ (s = 0) := by omega
                have hqb : (s == 0) = false := by rw [beq_eq_false_iff_ne]; omega
                have hqb2 : ((s : Int) == 0) = false := by rw [beq_eq_false_iff_ne]; omega
                have hq1 : Int.tdiv 4096 (s : Int) = (r : Int) := HQQ.out.1
                have hq2 : IntKind.i64.wrap (r : Int) = (r : Int) := HQQ.out.2
                go_wp2
                go_ret
                exact ⟨rfl, stepB HB1.out HY.out⟩


set_option maxRecDepth 100000 in
theorem lifted (os : Os) (started : os.Started) (H : Type) (enc : TypeId × Value → H) :
    ReturnsInHanded {} Try.checked os 6 .any (Rows.pageManySpec.pre6 enc Try.prog Try.f6 Rows.pageManyRow.domain false) (Rows.pageManySpec.post enc Try.prog Try.f6 false true false false) := by
  refine returnsInHanded_of_change_sized (C := Try.checked) own started (by kernel_rfl) Try.func6
    (ChangeSpec.witness6 (enc := enc) (C := Try.checked) false ⟨#[], #[.int .i64 0, .slice none 0 0], []⟩ 8 (by kernel_rfl) (by kernel_rfl) (by kernel_rfl) (by kernel_rfl)) ?_
  intro W base args ds gs before hval0 hW _ hsz _
  have hval : ∀ (j : Nat) t v, Try.f6.params[j]? = some t → args[j]? = some v → Value.okWide Try.prog W .any base t v := hval0
  have hW' := hW
  obtain ⟨p, q, hA0, hV, hbef, _, _⟩ := hW
  have hA : DataW.TrodAll enc Try.prog W 0 (fun _ => true) true Try.f6.params.toList args.toList ds p := hA0
  rw [Try.params6] at hA hval
  obtain ⟨v0, vs0, d0, ds0, p0, q0, hargs, rfl, rfl, h0, r0⟩ := trodAll_cons hA
  obtain ⟨v1, vs1, d1, ds1, p1, q1, rfl, rfl, rfl, h1, r1⟩ := trodAll_cons r0
  obtain ⟨rfl, rfl, rfl⟩ := trodAll_nil r1
  obtain rfl : args = #[v0, v1] := by cases args; simp_all
  obtain ⟨rfl, rfl⟩ := trodVars_none hV
  obtain ⟨a0, rfl, _, _, w0⟩ := open_int Try.underlying3 (hval 0 3 v0 rfl rfl) h0
  obtain ⟨A1, n1, c1, S1, rfl, st1, mx1, _, _⟩ := open_steps (hval 1 40 v1 rfl rfl) h1
  refine (walk a0 A1 n1 c1 S1 W st1 mx1).mono fun e W' ⟨he, hb⟩ => ?_
  subst he
  exact ⟨_, rfl, law_post laidOut (of_decide_eq_true (by kernel_rfl)) rfl Try.underlying4 rfl rfl hW' hb⟩

theorem over : Rows.pageManyRow.holds Try.pinned (OpenSpec.ofChange Rows.pageManySpec) :=
  OpenClaim.holds_of_wide 6 Try.f6 rfl rfl rfl rfl rfl rfl rfl ⟨rfl, rfl, rfl, rfl, rfl⟩ rfl rfl rfl rfl rfl (by kernel_rfl) Try.func6 (by kernel_rfl)
    (of_decide_eq_true (by kernel_rfl)) (by unfold Func.isWrapper; first | (rw [if_pos (by decide +kernel)]; kernel_rfl) | (rw [if_neg (by decide +kernel)]; exact ⟨rfl, rfl⟩))
    (fun os started H enc _ => lifted os started H enc)

end Go.Proofs.Ytjkohdenmiljpaa.pageMany
namespace Go.Proofs.Ytjkohdenmiljpaa
theorem pageMany_holds : Rows.PageManySaid := pageMany.over
end Go.Proofs.Ytjkohdenmiljpaa
