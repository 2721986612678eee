/-
As many slots as are given back are told again, the last one first, and all 00; the slots of a new page. For any length of slots, any steps, how many are given back.
-/
import Derived.Test.YtjkohdenmiljpaaV3
import Derived.Test.YtjkohdenmiljpaaLF
import Derived.Test.YtjkohdenmiljpaaRows
namespace Go.Proofs.Ytjkohdenmiljpaa.pageLast
open Go.ChangeShapes Go.WideShapes Go.ChangeAt Go.RowKit Go.Maps
set_option linter.unusedVariables false
set_option linter.unusedSimpArgs false

theorem own : ownKnob Try.prog.godebug = none := by kernel_rfl
theorem laidOut : laidOutB Try.prog = true := by kernel_rfl

set_option maxRecDepth 100000 in
set_option maxHeartbeats 8000000 in
theorem walk (x : Int) (A : Option Addr) (n c : Nat) (S : List Stp) (y : Int) (w : World) (hS : Steps w.heap.size w A n S) (hn : n ≤ maxLen) : Calls Try.prog 7 #[.int .i64 x, .slice A n c, .int .i64 y] w (fun e w' => e = .returned (.bool true) ∧ Below w.heap.size w w') := by
  have HS := Lib.hid hS
  have HN := Lib.hid hn
  clear hS hn
  obtain ⟨Y, hY⟩ : ∃ Y : Nat, IntKind.u64.wrap y = (Y : Int) ∧ Y < 18446744073709551616 := ⟨(y % 18446744073709551616).toNat, by simp [IntKind.wrap, IntKind.bits, IntKind.signed]; omega, by omega⟩
  have HY := Lib.hid hY.1
  clear hY
  obtain ⟨R, hR⟩ : ∃ R : Nat, R = Y % 50 ∧ R < 50 := ⟨_, rfl, Nat.mod_lt _ (by omega)⟩
  have HR : Hid (Int.tmod (Y : Int) 50 = (R : Int) ∧ IntKind.u64.wrap (R : Int) = (R : Int) ∧ IntKind.i64.wrap (R : Int) = (R : Int)) := by
    have hR2 := hR.2
    refine ⟨by rw [Int.tmod_eq_emod_of_nonneg (by omega), hR.1]; simp, by simp [IntKind.wrap, IntKind.bits, IntKind.signed]; omega, IntWalk.i64_in _ (by omega)⟩
  have hR50 := hR.2
  clear hR
  go_enter Try.func7, Try.ntmps7
  go_wp2_with fail
  refine (long_any A n c S w HS.out HN.out).mono ?_
  rintro e w1 ⟨⟨r, rfl⟩, rfl⟩
  cases r with
  | true =>
    go_wp2_with fail
    refine (awake_any _).mono ?_
    rintro e w2 ⟨rfl, hb⟩
    have HB := Lib.hid hb
    clear hb
    go_wp2
    go_ret
    exact ⟨rfl, HB.out⟩
  | false =>
    go_wp2_with fail
    refine (awake_any _).mono ?_
    rintro e w2 ⟨rfl, hb⟩
    have HB := Lib.hid hb
    replace HS := Lib.hid ((HS.out.below hb).mono hb.size)
    clear hb
    by_cases hx : x < 2 ∨ 4096 < x
    · have HX := Lib.hid hx
      clear hx
      go_wp2_with fail
      refine (run_no x A n c w2 HX.out).mono ?_
      rintro e w3 ⟨rfl, rfl⟩
      go_wp2
      go_ret
      exact ⟨rfl, HB.out⟩
    · obtain ⟨s, rfl⟩ : ∃ s : Nat, x = (s : Int) := ⟨x.toNat, by omega⟩
      have h2 : 2 ≤ s := by omega
      have h4 : s ≤ 4096 := by omega
      clear hx
      go_wp2_with fail
      refine (run_is A n c s S w2 HS.out HN.out h2 h4).mono ?_
      rintro e w3 ⟨p, b, m, C, bs, F, U, Au, cu, rfl, hp, hu, ho, hb⟩
      have hUL : U.length ≤ 4096 := by have := hp.at_.ok.len; have := hu.len; omega
      have HPP : Hid (w.heap.size ≤ p ∧ w.heap.size ≤ b) := by have := HB.out.size; have := hp.at_.hp; have := hp.at_.own.1; exact ⟨by omega, by omega⟩
      have HP := Lib.hid (hp.base HB.out.size)
      have HU := Lib.hid hu
      have HO := Lib.hid (Ow.base ho HB.out.size)
      replace HB := Lib.hid (stepB HB.out hb)
      have HRU : Hid (∀ z ∈ U, 0 ≤ z) := fun z hz => (hp.at_.ok.rg z ((hu.mem z).1 hz)).1
      clear hp hu ho hb HS
      obtain ⟨M, hM⟩ : ∃ M : Nat, M = min R U.length := ⟨_, rfl⟩
      have hM1 := run_min R U.length M hM
      have hMU : M ≤ U.length := by omega
      have hM5 : M < 50 := by omega
      have y1 := HY.out
      have y2 := HR.out.1
      have y3 := HR.out.2.1
      have y4 := HR.out.2.2
      clear hM
      go_wp2
      clear y1 y2 y3 y4 hM1
      go_loopw [10] (fun i wr => ∃ (k : Nat) (C1 bs1 : List Int), k ≤ M ∧ i = .int .i64 k ∧ Pg wr w.heap.size p b s m C1 bs1 (chF U k F) ∧ (∀ z ∈ U.drop k, z ∈ C1) ∧ Ow uv wr w.heap.size 23 (.slice Au U.length cu) U.length U ∧ Below w.heap.size w wr) (fun i _ => M - (intOf i).toNat)
      case atStart => exact ⟨0, C, bs, Nat.zero_le _, rfl, HP.out, fun z hz => (HU.out.mem z).1 hz, HO.out, HB.out⟩
      case round =>
        obtain ⟨wq, rfl⟩ : ∃ wq : World, wq = wr := ⟨_, rfl⟩
        obtain ⟨k, C1, bs1, hk, rfl, hp, hd, ho, hb⟩ := hrel
        replace HP := Lib.hid hp
        have HD := Lib.hid hd
        replace HO := Lib.hid ho
        replace HB := Lib.hid hb
        clear hp hd ho hb
        by_cases hlt : k < M
        · have d5 : decide ((k : Int) < (M : Int)) = true := decide_eq_true (by omega)
          have wk1 : IntKind.i64.wrap ((k : Int) + 1) = (k : Int) + 1 := IntWalk.i64_in _ (by omega)
          obtain ⟨g, o, rfl, hg, hc⟩ := ow_cell HO.out (show k < U.length by omega)
          have i5 := index54 g o U.length cu k (k : Int) rfl (by omega)
          have c5 := hc k (by omega)
          have HFR := Lib.hid (pg_free_to w.heap.size p b s m C1 bs1 (chF U k F) (U.getD k 0) wq HP.out (HD.out _ (drop_mem (by omega))))
          have HDS : Hid (∀ z ∈ U.drop (k + 1), z ∈ delC C1 (U.getD k 0)) := fun z hz => by
            have h := drop_sub (show k < U.length by omega) HU.out.nd hz
            exact mem_del.2 ⟨HD.out z h.1, h.2⟩
          have HCH := Lib.hid (chF_succ (F := F) (show k < U.length by omega))
          clear hc hg
          generalize U.getD k 0 = u at *
          go_wp2_with fail
          refine HFR.out.mono ?_
          rintro e w4 ⟨rfl, ⟨bs2, hp⟩, hf⟩
          replace HO := Lib.hid (ow_fr HO.out HP.out.at_ hf)
          replace HB := Lib.hid (hf.below HB.out HB.out.size HPP.out.1 HPP.out.2)
          replace HP := Lib.hid hp
          clear hp hf HFR c5
          go_wp2
          go_roundw
          case rel => exact ⟨k + 1, _, bs2, by omega, by go_num, by rw [HCH.out]; exact HP.out, HDS.out, HO.out, HB.out⟩
          case measure => simp [intOf]; omega
        · obtain rfl : k = M := by omega
          have d5 : decide ((k : Int) < (k : Int)) = false := decide_eq_false (by omega)
          have wm : IntKind.i64.wrap ((k : Int) - 1) = (k : Int) - 1 := IntWalk.i64_in _ (by omega)
          clear HD
          go_wp2
          go_loopw [11] (fun i wr => ∃ (q : Nat) (C1 bs1 : List Int), q ≤ k ∧ i = .int .i64 ((q : Int) - 1) ∧ Pg wr w.heap.size p b s m C1 bs1 (chF U q F) ∧ Ow uv wr w.heap.size 23 (.slice Au U.length cu) U.length U ∧ Below w.heap.size w wr) (fun i _ => (intOf i + 1).toNat)
          case atStart => exact ⟨k, C1, bs1, Nat.le_refl _, rfl, HP.out, HO.out, HB.out⟩
          case round =>
            obtain ⟨w8, rfl⟩ : ∃ w8 : World, w8 = wr := ⟨_, rfl⟩
            obtain ⟨q, C2, bs2, hq, rfl, hp, ho, hb⟩ := hrel
            replace HP := Lib.hid hp
            replace HO := Lib.hid ho
            replace HB := Lib.hid hb
            clear hp ho hb wm
            cases q with
            | zero =>
              have d6 : decide (((0 : Nat) : Int) - 1 < 0) = true := by decide
              have d7 : decide ((0 : Int) ≤ ((0 : Nat) : Int) - 1) = false := by decide
              clear HO
              go_wp2_with fail
              refine (pg_new s w8 h2 h4).mono ?_
              rintro e w9 ⟨rfl, hp, hb⟩
              have HQ := Lib.hid (hp.base HB.out.size)
              have HPB : Hid (w.heap.size ≤ w8.heap.size + 1 ∧ w.heap.size ≤ w8.heap.size) := by have := HB.out.size; exact ⟨by omega, by omega⟩
              replace HB := Lib.hid (stepB HB.out hb)
              clear hp hb HP
              obtain ⟨rr, hrr⟩ : ∃ rr : Nat, 4096 / s = rr := ⟨_, rfl⟩
              have hqs := quo_s h2
              rw [hrr] at hqs
              have hq1 := hqs.1
              have hq2 := hqs.2
              have hz1 : ¬ (s = 0) := by omega
              have hz2 : (s == 0) = false := by rw [beq_eq_false_iff_ne]; omega
              have hz3 : ((s : Int) == 0) = false := by rw [beq_eq_false_iff_ne]; omega
              obtain ⟨L, hL⟩ : ∃ L : Nat, L = min rr 60 := ⟨_, rfl⟩
              have hLr : L ≤ 4096 / s := by omega
              have HLR := Lib.hid hLr
              have hL6 : L ≤ 60 := by omega
              have hm : ∀ W, (Builtin.min_ #[3, 3] 3 #[.int .i64 (rr : Int), .int .i64 60]).run Try.prog W = .ok (.int .i64 (L : Int)) W := fun W => run_min rr 60 L hL W
              clear hqs hL hLr hrr
              generalize w8.heap.size + 1 = p2 at *
              generalize w8.heap.size = b2 at *
              go_wp2
              go_loopw [18] (fun i wr => ∃ (k : Nat) (C1 bs1 : List Int), k ≤ L ∧ i = .int .i64 k ∧ Pg wr w.heap.size p2 b2 s k C1 bs1 [] ∧ Below w.heap.size w wr) (fun i _ => L - (intOf i).toNat)
              case atStart => exact ⟨0, _, _, Nat.zero_le _, rfl, HQ.out, HB.out⟩
              case round =>
                obtain ⟨w10, rfl⟩ : ∃ w10 : World, w10 = wr := ⟨_, rfl⟩
                obtain ⟨k3, C3, bs3, hk3, rfl, hp, hb⟩ := hrel
                replace HQ := Lib.hid hp
                replace HB := Lib.hid hb
                clear hp hb
                by_cases hlt3 : k3 < L
                · have d9 : decide ((k3 : Int) < (L : Int)) = true := decide_eq_true (by omega)
                  have wk3 : IntKind.i64.wrap ((k3 : Int) + 1) = (k3 : Int) + 1 := IntWalk.i64_in _ (by omega)
                  have HFS := Lib.hid (pg_fresh w.heap.size p2 b2 s k3 C3 bs3 w10 HQ.out (by have := HLR.out; omega))
                  obtain ⟨t, ht⟩ : ∃ t : Nat, k3 * s = t := ⟨_, rfl⟩
                  have ht4 : t ≤ 60 * 4096 := by rw [← ht]; exact Nat.mul_le_mul (by omega) h4
                  have hti : (k3 : Int) * (s : Int) = (t : Int) := by rw [← ht]; simp
                  have htw : IntKind.i64.wrap (t : Int) = (t : Int) := IntWalk.i64_in _ (by omega)
                  rw [ht] at HFS
                  clear ht
                  go_wp2_with fail
                  refine HFS.out.mono ?_
                  rintro e w11 ⟨rfl, ⟨C4, bs4, hp⟩, hf⟩
                  replace HB := Lib.hid (hf.below HB.out HB.out.size HPB.out.1 HPB.out.2)
                  replace HQ := Lib.hid hp
                  clear hp hf HFS
                  go_wp2
                  go_roundw
                  case rel => exact ⟨k3 + 1, C4, bs4, by omega, by go_num, HQ.out, HB.out⟩
                  case measure => simp [intOf]; omega
                · obtain rfl : k3 = L := by omega
                  have d9 : decide ((k3 : Int) < (k3 : Int)) = false := decide_eq_false (by omega)
                  go_wp2
                  go_ret
                  exact ⟨rfl, HB.out⟩
            | succ j =>
              have d7 : decide ((0 : Int) ≤ ((j + 1 : Nat) : Int) - 1) = true := decide_eq_true (by omega)
              have ej : ((j + 1 : Nat) : Int) - 1 = (j : Int) := by omega
              have wj : IntKind.i64.wrap ((j : Int) - 1) = (j : Int) - 1 := IntWalk.i64_in _ (by omega)
              have dj : (0 : Int) ≤ (j : Int) := by omega
              have dj2 : decide ((0 : Int) ≤ (j : Int)) = true := decide_eq_true dj
              rw [ej]
              clear d7 ej
              have HCH := Lib.hid (chF_succ (F := F) (show j < U.length by omega))
              obtain ⟨g, o, rfl, hg, hc⟩ := ow_cell HO.out (show j < U.length by omega)
              have i5 := index54 g o U.length cu j (j : Int) rfl (by omega)
              have KC : Hid (∀ W, Ow uv W w.heap.size 23 (.slice (some ⟨g, o, none⟩) U.length cu) U.length U → W.cell? ⟨g, o + j, none⟩ = some (.int .u16 (U.getD j 0))) := fun W hW => by
                obtain ⟨g', o', e, _, hc⟩ := ow_cell hW (show j < U.length by omega)
                cases e
                exact hc j (by omega)
              have hu0 : 0 ≤ U.getD j 0 := by
                exact HRU.out _ (getD_mem (by omega))
              rw [HCH.out] at HP
              have HBK := Lib.hid (pg_back w.heap.size p b s m C2 bs2 (chF U j F) (U.getD j 0) hu0 w8 HP.out)
              clear hc hg hu0 HCH
              generalize U.getD j 0 = u at *
              go_wp2_with fail
              refine HBK.out.mono ?_
              rintro e w9 ⟨rfl, ⟨C3, bs3, hp, hm3, hr3⟩, hf⟩
              replace HO := Lib.hid (ow_fr HO.out HP.out.at_ hf)
              replace HB := Lib.hid (hf.below HB.out HB.out.size HPP.out.1 HPP.out.2)
              replace HP := Lib.hid hp
              have HRD := Lib.hid (read_pg w.heap.size p b s m C3 bs3 (chF U j F) u w9 hp hm3)
              rw [hr3] at HRD
              clear hp hf HBK hm3 hr3
              go_wp2_with fail
              refine HRD.out.mono ?_
              rintro e w10 ⟨rfl, hb⟩
              replace HO := Lib.hid (Ow.later HO.out hb)
              replace HP := Lib.hid (HP.out.later hb)
              replace HB := Lib.hid (stepB HB.out hb)
              have c5 := KC.out w10 HO.out
              have hmk := mk_z s (by omega) w10
              have hcv := conv_z s w10
              have hb6 : Below w10.heap.size w10 (w10.alloc (.cells (madeCells #[.int .u8 0] s) 5)) := (Below.refl _ _).alloc (Nat.le_refl _) _
              have HO6 := Lib.hid (Ow.later HO.out hb6)
              have HP6 := Lib.hid (HP.out.later hb6)
              have HB6 := Lib.hid (stepB HB.out hb6)
              clear hb HRD KC hb6
              generalize strOfNums (List.replicate s 0) = st at *
              generalize madeCells #[Value.int .u8 0] s = zs at *
              go_wp2
              go_roundw
              case rel => exact ⟨j, C3, bs3, by omega, rfl, HP6.out, HO6.out, HB6.out⟩
              case measure => simp [intOf]


set_option maxRecDepth 100000 in
theorem lifted (os : Os) (started : os.Started) (H : Type) (enc : TypeId × Value → H) :
    ReturnsInHanded {} Try.checked os 7 .any (Rows.pageLastSpec.pre6 enc Try.prog Try.f7 Rows.pageLastRow.domain false) (Rows.pageLastSpec.post enc Try.prog Try.f7 false true false false) := by
  refine returnsInHanded_of_change_sized (C := Try.checked) own started (by kernel_rfl) Try.func7
    (ChangeSpec.witness6 (enc := enc) (C := Try.checked) false ⟨#[], #[.int .i64 0, .slice none 0 0, .int .i64 0], []⟩ 8 (by kernel_rfl) (by kernel_rfl) (by kernel_rfl) (by kernel_rfl)) ?_
  intro W base args ds gs before hval0 hW _ hsz _
  have hval : ∀ (j : Nat) t v, Try.f7.params[j]? = some t → args[j]? = some v → Value.okWide Try.prog W .any base t v := hval0
  have hW' := hW
  obtain ⟨p, q, hA0, hV, hbef, _, _⟩ := hW
  have hA : DataW.TrodAll enc Try.prog W 0 (fun _ => true) true Try.f7.params.toList args.toList ds p := hA0
  rw [Try.params7] at hA hval
  obtain ⟨v0, vs0, d0, ds0, p0, q0, hargs, rfl, rfl, h0, r0⟩ := trodAll_cons hA
  obtain ⟨v1, vs1, d1, ds1, p1, q1, rfl, rfl, rfl, h1, r1⟩ := trodAll_cons r0
  obtain ⟨v2, vs2, d2, ds2, p2, q2, rfl, rfl, rfl, h2, r2⟩ := trodAll_cons r1
  obtain ⟨rfl, rfl, rfl⟩ := trodAll_nil r2
  obtain rfl : args = #[v0, v1, v2] := by cases args; simp_all
  obtain ⟨rfl, rfl⟩ := trodVars_none hV
  obtain ⟨a0, rfl, _, _, w0⟩ := open_int Try.underlying3 (hval 0 3 v0 rfl rfl) h0
  obtain ⟨A1, n1, c1, S1, rfl, st1, mx1, _, _⟩ := open_steps (hval 1 40 v1 rfl rfl) h1
  obtain ⟨a2, rfl, _, _, w2⟩ := open_int Try.underlying3 (hval 2 3 v2 rfl rfl) h2
  refine (walk a0 A1 n1 c1 S1 a2 W st1 mx1).mono fun e W' ⟨he, hb⟩ => ?_
  subst he
  exact ⟨_, rfl, law_post laidOut (of_decide_eq_true (by kernel_rfl)) rfl Try.underlying4 rfl rfl hW' hb⟩

theorem over : Rows.pageLastRow.holds Try.pinned (OpenSpec.ofChange Rows.pageLastSpec) :=
  OpenClaim.holds_of_wide 7 Try.f7 rfl rfl rfl rfl rfl rfl rfl ⟨rfl, rfl, rfl, rfl, rfl⟩ rfl rfl rfl rfl rfl (by kernel_rfl) Try.func7 (by kernel_rfl)
    (of_decide_eq_true (by kernel_rfl)) (by unfold Func.isWrapper; first | (rw [if_pos (by decide +kernel)]; kernel_rfl) | (rw [if_neg (by decide +kernel)]; exact ⟨rfl, rfl⟩))
    (fun os started H enc _ => lifted os started H enc)

end Go.Proofs.Ytjkohdenmiljpaa.pageLast
namespace Go.Proofs.Ytjkohdenmiljpaa
theorem pageLast_holds : Rows.PageLastSaid := pageLast.over
end Go.Proofs.Ytjkohdenmiljpaa
