/-
Whether any list may be, what is kept of it by any floor, seen by any snapshot, whether that clashes, and whether two lists are the same, are the document's; what is handed in stays, and what is told may be written over.
-/
import Derived.Test.YteelhldioaaffaaS
namespace Go.Proofs.Yteelhldioaaffaa.keepTells
open Go.ChangeShapes Go.WideShapes Go.ChangeAt Go.RowKit
set_option linter.unusedVariables false

theorem own : ownKnob Try.prog.godebug = none := by kernel_rfl
theorem laidOut : laidOutB Try.prog = true := by kernel_rfl

set_option maxRecDepth 100000 in
set_option maxHeartbeats 8000000 in
theorem walk_in (A : Option Addr) (n c : Nat) (vs : List Ver) (A2 : Option Addr) (n2 c2 : Nat) (us : List Ver) (f : Int) (w : World) (hs : Vers w.heap.size w A n vs) (hu : Vers w.heap.size w A2 n2 us) (hc : n ≤ c) (h0 : A = none → n = 0 ∧ c = 0) :
    Calls Try.prog 4 #[.slice A n c, .slice A2 n2 c2, .int .i64 f] w fun e w' => e = .returned (.bool true) ∧ Below w.heap.size w w' := by
  have V0 := Lib.hid hs
  have V2 := Lib.hid hu
  clear hs hu
  by_cases z1 : 300 < n
  · go_enter Try.func4, Try.ntmps4
    go_wp2_with fail
    refine (awake_any _).mono ?_
    rintro e w1 ⟨rfl, hb⟩
    have H1 : Hid (Below w.heap.size w w1) := hb
    clear hb
    go_wp2_with fail
    go_ret
    exact ⟨rfl, H1.out⟩

  by_cases z2 : 300 < n2
  · go_enter Try.func4, Try.ntmps4
    go_wp2_with fail
    refine (awake_any _).mono ?_
    rintro e w1 ⟨rfl, hb⟩
    have H1 : Hid (Below w.heap.size w w1) := hb
    clear hb
    go_wp2_with fail
    go_ret
    exact ⟨rfl, H1.out⟩

  have hn : n ≤ 1000000 := by omega
  have hn2 : n2 ≤ 1000000 := by omega
  have hk1 := nkept_le vs f
  rw [V0.out.1] at hk1
  have H0 := Lib.hid h0
  clear h0
  go_enter Try.func4, Try.ntmps4
  go_wp2_with fail
  refine (own_any A n c vs _ (by omega) V0.out H0.out).mono ?_
  rintro e w1 ⟨AI, cI, rfl, hcI, hrow, hb⟩
  have VI := Lib.hid (vrow_vers hrow)
  replace V0 := Lib.hid ((V0.out.below hb).mono hb.size)
  replace V2 := Lib.hid ((V2.out.below hb).mono hb.size)
  have H1 := Lib.hid hb
  clear hb hrow H0
  have HV : Hid (∀ W, Below w1.heap.size w1 W → Vers W.heap.size W A n vs ∧ Vers W.heap.size W A2 n2 us ∧ Vers W.heap.size W AI n vs) := fun W h => ⟨(V0.out.below h).mono h.size, (V2.out.below h).mono h.size, (VI.out.below h).mono h.size⟩
  go_wp2
  go_loopw [8] (fun i wr => ∃ (r : Nat), r ≤ 2 ∧ i = .int .i64 r ∧ Below w1.heap.size w1 wr) (fun i _ => 2 - (intOf i).toNat)
  case atStart => exact ⟨0, by omega, rfl, Below.refl _ _⟩
  case round =>
    obtain ⟨r, hr, rfl, hb⟩ := hrel
    have Hb := Lib.hid hb
    clear hb
    by_cases hr2 : r < 2
    · go_wp2_with fail
      refine (Kept_any AI n cI f vs _ hn hcI (HV.out wr Hb.out).2.2).mono ?_
      rintro e w2 ⟨AK, rfl, hrow, hb2⟩
      have VK := Lib.hid (vrow_vers hrow)
      have RK := Lib.hid (hrow.rowIn Hb.out.size)
      have Hb2 := Lib.hid (stepB Hb.out hb2)
      clear hrow hb2
      go_wp2_with fail
      refine (rKept_any A n c f vs _ hn (HV.out w2 Hb2.out).1).mono ?_
      rintro e w3 ⟨AR, cR, rfl, hcR, hrow, hb3⟩
      have VR := Lib.hid (vrow_vers hrow)
      have VK3 := Lib.hid ((VK.out.below hb3).mono hb3.size)
      have RK3 := Lib.hid (RK.out.below hb3)
      have Hb3 := Lib.hid (stepB Hb2.out hb3)
      clear hrow hb3
      go_wp2_with fail
      refine (rsame_any AK AR (nkept vs f) (nkept vs f) (nkept vs f) cR (kept vs f) (kept vs f) _ VK3.out VR.out (by omega) (by omega)).mono ?_
      rintro e w4 ⟨rfl, d, hd⟩
      rw [sameB_yes.2 rfl]
      have hb4 := belowD hd
      have RK4 := Lib.hid (RK3.out.below hb4)
      have Hb4 := Lib.hid (stepB Hb3.out hb4)
      clear hd hb4 VK3 RK3 Hb3 VR VK RK Hb2 Hb
      generalize nkept vs f = nk at *
      go_wp2
      go_loopw [10] (fun j wr2 => ∃ (m : Nat), m ≤ nk ∧ j = .int .i64 m ∧ Below w1.heap.size w1 wr2 ∧ RowIn wr2 w1.heap.size AK nk) (fun j _ => nk - (intOf j).toNat)
      case atStart => exact ⟨0, by omega, rfl, Hb4.out, RK4.out⟩
      case round =>
        clear Hb4 RK4
        obtain ⟨m, hm, rfl, hb5, hrk⟩ := hrel
        have Hb5 := Lib.hid hb5
        have HR := Lib.hid hrk
        clear hb5 hrk
        by_cases hlt : m < nk
        · obtain ⟨g, cur, rfl, hg, hk, hcs⟩ := HR.out (by omega)
          have hx := index_row g nk nk m (m : Int) rfl hlt
          obtain ⟨x0, y0⟩ := blk_some hk (j := m * 4) (by omega)
          obtain ⟨x1, y1⟩ := blk_some hk (j := m * 4 + 1) (by omega)
          obtain ⟨x2, y2⟩ := blk_some hk (j := m * 4 + 2) (by omega)
          obtain ⟨x3, y3⟩ := blk_some hk (j := m * 4 + 3) (by omega)
          have f0 := hk.frozen (m * 4)
          have f1 := hk.frozen (m * 4 + 1)
          have f2 := hk.frozen (m * 4 + 2)
          have f3 := hk.frozen (m * 4 + 3)
          obtain ⟨cur', hk', hcs'⟩ := hk.setAt (o := m * 4) ⟨0, 0, false, ⟨#[115, 112, 111, 105, 108, 116]⟩⟩
          have hb6 := belowAt Hb5.out hg (m * 4) ⟨0, 0, false, ⟨#[115, 112, 111, 105, 108, 116]⟩⟩
          have HK := Lib.hid hk'
          have Hb6 := Lib.hid hb6
          clear hk hk' hb6
          go_wp2
          go_roundw
          case rel => exact ⟨m + 1, by omega, by go_num, Hb6.out, fun _ => ⟨g, cur', rfl, hg, HK.out, by omega⟩⟩
          case measure => simp [intOf]; omega
        · obtain rfl : m = nk := by omega
          go_wp2
          go_roundw
          case rel => exact ⟨r + 1, by omega, by go_num, Hb5.out⟩
          case measure => simp [intOf]; omega
    · have hr3 : ¬ (r : Int) < 2 := by omega
      go_wp2_with fail
      refine (Seen_any AI n cI f vs _ hn (HV.out wr Hb.out).2.2).mono ?_
      rintro e w5 ⟨rfl, hb5⟩
      obtain ⟨d, hd⟩ : ∃ d, seen vs f = d := ⟨_, rfl⟩
      obtain ⟨bd, hbd⟩ : ∃ bd, seenB vs f = bd := ⟨_, rfl⟩
      have Hd := Lib.hid hd
      have Hbd := Lib.hid hbd
      rw [hd, hbd]
      clear hd hbd
      simp only [Ver.agg]
      have hb6 := (stepB Hb.out hb5)
      have hb7 := hb6.alloc hb6.size (.cells #[Value.int .i64 d.w, Value.int .i64 d.ts, Value.bool d.tomb, Value.string d.val] 27)
      have Hb7 := Lib.hid hb7
      clear hb5 hb6 hb7
      go_wp2_with fail
      refine (rSeen_any A n c f vs _ hn (HV.out _ Hb7.out).1).mono ?_
      rintro e w6 ⟨rfl, hb8⟩
      rw [Hd.out, Hbd.out]
      simp only [Ver.agg]
      have bA : Blk w6 w5.heap.size (vcells d) 27 := (Blk.new w5 (vcells d) 27).below hb8 (by simp)
      have hs8 := hb8.size
      rw [World.size_alloc] at hs8
      have hl56 : w5.heap.size < w6.heap.size := by omega
      have hn56 : ¬ w5.heap.size = w6.heap.size := by omega
      have x0 := bA.cell 0
      have x1 := bA.cell 1
      have x2 := bA.cell 2
      have x3 := bA.cell 3
      simp only [vcells, List.getElem?_toArray, List.getElem?_cons_zero, List.getElem?_cons_succ] at x0 x1 x2 x3
      have hq : (d.val.toList == d.val.toList) = true := seq_yes rfl
      have hb9 := stepB Hb7.out hb8
      have hb10 := hb9.alloc hb9.size (.cells #[Value.int .i64 d.w, Value.int .i64 d.ts, Value.bool d.tomb, Value.string d.val] 27)
      have K0 := Lib.hid hb10
      clear bA hb8 hb9 hb10 Hb7
      go_wp2_with fail
      refine (legal_any AI n cI vs _ (HV.out _ K0.out).2.2 hn).mono ?_
      rintro e k1 ⟨rfl, hb⟩
      have K1 := Lib.hid (stepB K0.out hb)
      clear hb x0 x1 x2 x3
      go_wp2_with fail
      refine (rlegal_any A n c vs _ (HV.out _ K1.out).1 hn).mono ?_
      rintro e k2 ⟨rfl, hb⟩
      have K2 := Lib.hid (stepB K1.out hb)
      clear hb
      generalize legalB vs = bl
      go_wp2_with fail
      refine (clash_any AI n cI vs f _ (HV.out _ K2.out).2.2 hn).mono ?_
      rintro e _ ⟨rfl, rfl⟩
      go_wp2_with fail
      refine (rclash_any A n c vs f _ (HV.out _ K2.out).1 hn).mono ?_
      rintro e _ ⟨rfl, rfl⟩
      generalize clashB vs f = bc
      go_wp2_with fail
      refine (same_any AI A2 n n2 cI c2 vs us _ (HV.out _ K2.out).2.2 (HV.out _ K2.out).2.1 hn hn2).mono ?_
      rintro e k3 ⟨rfl, x, hd⟩
      have K3 := Lib.hid (stepB K2.out (belowD hd))
      clear hd
      go_wp2_with fail
      refine (rsame_any A A2 n n2 c c2 vs us _ (HV.out _ K3.out).1 (HV.out _ K3.out).2.1 hn hn2).mono ?_
      rintro e k4 ⟨rfl, x, hd⟩
      have K4 := Lib.hid (stepB K3.out (belowD hd))
      clear hd
      generalize sameB vs us = bs
      go_wp2_with fail
      refine (same_any AI A n n cI c vs vs _ (HV.out _ K4.out).2.2 (HV.out _ K4.out).1 hn hn).mono ?_
      rintro e k5 ⟨rfl, x, hd⟩
      have K5 := Lib.hid (stepB K4.out (belowD hd))
      clear hd
      rw [sameB_yes.2 rfl]
      go_wp2_with fail
      refine (rsame_any AI A n n cI c vs vs _ (HV.out _ K5.out).2.2 (HV.out _ K5.out).1 hn hn).mono ?_
      rintro e k6 ⟨rfl, x, hd⟩
      have K6 := Lib.hid (stepB K5.out (belowD hd))
      clear hd
      rw [sameB_yes.2 rfl]
      go_wp2_with fail
      refine (awake_any _).mono ?_
      rintro e k7 ⟨rfl, hb⟩
      have K7 := Lib.hid (stepB K6.out hb)
      clear hb
      go_wp2_with fail
      go_ret
      exact ⟨rfl, stepB H1.out K7.out⟩

theorem walk (A : Option Addr) (n c : Nat) (vs : List Ver) (A2 : Option Addr) (n2 c2 : Nat) (us : List Ver) (f : Int) (hf : (Lit.int .i64 f).wf = true) (w : World) (hs : Vers w.heap.size w A n vs) (hc : n ≤ c) (hm : n ≤ maxLen) (h0 : A = none → n = 0 ∧ c = 0) (hr : ∀ x ∈ vs, -9223372036854775808 ≤ x.ts ∧ x.ts ≤ 9223372036854775807)
    (hs2 : Vers w.heap.size w A2 n2 us) (hc2 : n2 ≤ c2) (hm2 : n2 ≤ maxLen) (h02 : A2 = none → n2 = 0 ∧ c2 = 0) (hr2 : ∀ x ∈ us, -9223372036854775808 ≤ x.ts ∧ x.ts ≤ 9223372036854775807) :
    Calls Try.prog 4 #[.slice A n c, .slice A2 n2 c2, .int .i64 f] w fun e w' => e = .returned (.bool true) ∧ Below w.heap.size w w' := walk_in A n c vs A2 n2 c2 us f w hs hs2 hc h0


set_option maxRecDepth 100000 in
theorem lifted (os : Os) (started : os.Started) (H : Type) (enc : TypeId × Value → H) :
    ReturnsInHanded {} Try.checked os 4 .any (Rows.keepTellsSpec.pre6 enc Try.prog Try.f4 Rows.keepTellsRow.domain false) (Rows.keepTellsSpec.post enc Try.prog Try.f4 false true false false) := by
  refine returnsInHanded_of_change_sized (C := Try.checked) own started (by kernel_rfl) Try.func4
    (ChangeSpec.witness6 (enc := enc) (C := Try.checked) false ⟨#[], #[.slice none 0 0, .slice none 0 0, .int .i64 0], []⟩ 8 (by kernel_rfl) (by kernel_rfl) (by kernel_rfl) (by kernel_rfl)) ?_
  intro W base args ds gs before hval0 hW _ hsz _
  have hval : ∀ (j : Nat) t v, Try.f4.params[j]? = some t → args[j]? = some v → Value.okWide Try.prog W .any base t v := hval0
  have hW' := hW
  obtain ⟨p, q, hA0, hV, hbef, _, _⟩ := hW
  have hA : DataW.TrodAll enc Try.prog W 0 (fun _ => true) true Try.f4.params.toList args.toList ds p := hA0
  rw [Try.params4] at hA hval
  obtain ⟨v0, vs0, d0, ds0, p0, q0, hargs, rfl, rfl, h0, r0⟩ := trodAll_cons hA
  obtain ⟨v1, vs1, d1, ds1, p1, q1, rfl, rfl, rfl, h1, r1⟩ := trodAll_cons r0
  obtain ⟨v2, vs2, d2, ds2, p2, q2, rfl, rfl, rfl, h2, r2⟩ := trodAll_cons r1
  obtain ⟨rfl, rfl, rfl⟩ := trodAll_nil r2
  obtain rfl : args = #[v0, v1, v2] := by cases args; simp_all
  obtain ⟨rfl, rfl⟩ := trodVars_none hV
  obtain ⟨A0, n0, c0, vv0, rfl, rd0, nc0, mx0, nl0, rg0⟩ := open_vers (hval 0 24 v0 rfl rfl) h0
  obtain ⟨A1, n1, c1, vv1, rfl, rd1, nc1, mx1, nl1, rg1⟩ := open_vers (hval 1 24 v1 rfl rfl) h1
  obtain ⟨a2, rfl, _, _, w2⟩ := open_int Try.underlying3 (hval 2 3 v2 rfl rfl) h2
  refine (walk A0 n0 c0 vv0 A1 n1 c1 vv1 a2 w2 W rd0 nc0 mx0 nl0 rg0 rd1 nc1 mx1 nl1 rg1).mono fun e W' ⟨he, hb⟩ => ?_
  subst he
  exact ⟨_, rfl, law_post laidOut (of_decide_eq_true (by kernel_rfl)) rfl Try.underlying4 rfl rfl hW' hb⟩

theorem over : Rows.keepTellsRow.holds Try.pinned (OpenSpec.ofChange Rows.keepTellsSpec) :=
  OpenClaim.holds_of_wide 4 Try.f4 rfl rfl rfl rfl rfl rfl rfl ⟨rfl, rfl, rfl, rfl, rfl⟩ rfl rfl rfl rfl rfl (by kernel_rfl) Try.func4 (by kernel_rfl)
    (of_decide_eq_true (by kernel_rfl)) (by unfold Func.isWrapper; first | (rw [if_pos (by decide +kernel)]; kernel_rfl) | (rw [if_neg (by decide +kernel)]; exact ⟨rfl, rfl⟩))
    (fun os started H enc _ => lifted os started H enc)

end Go.Proofs.Yteelhldioaaffaa.keepTells
namespace Go.Proofs.Yteelhldioaaffaa
theorem keepTells_holds : Rows.KeepTellsSaid := keepTells.over
end Go.Proofs.Yteelhldioaaffaa
