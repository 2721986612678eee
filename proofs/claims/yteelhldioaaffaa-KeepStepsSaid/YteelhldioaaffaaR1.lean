/-
What is kept by a floor, and then by a later one, is what is kept by the later one; by the same one once more all of it is; what is kept may be.
-/
import Derived.Test.YteelhldioaaffaaL
import Derived.Test.YteelhldioaaffaaM
namespace Go.Proofs.Yteelhldioaaffaa.keepSteps
open Go.ChangeShapes Go.WideShapes Go.ChangeAt Go.RowKit
set_option linter.unusedVariables false

theorem own : ownKnob Try.prog.godebug = none := by kernel_rfl
theorem laidOut : laidOutB Try.prog = true := by kernel_rfl

set_option maxRecDepth 100000 in
set_option maxHeartbeats 4000000 in
theorem walk_in (A : Option Addr) (n c : Nat) (vs : List Ver) (f g : Int) (w : World) (hs : Vers w.heap.size w A n vs) (hc : n ≤ c) :
    Calls Try.prog 6 #[.slice A n c, .int .i64 f, .int .i64 g] w fun e w' => e = .returned (.bool true) ∧ Below w.heap.size w w' := by
  have V0 := Lib.hid hs
  clear hs
  by_cases z1 : 300 < n
  · go_enter Try.func6, Try.ntmps6
    go_wp2_with fail
    refine (awake_any _).mono ?_
    rintro e w1 ⟨rfl, hb⟩
    have H1 : Hid (Below w.heap.size w w1) := hb
    clear hb
    go_wp2_with fail
    go_ret
    exact ⟨rfl, H1.out⟩

  have hn : n ≤ 1000000 := by omega
  by_cases z2 : g < f
  · go_enter Try.func6, Try.ntmps6
    go_wp2_with fail
    refine (awake_any _).mono ?_
    rintro e w1 ⟨rfl, hb⟩
    have H1 : Hid (Below w.heap.size w w1) := hb
    clear hb
    go_wp2_with fail
    go_ret
    exact ⟨rfl, H1.out⟩

  by_cases hl : LegalP vs
  case neg =>
    have HL : Hid (legalB vs = false) := legal_no hl
    clear hl
    go_enter Try.func6, Try.ntmps6
    go_wp2_with fail
    refine (rlegal_any A n c vs _ V0.out hn).mono ?_
    rintro e w1 ⟨rfl, hb⟩
    rw [HL.out]
    replace V0 := Lib.hid ((V0.out.below hb).mono hb.size)
    have H1 : Hid (Below w.heap.size w w1) := hb
    clear hb
    go_wp2_with fail
    refine (awake_any _).mono ?_
    rintro e w2 ⟨rfl, hb⟩
    replace V0 := Lib.hid ((V0.out.below hb).mono hb.size)
    have H2 : Hid (Below w.heap.size w w2) := stepB H1.out hb
    clear hb H1
    go_wp2_with fail
    go_ret
    exact ⟨rfl, H2.out⟩

  have HL : Hid (legalB vs = true) := legal_yes hl
  have hfg : f ≤ g := by omega
  have HLK : Hid (legalB (kept vs f) = true) := legal_yes (legal_kept hl f)
  have HG : Hid (kept (kept vs f) g = kept vs g ∧ nkept (kept vs f) g = nkept vs g) := ⟨kept_kept vs hfg, nkept_kept vs hfg⟩
  have HF : Hid (kept (kept vs f) f = kept vs f ∧ nkept (kept vs f) f = nkept vs f) := ⟨kept_kept vs (Int.le_refl f), nkept_kept vs (Int.le_refl f)⟩
  have hk1 := nkept_le vs f
  have hk2 := nkept_le vs g
  rw [V0.out.1] at hk1 hk2
  clear hl hfg
  go_enter Try.func6, Try.ntmps6
  go_wp2_with fail
  refine (rlegal_any A n c vs _ V0.out hn).mono ?_
  rintro e w1 ⟨rfl, hb⟩
  rw [HL.out]
  replace V0 := Lib.hid ((V0.out.below hb).mono hb.size)
  have H1 : Hid (Below w.heap.size w w1) := hb
  clear hb
  go_wp2_with fail
  refine (awake_any _).mono ?_
  rintro e w2 ⟨rfl, hb⟩
  replace V0 := Lib.hid ((V0.out.below hb).mono hb.size)
  have H2 : Hid (Below w.heap.size w w2) := stepB H1.out hb
  clear hb H1
  go_wp2_with fail
  refine (Kept_any A n c f vs _ hn hc V0.out).mono ?_
  rintro e w3 ⟨A_K, rfl, hrow, hb⟩
  have V_K := Lib.hid (vrow_vers hrow)
  clear hrow
  replace V0 := Lib.hid ((V0.out.below hb).mono hb.size)
  have H3 : Hid (Below w.heap.size w w3) := stepB H2.out hb
  clear hb H2
  generalize kept vs f = K at *
  generalize nkept vs f = nk at *
  go_wp2_with fail
  refine (legal_any A_K nk nk K _ V_K.out (by omega)).mono ?_
  rintro e w4 ⟨rfl, hb⟩
  rw [HLK.out]
  replace V0 := Lib.hid ((V0.out.below hb).mono hb.size)
  replace V_K := Lib.hid ((V_K.out.below hb).mono hb.size)
  have H4 : Hid (Below w.heap.size w w4) := stepB H3.out hb
  clear hb H3
  go_wp2_with fail
  refine (rlegal_any A_K nk nk K _ V_K.out (by omega)).mono ?_
  rintro e w5 ⟨rfl, hb⟩
  rw [HLK.out]
  replace V0 := Lib.hid ((V0.out.below hb).mono hb.size)
  replace V_K := Lib.hid ((V_K.out.below hb).mono hb.size)
  have H5 : Hid (Below w.heap.size w w5) := stepB H4.out hb
  clear hb H4
  go_wp2_with fail
  refine (Kept_any A_K nk nk g K _ (by omega) (Nat.le_refl _) V_K.out).mono ?_
  rintro e w6 ⟨A_J, rfl, hrow, hb⟩
  have V_J := Lib.hid (vrow_vers hrow)
  clear hrow
  replace V0 := Lib.hid ((V0.out.below hb).mono hb.size)
  replace V_K := Lib.hid ((V_K.out.below hb).mono hb.size)
  have H6 : Hid (Below w.heap.size w w6) := stepB H5.out hb
  clear hb H5
  rw [HG.out.1, HG.out.2] at V_J
  rw [HG.out.2]
  go_wp2_with fail
  refine (Kept_any A n c g vs _ hn hc V0.out).mono ?_
  rintro e w7 ⟨A_I, rfl, hrow, hb⟩
  have V_I := Lib.hid (vrow_vers hrow)
  clear hrow
  replace V0 := Lib.hid ((V0.out.below hb).mono hb.size)
  replace V_K := Lib.hid ((V_K.out.below hb).mono hb.size)
  replace V_J := Lib.hid ((V_J.out.below hb).mono hb.size)
  have H7 : Hid (Below w.heap.size w w7) := stepB H6.out hb
  clear hb H6
  generalize kept vs g = J at *
  generalize nkept vs g = nj at *
  go_wp2_with fail
  refine (rsame_any A_J A_I nj nj nj nj J J _ V_J.out V_I.out (by omega) (by omega)).mono ?_
  rintro e w8 ⟨rfl, d, hd⟩
  rw [sameB_yes.2 rfl]
  have hb := belowD hd
  clear hd
  replace V0 := Lib.hid ((V0.out.below hb).mono hb.size)
  replace V_K := Lib.hid ((V_K.out.below hb).mono hb.size)
  replace V_J := Lib.hid ((V_J.out.below hb).mono hb.size)
  replace V_I := Lib.hid ((V_I.out.below hb).mono hb.size)
  have H8 : Hid (Below w.heap.size w w8) := stepB H7.out hb
  clear hb H7
  go_wp2_with fail
  refine (Kept_any A_K nk nk f K _ (by omega) (Nat.le_refl _) V_K.out).mono ?_
  rintro e w9 ⟨A_M, rfl, hrow, hb⟩
  have V_M := Lib.hid (vrow_vers hrow)
  clear hrow
  replace V0 := Lib.hid ((V0.out.below hb).mono hb.size)
  replace V_K := Lib.hid ((V_K.out.below hb).mono hb.size)
  replace V_J := Lib.hid ((V_J.out.below hb).mono hb.size)
  replace V_I := Lib.hid ((V_I.out.below hb).mono hb.size)
  have H9 : Hid (Below w.heap.size w w9) := stepB H8.out hb
  clear hb H8
  rw [HF.out.1, HF.out.2] at V_M
  rw [HF.out.2]
  go_wp2_with fail
  refine (rsame_any A_M A_K nk nk nk nk K K _ V_M.out V_K.out (by omega) (by omega)).mono ?_
  rintro e w10 ⟨rfl, d, hd⟩
  rw [sameB_yes.2 rfl]
  have hb := belowD hd
  clear hd
  replace V0 := Lib.hid ((V0.out.below hb).mono hb.size)
  replace V_K := Lib.hid ((V_K.out.below hb).mono hb.size)
  replace V_J := Lib.hid ((V_J.out.below hb).mono hb.size)
  replace V_I := Lib.hid ((V_I.out.below hb).mono hb.size)
  replace V_M := Lib.hid ((V_M.out.below hb).mono hb.size)
  have H10 : Hid (Below w.heap.size w w10) := stepB H9.out hb
  clear hb H9
  go_wp2_with fail
  go_ret
  exact ⟨rfl, H10.out⟩

theorem walk (A : Option Addr) (n c : Nat) (vs : List Ver) (f : Int) (hf : (Lit.int .i64 f).wf = true) (g : Int) (hg : (Lit.int .i64 g).wf = true) (w : World) (hs : Vers w.heap.size w A n vs) (hc : n ≤ c) (hm : n ≤ maxLen) (h0 : A = none → n = 0 ∧ c = 0) (hr : ∀ x ∈ vs, -9223372036854775808 ≤ x.ts ∧ x.ts ≤ 9223372036854775807) :
    Calls Try.prog 6 #[.slice A n c, .int .i64 f, .int .i64 g] w fun e w' => e = .returned (.bool true) ∧ Below w.heap.size w w' := walk_in A n c vs f g w hs hc


set_option maxRecDepth 100000 in
theorem lifted (os : Os) (started : os.Started) (H : Type) (enc : TypeId × Value → H) :
    ReturnsInHanded {} Try.checked os 6 .any (Rows.keepStepsSpec.pre6 enc Try.prog Try.f6 Rows.keepStepsRow.domain false) (Rows.keepStepsSpec.post enc Try.prog Try.f6 false true false false) := by
  refine returnsInHanded_of_change_sized (C := Try.checked) own started (by kernel_rfl) Try.func6
    (ChangeSpec.witness6 (enc := enc) (C := Try.checked) false ⟨#[], #[.slice none 0 0, .int .i64 0, .int .i64 0], []⟩ 8 (by kernel_rfl) (by kernel_rfl) (by kernel_rfl) (by kernel_rfl)) ?_
  intro W base args ds gs before hval0 hW _ hsz _
  have hval : ∀ (j : Nat) t v, Try.f6.params[j]? = some t → args[j]? = some v → Value.okWide Try.prog W .any base t v := hval0
  have hW' := hW
  obtain ⟨p, q, hA0, hV, hbef, _, _⟩ := hW
  have hA : DataW.TrodAll enc Try.prog W 0 (fun _ => true) true Try.f6.params.toList args.toList ds p := hA0
  rw [Try.params6] at hA hval
  obtain ⟨v0, vs0, d0, ds0, p0, q0, hargs, rfl, rfl, h0, r0⟩ := trodAll_cons hA
  obtain ⟨v1, vs1, d1, ds1, p1, q1, rfl, rfl, rfl, h1, r1⟩ := trodAll_cons r0
  obtain ⟨v2, vs2, d2, ds2, p2, q2, rfl, rfl, rfl, h2, r2⟩ := trodAll_cons r1
  obtain ⟨rfl, rfl, rfl⟩ := trodAll_nil r2
  obtain rfl : args = #[v0, v1, v2] := by cases args; simp_all
  obtain ⟨rfl, rfl⟩ := trodVars_none hV
  obtain ⟨A0, n0, c0, vv0, rfl, rd0, nc0, mx0, nl0, rg0⟩ := open_vers (hval 0 24 v0 rfl rfl) h0
  obtain ⟨a1, rfl, _, _, w1⟩ := open_int Try.underlying3 (hval 1 3 v1 rfl rfl) h1
  obtain ⟨a2, rfl, _, _, w2⟩ := open_int Try.underlying3 (hval 2 3 v2 rfl rfl) h2
  refine (walk A0 n0 c0 vv0 a1 w1 a2 w2 W rd0 nc0 mx0 nl0 rg0).mono fun e W' ⟨he, hb⟩ => ?_
  subst he
  exact ⟨_, rfl, law_post laidOut (of_decide_eq_true (by kernel_rfl)) rfl Try.underlying4 rfl rfl hW' hb⟩

theorem over : Rows.keepStepsRow.holds Try.pinned (OpenSpec.ofChange Rows.keepStepsSpec) :=
  OpenClaim.holds_of_wide 6 Try.f6 rfl rfl rfl rfl rfl rfl rfl ⟨rfl, rfl, rfl, rfl, rfl⟩ rfl rfl rfl rfl rfl (by kernel_rfl) Try.func6 (by kernel_rfl)
    (of_decide_eq_true (by kernel_rfl)) (by unfold Func.isWrapper; first | (rw [if_pos (by decide +kernel)]; kernel_rfl) | (rw [if_neg (by decide +kernel)]; exact ⟨rfl, rfl⟩))
    (fun os started H enc _ => lifted os started H enc)

end Go.Proofs.Yteelhldioaaffaa.keepSteps
namespace Go.Proofs.Yteelhldioaaffaa
theorem keepSteps_holds : Rows.KeepStepsSaid := keepSteps.over
end Go.Proofs.Yteelhldioaaffaa
