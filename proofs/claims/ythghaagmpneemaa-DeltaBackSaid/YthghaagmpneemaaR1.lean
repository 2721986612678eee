/-
Apply of Make is the older value, and what Apply takes Make tells; of whatever two values and bytes; no condition.
-/
import Derived.Test.YthghaagmpneemaaLF
import Derived.Test.YthghaagmpneemaaW
import Derived.ChangeMaps5
namespace Go.Proofs.Ythghaagmpneemaa.deltaBack
open Go.ChangeShapes Go.WideShapes Go.ChangeAt Go.RowKit Go.ChangeMaps
set_option linter.unusedVariables false

theorem own : ownKnob Try.prog.godebug = none := by kernel_rfl
theorem laidOut : laidOutB Try.prog = true := by kernel_rfl

set_option maxRecDepth 100000 in
set_option maxHeartbeats 4000000 in
theorem walk_in (a b d : ByteArray) (w : World) (ha : a.size ≤ maxLen) (hb : b.size ≤ maxLen) (hd : d.size ≤ maxLen) :
    Calls Try.prog 5 #[.string a, .string b, .string d] w fun e w' => e = .returned (.bool true) ∧ Below w.heap.size w w' := by
  unfold maxLen at ha hb hd
  by_cases z1 : 5000 < a.size
  · go_enter Try.func5, Try.ntmps5
    go_wp2_with fail
    refine (awake_any _).mono ?_
    rintro e w1 ⟨rfl, hb⟩
    have H1 : Hid (Below w.heap.size w w1) := hb
    clear hb
    go_wp2_with fail
    go_ret
    exact ⟨rfl, H1.out⟩
  by_cases z2 : 5000 < b.size
  · go_enter Try.func5, Try.ntmps5
    go_wp2_with fail
    refine (awake_any _).mono ?_
    rintro e w1 ⟨rfl, hb⟩
    have H1 : Hid (Below w.heap.size w w1) := hb
    clear hb
    go_wp2_with fail
    go_ret
    exact ⟨rfl, H1.out⟩
  by_cases z3 : 5000 < d.size
  · go_enter Try.func5, Try.ntmps5
    go_wp2_with fail
    refine (awake_any _).mono ?_
    rintro e w1 ⟨rfl, hb⟩
    have H1 : Hid (Below w.heap.size w w1) := hb
    clear hb
    go_wp2_with fail
    go_ret
    exact ⟨rfl, H1.out⟩
  have hd : d.size ≤ 1000000 := by omega
  by_cases q1 : a.size ≤ 256
  · by_cases q2 : b.size ≤ 256
    · by_cases hA : a.size ≤ 256 ∧ apB (bl a) (bl d) = true
      · have HA := Lib.hid hA.2
        have za : a.size ≤ 256 := hA.1
        have hy := apB_yes hA.2
        have HK := Lib.hid hy.2.2.2
        have HL : Hid ((ap (bl a) (bl d)).length ≤ 256) := by
          have := ap_len hy.2.1 hy.1
          show _ ≤ _; omega
        clear hA hy
        go_enter Try.func5, Try.ntmps5
        go_wp2_with fail
        refine (awake_any _).mono ?_
        rintro e w1 ⟨rfl, hb⟩
        have H1 : Hid (Below w.heap.size w w1) := hb
        clear hb
        go_wp2_with fail
        refine (make_yes a b _ q1 q2).mono ?_
        rintro e w2 ⟨rfl, hb⟩
        have H2 : Hid (Below w.heap.size w w2) := H1.out.trans (hb.mono H1.out.size)
        clear hb H1
        obtain ⟨X, hX⟩ : ∃ X, str (mk (bl a) (bl b)) = X := ⟨_, rfl⟩
        rw [hX]
        have hXB : apB (bl a) (bl X) = true := by rw [← hX, bl_str]; exact apB_mk _ _ (by rw [bl_len]; exact q1) (by rw [bl_len]; exact q2)
        have HX : Hid (str (ap (bl a) (bl X)) = b) := by show _ = _; rw [← hX, bl_str, ap_mk _ _ (by rw [bl_len]; omega), str_bl]
        have hXs : X.size ≤ 1000000 := by
          rw [← hX, str_size, mk_len, bl_len]; omega
        have HXB := Lib.hid hXB
        clear hX hXB
        go_wp2_with fail
        refine (apply_yes a X _ hXs q1 HXB.out).mono ?_
        rintro e w3 ⟨rfl, hb⟩
        rw [HX.out]
        have H3 : Hid (Below w.heap.size w w3) := H2.out.trans (hb.mono H2.out.size)
        clear hb H2
        have hq : (!b.toList == b.toList) = false := not_false_of (seq_yes rfl)
        go_wp2_with fail
        refine (apply_yes a d _ hd za HA.out).mono ?_
        rintro e w4 ⟨rfl, hb⟩
        have H4 : Hid (Below w.heap.size w w4) := H3.out.trans (hb.mono H3.out.size)
        clear hb H3
        obtain ⟨Y, hY⟩ : ∃ Y, str (ap (bl a) (bl d)) = Y := ⟨_, rfl⟩
        rw [hY]
        have HY := Lib.hid hY
        have hzY : Y.size ≤ 256 := by rw [← hY, str_size]; exact HL.out
        have HM : Hid (str (mk (bl a) (bl Y)) = d) := by show _ = _; rw [← hY, bl_str, HK.out, str_bl]
        clear hY
        go_wp2_with fail
        refine (make_yes a Y _ za hzY).mono ?_
        rintro e w5 ⟨rfl, hb⟩
        rw [HM.out]
        have H5 : Hid (Below w.heap.size w w5) := H4.out.trans (hb.mono H4.out.size)
        clear hb H4
        have hq : (d.toList == d.toList) = true := seq_yes rfl
        go_wp2_with fail
        go_ret
        exact ⟨rfl, H5.out⟩

      · have HA := Lib.hid hA
        clear hA
        go_enter Try.func5, Try.ntmps5
        go_wp2_with fail
        refine (awake_any _).mono ?_
        rintro e w1 ⟨rfl, hb⟩
        have H1 : Hid (Below w.heap.size w w1) := hb
        clear hb
        go_wp2_with fail
        refine (make_yes a b _ q1 q2).mono ?_
        rintro e w2 ⟨rfl, hb⟩
        have H2 : Hid (Below w.heap.size w w2) := H1.out.trans (hb.mono H1.out.size)
        clear hb H1
        obtain ⟨X, hX⟩ : ∃ X, str (mk (bl a) (bl b)) = X := ⟨_, rfl⟩
        rw [hX]
        have hXB : apB (bl a) (bl X) = true := by rw [← hX, bl_str]; exact apB_mk _ _ (by rw [bl_len]; exact q1) (by rw [bl_len]; exact q2)
        have HX : Hid (str (ap (bl a) (bl X)) = b) := by show _ = _; rw [← hX, bl_str, ap_mk _ _ (by rw [bl_len]; omega), str_bl]
        have hXs : X.size ≤ 1000000 := by
          rw [← hX, str_size, mk_len, bl_len]; omega
        have HXB := Lib.hid hXB
        clear hX hXB
        go_wp2_with fail
        refine (apply_yes a X _ hXs q1 HXB.out).mono ?_
        rintro e w3 ⟨rfl, hb⟩
        rw [HX.out]
        have H3 : Hid (Below w.heap.size w w3) := H2.out.trans (hb.mono H2.out.size)
        clear hb H2
        have hq : (!b.toList == b.toList) = false := not_false_of (seq_yes rfl)
        go_wp2_with fail
        refine (apply_no a d _ hd HA.out).mono ?_
        rintro e w4 ⟨⟨n, hn, _, rfl⟩, hb⟩
        have H4 : Hid (Below w.heap.size w w4) := H3.out.trans (hb.mono H3.out.size)
        clear hb H3
        have hn0 : (n == 0) = false := by rw [beq_eq_false_iff_ne]; omega
        have hn1 : (n != 0) = true := by rw [bne_iff_ne]; omega
        clear hn
        go_wp2_with fail
        go_ret
        exact ⟨rfl, H4.out⟩

    · by_cases hA : a.size ≤ 256 ∧ apB (bl a) (bl d) = true
      · have HA := Lib.hid hA.2
        have za : a.size ≤ 256 := hA.1
        have hy := apB_yes hA.2
        have HK := Lib.hid hy.2.2.2
        have HL : Hid ((ap (bl a) (bl d)).length ≤ 256) := by
          have := ap_len hy.2.1 hy.1
          show _ ≤ _; omega
        clear hA hy
        go_enter Try.func5, Try.ntmps5
        have hno : ¬ (a.size ≤ 256 ∧ b.size ≤ 256) := by omega
        have Hno := Lib.hid hno
        clear hno
        go_wp2_with fail
        refine (awake_any _).mono ?_
        rintro e w1 ⟨rfl, hb⟩
        have H1 : Hid (Below w.heap.size w w1) := hb
        clear hb
        go_wp2_with fail
        refine (make_no a b _ Hno.out).mono ?_
        rintro e _ ⟨rfl, rfl⟩
        go_wp2_with fail
        refine (apply_yes a d _ hd za HA.out).mono ?_
        rintro e w4 ⟨rfl, hb⟩
        have H4 : Hid (Below w.heap.size w w4) := H1.out.trans (hb.mono H1.out.size)
        clear hb H1
        obtain ⟨Y, hY⟩ : ∃ Y, str (ap (bl a) (bl d)) = Y := ⟨_, rfl⟩
        rw [hY]
        have HY := Lib.hid hY
        have hzY : Y.size ≤ 256 := by rw [← hY, str_size]; exact HL.out
        have HM : Hid (str (mk (bl a) (bl Y)) = d) := by show _ = _; rw [← hY, bl_str, HK.out, str_bl]
        clear hY
        go_wp2_with fail
        refine (make_yes a Y _ za hzY).mono ?_
        rintro e w5 ⟨rfl, hb⟩
        rw [HM.out]
        have H5 : Hid (Below w.heap.size w w5) := H4.out.trans (hb.mono H4.out.size)
        clear hb H4
        have hq : (d.toList == d.toList) = true := seq_yes rfl
        go_wp2_with fail
        go_ret
        exact ⟨rfl, H5.out⟩

      · have HA := Lib.hid hA
        clear hA
        go_enter Try.func5, Try.ntmps5
        have hno : ¬ (a.size ≤ 256 ∧ b.size ≤ 256) := by omega
        have Hno := Lib.hid hno
        clear hno
        go_wp2_with fail
        refine (awake_any _).mono ?_
        rintro e w1 ⟨rfl, hb⟩
        have H1 : Hid (Below w.heap.size w w1) := hb
        clear hb
        go_wp2_with fail
        refine (make_no a b _ Hno.out).mono ?_
        rintro e _ ⟨rfl, rfl⟩
        go_wp2_with fail
        refine (apply_no a d _ hd HA.out).mono ?_
        rintro e w4 ⟨⟨n, hn, _, rfl⟩, hb⟩
        have H4 : Hid (Below w.heap.size w w4) := H1.out.trans (hb.mono H1.out.size)
        clear hb H1
        have hn0 : (n == 0) = false := by rw [beq_eq_false_iff_ne]; omega
        have hn1 : (n != 0) = true := by rw [bne_iff_ne]; omega
        clear hn
        go_wp2_with fail
        go_ret
        exact ⟨rfl, H4.out⟩

  · have hA : ¬ (a.size ≤ 256 ∧ apB (bl a) (bl d) = true) := fun h => q1 h.1
    have HA := Lib.hid hA
    clear hA
    go_enter Try.func5, Try.ntmps5
    have hno : ¬ (a.size ≤ 256 ∧ b.size ≤ 256) := by omega
    have Hno := Lib.hid hno
    clear hno
    go_wp2_with fail
    refine (awake_any _).mono ?_
    rintro e w1 ⟨rfl, hb⟩
    have H1 : Hid (Below w.heap.size w w1) := hb
    clear hb
    go_wp2_with fail
    refine (make_no a b _ Hno.out).mono ?_
    rintro e _ ⟨rfl, rfl⟩
    go_wp2_with fail
    refine (apply_no a d _ hd HA.out).mono ?_
    rintro e w4 ⟨⟨n, hn, _, rfl⟩, hb⟩
    have H4 : Hid (Below w.heap.size w w4) := H1.out.trans (hb.mono H1.out.size)
    clear hb H1
    have hn0 : (n == 0) = false := by rw [beq_eq_false_iff_ne]; omega
    have hn1 : (n != 0) = true := by rw [bne_iff_ne]; omega
    clear hn
    go_wp2_with fail
    go_ret
    exact ⟨rfl, H4.out⟩

theorem walk (a : ByteArray) (ha : a.size ≤ maxLen) (b : ByteArray) (hb : b.size ≤ maxLen) (d : ByteArray) (hd : d.size ≤ maxLen) (w : World) :
    Calls Try.prog 5 #[.string a, .string b, .string d] w fun e w' => e = .returned (.bool true) ∧ Below w.heap.size w w' := walk_in a b d w ha hb hd


set_option maxRecDepth 100000 in
theorem lifted (os : Os) (started : os.Started) (H : Type) (enc : TypeId × Value → H) :
    ReturnsInHanded {} Try.checked os 5 .any (Rows.deltaBackSpec.pre6 enc Try.prog Try.f5 Rows.deltaBackRow.domain false) (Rows.deltaBackSpec.post enc Try.prog Try.f5 false true false false) := by
  refine returnsInHanded_of_change_sized (C := Try.checked) own started (by kernel_rfl) Try.func5
    (ChangeSpec.witness6 (enc := enc) (C := Try.checked) false ⟨#[], #[.string ⟨#[]⟩, .string ⟨#[]⟩, .string ⟨#[]⟩], []⟩ 8 (by kernel_rfl) (by kernel_rfl) (by kernel_rfl) (by kernel_rfl)) ?_
  intro W base args ds gs before hval0 hW _ hsz _
  have hval : ∀ (j : Nat) t v, Try.f5.params[j]? = some t → args[j]? = some v → Value.okWide Try.prog W .any base t v := hval0
  have hW' := hW
  obtain ⟨p, q, hA0, hV, hbef, _, _⟩ := hW
  have hA : DataW.TrodAll enc Try.prog W 0 (fun _ => true) true Try.f5.params.toList args.toList ds p := hA0
  rw [Try.params5] at hA hval
  obtain ⟨v0, vs0, d0, ds0, p0, q0, hargs, rfl, rfl, h0, r0⟩ := trodAll_cons hA
  obtain ⟨v1, vs1, d1, ds1, p1, q1, rfl, rfl, rfl, h1, r1⟩ := trodAll_cons r0
  obtain ⟨v2, vs2, d2, ds2, p2, q2, rfl, rfl, rfl, h2, r2⟩ := trodAll_cons r1
  obtain ⟨rfl, rfl, rfl⟩ := trodAll_nil r2
  obtain rfl : args = #[v0, v1, v2] := by cases args; simp_all
  obtain ⟨rfl, rfl⟩ := trodVars_none hV
  obtain ⟨s0, rfl, _, _, w0⟩ := open_string Try.underlying9 (hval 0 9 v0 rfl rfl) h0
  obtain ⟨s1, rfl, _, _, w1⟩ := open_string Try.underlying9 (hval 1 9 v1 rfl rfl) h1
  obtain ⟨s2, rfl, _, _, w2⟩ := open_string Try.underlying9 (hval 2 9 v2 rfl rfl) h2
  refine (walk s0 w0 s1 w1 s2 w2 W).mono fun e W' ⟨he, hb⟩ => ?_
  subst he
  exact ⟨_, rfl, law_post laidOut (of_decide_eq_true (by kernel_rfl)) rfl Try.underlying4 rfl rfl hW' hb⟩

theorem over : Rows.deltaBackRow.holds Try.pinned (OpenSpec.ofChange Rows.deltaBackSpec) :=
  OpenClaim.holds_of_wide 5 Try.f5 rfl rfl rfl rfl rfl rfl rfl ⟨rfl, rfl, rfl, rfl, rfl⟩ rfl rfl rfl rfl rfl (by kernel_rfl) Try.func5 (by kernel_rfl)
    (of_decide_eq_true (by kernel_rfl)) (by unfold Func.isWrapper; first | (rw [if_pos (by decide +kernel)]; kernel_rfl) | (rw [if_neg (by decide +kernel)]; exact ⟨rfl, rfl⟩))
    (fun os started H enc _ => lifted os started H enc)

end Go.Proofs.Ythghaagmpneemaa.deltaBack
namespace Go.Proofs.Ythghaagmpneemaa
theorem deltaBack_holds : Rows.DeltaBackSaid := deltaBack.over
end Go.Proofs.Ythghaagmpneemaa
