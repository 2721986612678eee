/-
No text stands between one and its next one, and next ones stand as the texts do, for any two texts; no condition.
-/
import Derived.Test.YtilaghjboiikdaaLF
import Derived.Test.YtilaghjboiikdaaC
import Derived.ChangeMaps5
import Derived.Test.YtilaghjboiikdaaD
namespace Go.Proofs.Ytilaghjboiikdaa.textNext
open Go.ChangeShapes Go.WideShapes Go.ChangeAt Go.RowKit Go.ChangeMaps
set_option linter.unusedVariables false

theorem own : ownKnob Try.prog.godebug = none := by kernel_rfl
theorem laidOut : laidOutB Try.prog = true := by kernel_rfl

set_option maxRecDepth 100000 in
set_option maxHeartbeats 4000000 in
theorem walk_in (a b : ByteArray) (w : World) (hs : ∀ s ∈ [a, b], s.size ≤ maxLen) :
    Calls Try.prog 7 #[.string a, .string b] w fun e w' => e = .returned (.bool true) ∧ Below w.heap.size w w' := by
  have Hs1 := Lib.hid hs
  clear hs
  by_cases hl : longB [a, b] = true
  · have Hl := Lib.hid hl
    clear hl
    go_enter Try.func7, Try.ntmps7
    go_wp2_with fail
    refine (works_any _).mono ?_
    rintro x w1 ⟨rfl, hb⟩
    have Hb0 := Lib.hid hb
    clear hb
    go_wp2_with fail
    refine (long_any [a, b] _ 2 _ rfl (by omega) (heap_alloc_new _ _) Hs1.out).mono ?_
    rintro x _ ⟨rfl, rfl⟩
    rw [Hl.out]
    have Hb1 := Lib.hid (Hb0.out.alloc Hb0.out.size (.cells #[.string a, .string b] 9))
    go_wp2_with fail
    refine (works_any _).mono ?_
    rintro x w9 ⟨rfl, hb2⟩
    go_wp2_with fail
    go_ret
    exact ⟨rfl, Hb1.out.trans (hb2.mono Hb1.out.size)⟩
  · have Hl : Hid (longB [a, b] = false) := Bool.eq_false_iff.2 hl
    clear hl
    have ka : a.size < 9000 := long_no Hl.out a (by simp)
    have kb : b.size < 9000 := long_no Hl.out b (by simp)
    obtain ⟨x, hx⟩ : ∃ x, co a b = x := ⟨_, rfl⟩
    have vx := co_vals a b
    rw [hx] at vx
    have HX := Lib.hid hx
    have H1 : Hid (co a (a ++ ⟨#[0]⟩) = -1) := by show _ = _; unfold co; rw [bl_append]; exact cb_next _
    have H2 : Hid (co (a ++ ⟨#[0]⟩) (b ++ ⟨#[0]⟩) = co a b) := by show _ = _; unfold co; rw [bl_append, bl_append]; exact cb_next_next _ _
    have H3 : Hid (x < 0 → co (a ++ ⟨#[0]⟩) b ≤ 0) := fun h => by unfold co; rw [bl_append]; exact cb_next_le _ _ (by rw [← hx] at h; exact h)
    clear hx
    by_cases c1 : 0 ≤ x
    · go_enter Try.func7, Try.ntmps7
      go_wp2_with fail
      refine (works_any _).mono ?_
      rintro x w1 ⟨rfl, hb⟩
      have Hb0 := Lib.hid hb
      clear hb
      go_wp2_with fail
      refine (long_any [a, b] _ 2 _ rfl (by omega) (heap_alloc_new _ _) Hs1.out).mono ?_
      rintro x _ ⟨rfl, rfl⟩
      rw [Hl.out]
      have Hb1 := Lib.hid (Hb0.out.alloc Hb0.out.size (.cells #[.string a, .string b] 9))
      go_wp2_with fail
      refine (next_any _ _ (by omega)).mono ?_
      rintro x _ ⟨rfl, rfl⟩
      go_wp2_with fail
      refine (cmp_co _ _ _).mono ?_
      rintro x _ ⟨rfl, rfl⟩
      rw [H1.out]
      go_wp2_with fail
      refine (next_any _ _ (by omega)).mono ?_
      rintro x _ ⟨rfl, rfl⟩
      go_wp2_with fail
      refine (cmp_co _ _ _).mono ?_
      rintro x _ ⟨rfl, rfl⟩
      rw [H2.out, HX.out]
      go_wp2_with fail
      refine (cmp_co _ _ _).mono ?_
      rintro x _ ⟨rfl, rfl⟩
      rw [HX.out]
      go_wp2_with fail
      refine (cmp_co _ _ _).mono ?_
      rintro x _ ⟨rfl, rfl⟩
      rw [HX.out]
      go_wp2_with fail
      go_ret
      exact ⟨rfl, Hb1.out⟩
    · have c2 := H3.out (by omega)
      go_enter Try.func7, Try.ntmps7
      go_wp2_with fail
      refine (works_any _).mono ?_
      rintro x w1 ⟨rfl, hb⟩
      have Hb0 := Lib.hid hb
      clear hb
      go_wp2_with fail
      refine (long_any [a, b] _ 2 _ rfl (by omega) (heap_alloc_new _ _) Hs1.out).mono ?_
      rintro x _ ⟨rfl, rfl⟩
      rw [Hl.out]
      have Hb1 := Lib.hid (Hb0.out.alloc Hb0.out.size (.cells #[.string a, .string b] 9))
      go_wp2_with fail
      refine (next_any _ _ (by omega)).mono ?_
      rintro x _ ⟨rfl, rfl⟩
      go_wp2_with fail
      refine (cmp_co _ _ _).mono ?_
      rintro x _ ⟨rfl, rfl⟩
      rw [H1.out]
      go_wp2_with fail
      refine (next_any _ _ (by omega)).mono ?_
      rintro x _ ⟨rfl, rfl⟩
      go_wp2_with fail
      refine (cmp_co _ _ _).mono ?_
      rintro x _ ⟨rfl, rfl⟩
      rw [H2.out, HX.out]
      go_wp2_with fail
      refine (cmp_co _ _ _).mono ?_
      rintro x _ ⟨rfl, rfl⟩
      rw [HX.out]
      go_wp2_with fail
      refine (cmp_co _ _ _).mono ?_
      rintro x _ ⟨rfl, rfl⟩
      rw [HX.out]
      go_wp2_with fail
      refine (cmp_co _ _ _).mono ?_
      rintro x _ ⟨rfl, rfl⟩
      go_wp2_with fail
      go_ret
      exact ⟨rfl, Hb1.out⟩
theorem walk (a : ByteArray) (ha : a.size ≤ maxLen) (b : ByteArray) (hb : b.size ≤ maxLen) (w : World) :
    Calls Try.prog 7 #[.string a, .string b] w fun e w' => e = .returned (.bool true) ∧ Below w.heap.size w w' :=
  walk_in a b w (by intro s h; simp at h; rcases h with rfl | rfl <;> assumption)


set_option maxRecDepth 100000 in
theorem lifted (os : Os) (started : os.Started) (H : Type) (enc : TypeId × Value → H) :
    ReturnsInHanded {} Try.checked os 7 .any (Rows.textNextSpec.pre6 enc Try.prog Try.f7 Rows.textNextRow.domain false) (Rows.textNextSpec.post enc Try.prog Try.f7 false true false false) := by
  refine returnsInHanded_of_change_sized (C := Try.checked) own started (by kernel_rfl) Try.func7
    (ChangeSpec.witness6 (enc := enc) (C := Try.checked) false ⟨#[], #[.string ⟨#[]⟩, .string ⟨#[]⟩], []⟩ 8 (by kernel_rfl) (by kernel_rfl) (by kernel_rfl) (by kernel_rfl)) ?_
  intro W base args ds gs before hval0 hW _ hsz _
  have hval : ∀ (j : Nat) t v, Try.f7.params[j]? = some t → args[j]? = some v → Value.okWide Try.prog W .any base t v := hval0
  have hW' := hW
  obtain ⟨p, q, hA0, hV, hbef, _, _⟩ := hW
  have hA : DataW.TrodAll enc Try.prog W 0 (fun _ => true) true Try.f7.params.toList args.toList ds p := hA0
  rw [Try.params7] at hA hval
  obtain ⟨v0, vs0, d0, ds0, p0, q0, hargs, rfl, rfl, h0, r0⟩ := trodAll_cons hA
  obtain ⟨v1, vs1, d1, ds1, p1, q1, rfl, rfl, rfl, h1, r1⟩ := trodAll_cons r0
  obtain ⟨rfl, rfl, rfl⟩ := trodAll_nil r1
  obtain rfl : args = #[v0, v1] := by cases args; simp_all
  obtain ⟨rfl, rfl⟩ := trodVars_none hV
  obtain ⟨s0, rfl, _, _, w0⟩ := open_string Try.underlying9 (hval 0 9 v0 rfl rfl) h0
  obtain ⟨s1, rfl, _, _, w1⟩ := open_string Try.underlying9 (hval 1 9 v1 rfl rfl) h1
  refine (walk s0 w0 s1 w1 W).mono fun e W' ⟨he, hb⟩ => ?_
  subst he
  exact ⟨_, rfl, law_post laidOut (of_decide_eq_true (by kernel_rfl)) rfl Try.underlying4 rfl rfl hW' hb⟩

theorem over : Rows.textNextRow.holds Try.pinned (OpenSpec.ofChange Rows.textNextSpec) :=
  OpenClaim.holds_of_wide 7 Try.f7 rfl rfl rfl rfl rfl rfl rfl ⟨rfl, rfl, rfl, rfl, rfl⟩ rfl rfl rfl rfl rfl (by kernel_rfl) Try.func7 (by kernel_rfl)
    (of_decide_eq_true (by kernel_rfl)) (by unfold Func.isWrapper; first | (rw [if_pos (by decide +kernel)]; kernel_rfl) | (rw [if_neg (by decide +kernel)]; exact ⟨rfl, rfl⟩))
    (fun os started H enc _ => lifted os started H enc)

end Go.Proofs.Ytilaghjboiikdaa.textNext
namespace Go.Proofs.Ytilaghjboiikdaa
theorem textNext_holds : Rows.TextNextSaid := textNext.over
end Go.Proofs.Ytilaghjboiikdaa
