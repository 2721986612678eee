/-
How any two texts stand, what they have in common, the next one, and whether a text is within two others, are the document s; no condition.
-/
import Derived.Test.YtilaghjboiikdaaLF
import Derived.Test.YtilaghjboiikdaaC
import Derived.ChangeMaps5
import Derived.Test.YtilaghjboiikdaaD
namespace Go.Proofs.Ytilaghjboiikdaa.textTells
open Go.ChangeShapes Go.WideShapes Go.ChangeAt Go.RowKit Go.ChangeMaps
set_option linter.unusedVariables false

theorem own : ownKnob Try.prog.godebug = none := by kernel_rfl
theorem laidOut : laidOutB Try.prog = true := by kernel_rfl

set_option maxRecDepth 100000 in
set_option maxHeartbeats 4000000 in
theorem walk_in (a b c : ByteArray) (m : Int) (w : World) (hs : ∀ s ∈ [a, b, c], s.size ≤ maxLen) :
    Calls Try.prog 4 #[.string a, .string b, .string c, .int .i64 m] w fun e w' => e = .returned (.bool true) ∧ Below w.heap.size w w' := by
  have Hs1 := Lib.hid hs
  have za : a.size ≤ maxLen := hs a (by simp)
  have zb : b.size ≤ maxLen := hs b (by simp)
  have zc : c.size ≤ maxLen := hs c (by simp)
  clear hs
  by_cases hl : longB [a, b, c] = true
  · have Hl := Lib.hid hl
    clear hl
    go_enter Try.func4, Try.ntmps4
    go_wp2_with fail
    refine (long_any [a, b, c] _ 3 _ rfl (by omega) (heap_alloc_new _ _) Hs1.out).mono ?_
    rintro x _ ⟨rfl, rfl⟩
    rw [Hl.out]
    have Hb1 := Lib.hid ((Below.refl w.heap.size w).alloc (Nat.le_refl _) (.cells #[.string a, .string b, .string c] 9))
    go_wp2_with fail
    refine (works_any _).mono ?_
    rintro x w9 ⟨rfl, hb2⟩
    go_wp2_with fail
    go_ret
    exact ⟨rfl, Hb1.out.trans (hb2.mono Hb1.out.size)⟩
  · have Hl : Hid (longB [a, b, c] = false) := Bool.eq_false_iff.2 hl
    clear hl
    have ka : a.size < 9000 := long_no Hl.out a (by simp)
    go_enter Try.func4, Try.ntmps4
    go_wp2_with fail
    refine (long_any [a, b, c] _ 3 _ rfl (by omega) (heap_alloc_new _ _) Hs1.out).mono ?_
    rintro x _ ⟨rfl, rfl⟩
    rw [Hl.out]
    have Hb1 := Lib.hid ((Below.refl w.heap.size w).alloc (Nat.le_refl _) (.cells #[.string a, .string b, .string c] 9))
    go_wp2_with fail
    refine (cmp_co _ _ _).mono ?_
    rintro x _ ⟨rfl, rfl⟩
    go_wp2_with fail
    refine (rcmp_co _ _ _ za zb).mono ?_
    rintro x w2 ⟨rfl, hs⟩
    have Hb2 := Lib.hid (hs.below Hb1.out)
    clear hs Hb1
    go_wp2_with fail
    refine (prefix_co _ _ _ za zb).mono ?_
    rintro x w3 ⟨rfl, hs⟩
    have Hb3 := Lib.hid (hs.below Hb2.out)
    clear hs Hb2
    go_wp2_with fail
    refine (rprefix_co _ _ _ za zb).mono ?_
    rintro x w4 ⟨rfl, hs⟩
    have Hb4 := Lib.hid (hs.below Hb3.out)
    clear hs Hb3
    go_wp2_with fail
    refine (suffix_co _ _ _ _ za zb).mono ?_
    rintro x w5 ⟨rfl, hs⟩
    have Hb5 := Lib.hid (hs.below Hb4.out)
    clear hs Hb4
    go_wp2_with fail
    refine (rsuffix_co _ _ _ _ za zb).mono ?_
    rintro x w6 ⟨rfl, hs⟩
    have Hb6 := Lib.hid (hs.below Hb5.out)
    clear hs Hb5
    go_wp2_with fail
    refine (next_any _ _ (by omega)).mono ?_
    rintro x _ ⟨rfl, rfl⟩
    go_wp2_with fail
    refine (rnext_any _ _ (by omega)).mono ?_
    rintro x w7 ⟨rfl, hb⟩
    have Hb7 := Lib.hid (Hb6.out.trans (hb.mono Hb6.out.size))
    clear hb Hb6
    go_wp2_with fail
    refine (within_any _ _ _ _).mono ?_
    rintro x _ ⟨rfl, rfl⟩
    go_wp2_with fail
    refine (rwithin_any _ _ _ _ za zb zc).mono ?_
    rintro x w8 ⟨rfl, hs⟩
    have Hb8 := Lib.hid (hs.below Hb7.out)
    clear hs Hb7
    go_wp2_with fail
    refine (works_any _).mono ?_
    rintro x w9 ⟨rfl, hb2⟩
    go_wp2_with fail
    go_ret
    exact ⟨rfl, Hb8.out.trans (hb2.mono Hb8.out.size)⟩
theorem walk (a : ByteArray) (ha : a.size ≤ maxLen) (b : ByteArray) (hb : b.size ≤ maxLen) (c : ByteArray) (hc : c.size ≤ maxLen) (m : Int) (_hm : (Lit.int .i64 m).wf = true) (w : World) :
    Calls Try.prog 4 #[.string a, .string b, .string c, .int .i64 m] w fun e w' => e = .returned (.bool true) ∧ Below w.heap.size w w' :=
  walk_in a b c m w (by intro s h; simp at h; rcases h with rfl | rfl | rfl <;> assumption)


set_option maxRecDepth 100000 in
theorem lifted (os : Os) (started : os.Started) (H : Type) (enc : TypeId × Value → H) :
    ReturnsInHanded {} Try.checked os 4 .any (Rows.textTellsSpec.pre6 enc Try.prog Try.f4 Rows.textTellsRow.domain false) (Rows.textTellsSpec.post enc Try.prog Try.f4 false true false false) := by
  refine returnsInHanded_of_change_sized (C := Try.checked) own started (by kernel_rfl) Try.func4
    (ChangeSpec.witness6 (enc := enc) (C := Try.checked) false ⟨#[], #[.string ⟨#[]⟩, .string ⟨#[]⟩, .string ⟨#[]⟩, .int .i64 0], []⟩ 8 (by kernel_rfl) (by kernel_rfl) (by kernel_rfl) (by kernel_rfl)) ?_
  intro W base args ds gs before hval0 hW _ hsz _
  have hval : ∀ (j : Nat) t v, Try.f4.params[j]? = some t → args[j]? = some v → Value.okWide Try.prog W .any base t v := hval0
  have hW' := hW
  obtain ⟨p, q, hA0, hV, hbef, _, _⟩ := hW
  have hA : DataW.TrodAll enc Try.prog W 0 (fun _ => true) true Try.f4.params.toList args.toList ds p := hA0
  rw [Try.params4] at hA hval
  obtain ⟨v0, vs0, d0, ds0, p0, q0, hargs, rfl, rfl, h0, r0⟩ := trodAll_cons hA
  obtain ⟨v1, vs1, d1, ds1, p1, q1, rfl, rfl, rfl, h1, r1⟩ := trodAll_cons r0
  obtain ⟨v2, vs2, d2, ds2, p2, q2, rfl, rfl, rfl, h2, r2⟩ := trodAll_cons r1
  obtain ⟨v3, vs3, d3, ds3, p3, q3, rfl, rfl, rfl, h3, r3⟩ := trodAll_cons r2
  obtain ⟨rfl, rfl, rfl⟩ := trodAll_nil r3
  obtain rfl : args = #[v0, v1, v2, v3] := by cases args; simp_all
  obtain ⟨rfl, rfl⟩ := trodVars_none hV
  obtain ⟨s0, rfl, _, _, w0⟩ := open_string Try.underlying9 (hval 0 9 v0 rfl rfl) h0
  obtain ⟨s1, rfl, _, _, w1⟩ := open_string Try.underlying9 (hval 1 9 v1 rfl rfl) h1
  obtain ⟨s2, rfl, _, _, w2⟩ := open_string Try.underlying9 (hval 2 9 v2 rfl rfl) h2
  obtain ⟨a3, rfl, _, _, w3⟩ := open_int Try.underlying3 (hval 3 3 v3 rfl rfl) h3
  refine (walk s0 w0 s1 w1 s2 w2 a3 w3 W).mono fun e W' ⟨he, hb⟩ => ?_
  subst he
  exact ⟨_, rfl, law_post laidOut (of_decide_eq_true (by kernel_rfl)) rfl Try.underlying4 rfl rfl hW' hb⟩

theorem over : Rows.textTellsRow.holds Try.pinned (OpenSpec.ofChange Rows.textTellsSpec) :=
  OpenClaim.holds_of_wide 4 Try.f4 rfl rfl rfl rfl rfl rfl rfl ⟨rfl, rfl, rfl, rfl, rfl⟩ rfl rfl rfl rfl rfl (by kernel_rfl) Try.func4 (by kernel_rfl)
    (of_decide_eq_true (by kernel_rfl)) (by unfold Func.isWrapper; first | (rw [if_pos (by decide +kernel)]; kernel_rfl) | (rw [if_neg (by decide +kernel)]; exact ⟨rfl, rfl⟩))
    (fun os started H enc _ => lifted os started H enc)

end Go.Proofs.Ytilaghjboiikdaa.textTells
namespace Go.Proofs.Ytilaghjboiikdaa
theorem textTells_holds : Rows.TextTellsSaid := textTells.over
end Go.Proofs.Ytilaghjboiikdaa
