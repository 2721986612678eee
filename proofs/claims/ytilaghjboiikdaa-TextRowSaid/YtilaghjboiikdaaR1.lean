/-
Texts stand in one row, for any three texts; no condition.
-/
import Derived.Test.YtilaghjboiikdaaLF
import Derived.Test.YtilaghjboiikdaaC
import Derived.ChangeMaps5
namespace Go.Proofs.Ytilaghjboiikdaa.textRow
open Go.ChangeShapes Go.WideShapes Go.ChangeAt Go.RowKit Go.ChangeMaps
set_option linter.unusedVariables false

theorem own : ownKnob Try.prog.godebug = none := by kernel_rfl
theorem laidOut : laidOutB Try.prog = true := by kernel_rfl

theorem row_cases (a b c : List UInt8) (x y z : Int) (hx : Lib.compareBytes a b = x) (hy : Lib.compareBytes b c = y) (hz : Lib.compareBytes a c = z) :
    (x = -1 ∧ y = -1 ∧ z = -1) ∨ (x = -1 ∧ y = 0 ∧ z = -1) ∨ (x = -1 ∧ y = 1 ∧ z = -1) ∨ (x = -1 ∧ y = 1 ∧ z = 0) ∨ (x = -1 ∧ y = 1 ∧ z = 1) ∨
    (x = 0 ∧ y = -1 ∧ z = -1) ∨ (x = 0 ∧ y = 0 ∧ z = 0) ∨ (x = 0 ∧ y = 1 ∧ z = 1) ∨
    (x = 1 ∧ y = -1 ∧ z = -1) ∨ (x = 1 ∧ y = -1 ∧ z = 0) ∨ (x = 1 ∧ y = -1 ∧ z = 1) ∨ (x = 1 ∧ y = 0 ∧ z = 1) ∨ (x = 1 ∧ y = 1 ∧ z = 1) := by
  have vx := cb_vals a b
  have vy := cb_vals b c
  have vz := cb_vals a c
  have nx := cb_neg a b
  have ny := cb_neg b c
  have nz := cb_neg a c
  have l1 := cb_lt_le a b c
  have l2 := cb_le_lt a b c
  have l3 := cb_le a b c
  have m1 := cb_lt_le c b a
  have m2 := cb_le_lt c b a
  have m3 := cb_le c b a
  rw [hx] at vx nx l1 l2 l3
  rw [hy] at vy ny l1 l2 l3
  rw [hz] at vz nz l1 l2 l3
  rw [ny, nx, nz] at m1 m2 m3
  clear nx ny nz hx hy hz
  rcases vx with rfl | rfl | rfl <;> rcases vy with rfl | rfl | rfl <;> rcases vz with rfl | rfl | rfl <;> first | decide | (exfalso; clear m1 m2 m3; omega) | (exfalso; clear l1 l2 l3; omega)
set_option maxRecDepth 100000 in
set_option maxHeartbeats 4000000 in
theorem walk_in (a b c : ByteArray) (w : World) (hs : ∀ s ∈ [a, b, c], s.size ≤ maxLen) :
    Calls Try.prog 6 #[.string a, .string b, .string c] w fun e w' => e = .returned (.bool true) ∧ Below w.heap.size w w' := by
  have Hs := Lib.hid hs
  clear hs
  obtain ⟨x, hx⟩ : ∃ x, co a b = x := ⟨_, rfl⟩
  obtain ⟨y, hy⟩ : ∃ x, co b c = x := ⟨_, rfl⟩
  obtain ⟨z, hz⟩ : ∃ x, co a c = x := ⟨_, rfl⟩
  obtain ⟨q, hq⟩ : ∃ b : Bool, a.toList.isEmpty = b := ⟨_, rfl⟩
  have HX := Lib.hid hx
  have HY := Lib.hid hy
  have HZ := Lib.hid hz
  have HN : Hid (co b a = -x) := by show _ = _; rw [co_neg a b, hx]
  have HS : Hid (co a a = 0) := cb_self _
  have HE : Hid ((a.toList == b.toList) = decide (x = 0)) := by
    show _ = _
    rw [Bool.eq_iff_iff, beq_iff_eq, decide_eq_true_eq, ← hx, tl, tl]
    exact (cb_zero (bl a) (bl b)).symm
  have HR := Lib.hid (row_cases (bl a) (bl b) (bl c) x y z hx hy hz)
  have HQ : Hid (co ⟨#[]⟩ a = if q = true then 0 else -1) := by
    show _ = _
    unfold co
    rw [← hq, tl]
    show Lib.compareBytes [] (bl a) = _
    cases bl a <;> rfl
  have HF : Hid (∀ b : Bool, b = true → Ending.returned (.bool b) = .returned (.bool true)) := fun b h => by rw [h]
  clear hx hy hz
  by_cases hl : longB [a, b, c] = true
  · have Hl := Lib.hid hl
    clear hl
    go_enter Try.func6, Try.ntmps6
    go_wp2_with fail
    refine (works_any _).mono ?_
    rintro x w1 ⟨rfl, hb⟩
    have Hb := Lib.hid hb
    clear hb
    go_wp2_with fail
    refine (long_any [a, b, c] _ 3 _ rfl (by omega) (heap_alloc_new _ _) Hs.out).mono ?_
    rintro x _ ⟨rfl, rfl⟩
    rw [Hl.out]
    go_wp2_with fail
    refine (works_any _).mono ?_
    rintro x w2 ⟨rfl, hb2⟩
    go_wp2_with fail
    go_ret
    exact ⟨rfl, (Hb.out.alloc Hb.out.size _).trans (hb2.mono (by simp; have := Hb.out.size; omega))⟩
  · have Hl : Hid (longB [a, b, c] = false) := Bool.eq_false_iff.2 hl
    clear hl
    go_enter Try.func6, Try.ntmps6
    go_wp2_with fail
    refine (works_any _).mono ?_
    rintro x w1 ⟨rfl, hb⟩
    have Hb := Lib.hid hb
    clear hb
    go_wp2_with fail
    refine (long_any [a, b, c] _ 3 _ rfl (by omega) (heap_alloc_new _ _) Hs.out).mono ?_
    rintro x _ ⟨rfl, rfl⟩
    rw [Hl.out]
    have Hb2 := Lib.hid (Hb.out.alloc Hb.out.size (.cells #[.string a, .string b, .string c] 9))
    clear Hb
    go_wp2_with fail
    refine (cmp_co _ _ _).mono ?_
    rintro x _ ⟨rfl, rfl⟩
    go_wp2_with fail
    refine (cmp_co _ _ _).mono ?_
    rintro x _ ⟨rfl, rfl⟩
    go_wp2_with fail
    refine (cmp_co _ _ _).mono ?_
    rintro x _ ⟨rfl, rfl⟩
    rw [HX.out, HY.out, HZ.out]
    rcases HR.out with ⟨rfl, rfl, rfl⟩ | ⟨rfl, rfl, rfl⟩ | ⟨rfl, rfl, rfl⟩ | ⟨rfl, rfl, rfl⟩ | ⟨rfl, rfl, rfl⟩ | ⟨rfl, rfl, rfl⟩ | ⟨rfl, rfl, rfl⟩ | ⟨rfl, rfl, rfl⟩ | ⟨rfl, rfl, rfl⟩ | ⟨rfl, rfl, rfl⟩ | ⟨rfl, rfl, rfl⟩ | ⟨rfl, rfl, rfl⟩ | ⟨rfl, rfl, rfl⟩
    all_goals
      have he := HE.out
      go_wp2_with fail
      refine (cmp_co _ _ _).mono ?_
      rintro x _ ⟨rfl, rfl⟩
      rw [HN.out]
      go_wp2_with fail
      refine (cmp_co _ _ _).mono ?_
      rintro x _ ⟨rfl, rfl⟩
      rw [HS.out]
      go_wp2_with fail
      refine (cmp_co _ _ _).mono ?_
      rintro x _ ⟨rfl, rfl⟩
      clear he
      rw [HQ.out]
      go_wp2_with fail
      all_goals
        go_ret
        exact ⟨HF.out _ rfl, Hb2.out⟩
theorem walk (a : ByteArray) (ha : a.size ≤ maxLen) (b : ByteArray) (hb : b.size ≤ maxLen) (c : ByteArray) (hc : c.size ≤ maxLen) (w : World) :
    Calls Try.prog 6 #[.string a, .string b, .string c] w fun e w' => e = .returned (.bool true) ∧ Below w.heap.size w w' :=
  walk_in a b c w (by intro s h; simp at h; rcases h with rfl | rfl | rfl <;> assumption)


set_option maxRecDepth 100000 in
theorem lifted (os : Os) (started : os.Started) (H : Type) (enc : TypeId × Value → H) :
    ReturnsInHanded {} Try.checked os 6 .any (Rows.textRowSpec.pre6 enc Try.prog Try.f6 Rows.textRowRow.domain false) (Rows.textRowSpec.post enc Try.prog Try.f6 false true false false) := by
  refine returnsInHanded_of_change_sized (C := Try.checked) own started (by kernel_rfl) Try.func6
    (ChangeSpec.witness6 (enc := enc) (C := Try.checked) false ⟨#[], #[.string ⟨#[]⟩, .string ⟨#[]⟩, .string ⟨#[]⟩], []⟩ 8 (by kernel_rfl) (by kernel_rfl) (by kernel_rfl) (by kernel_rfl)) ?_
  intro W base args ds gs before hval0 hW _ hsz _
  have hval : ∀ (j : Nat) t v, Try.f6.params[j]? = some t → args[j]? = some v → Value.okWide Try.prog W .any base t v := hval0
  have hW' := hW
  obtain ⟨p, q, hA0, hV, hbef, _, _⟩ := hW
  have hA : DataW.TrodAll enc Try.prog W 0 (fun _ => true) true Try.f6.params.toList args.toList ds p := hA0
  rw [Try.params6] at hA hval
  obtain ⟨v0, vs0, d0, ds0, p0, q0, hargs, rfl, rfl, h0, r0⟩ := trodAll_cons hA
  obtain ⟨v1, vs1, d1, ds1, p1, q1, rfl, rfl, rfl, h1, r1⟩ := trodAll_cons r0
  obtain ⟨v2, vs2, d2, ds2, p2, q2, rfl, rfl, rfl, h2, r2⟩ := trodAll_cons r1
  obtain ⟨rfl, rfl, rfl⟩ := trodAll_nil r2
  obtain rfl : args = #[v0, v1, v2] := by cases args; simp_all
  obtain ⟨rfl, rfl⟩ := trodVars_none hV
  obtain ⟨s0, rfl, _, _, w0⟩ := open_string Try.underlying9 (hval 0 9 v0 rfl rfl) h0
  obtain ⟨s1, rfl, _, _, w1⟩ := open_string Try.underlying9 (hval 1 9 v1 rfl rfl) h1
  obtain ⟨s2, rfl, _, _, w2⟩ := open_string Try.underlying9 (hval 2 9 v2 rfl rfl) h2
  refine (walk s0 w0 s1 w1 s2 w2 W).mono fun e W' ⟨he, hb⟩ => ?_
  subst he
  exact ⟨_, rfl, law_post laidOut (of_decide_eq_true (by kernel_rfl)) rfl Try.underlying4 rfl rfl hW' hb⟩

theorem over : Rows.textRowRow.holds Try.pinned (OpenSpec.ofChange Rows.textRowSpec) :=
  OpenClaim.holds_of_wide 6 Try.f6 rfl rfl rfl rfl rfl rfl rfl ⟨rfl, rfl, rfl, rfl, rfl⟩ rfl rfl rfl rfl rfl (by kernel_rfl) Try.func6 (by kernel_rfl)
    (of_decide_eq_true (by kernel_rfl)) (by unfold Func.isWrapper; first | (rw [if_pos (by decide +kernel)]; kernel_rfl) | (rw [if_neg (by decide +kernel)]; exact ⟨rfl, rfl⟩))
    (fun os started H enc _ => lifted os started H enc)

end Go.Proofs.Ytilaghjboiikdaa.textRow
namespace Go.Proofs.Ytilaghjboiikdaa
theorem textRow_holds : Rows.TextRowSaid := textRow.over
end Go.Proofs.Ytilaghjboiikdaa
