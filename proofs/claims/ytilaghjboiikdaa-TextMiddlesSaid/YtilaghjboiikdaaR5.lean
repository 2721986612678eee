/-
Two texts are told again by what they have in common and their middles, for any two texts; no condition.
-/
import Derived.Test.YtilaghjboiikdaaLF
import Derived.Test.YtilaghjboiikdaaC
import Derived.ChangeMaps5
import Derived.Test.YtilaghjboiikdaaM0
import Derived.IntWalk
namespace Go.Proofs.Ytilaghjboiikdaa.textMiddles
open Go.ChangeShapes Go.WideShapes Go.ChangeAt Go.RowKit Go.ChangeMaps
set_option linter.unusedVariables false

theorem own : ownKnob Try.prog.godebug = none := by kernel_rfl
theorem laidOut : laidOutB Try.prog = true := by kernel_rfl

set_option maxRecDepth 100000 in
set_option maxHeartbeats 4000000 in
theorem walk_in (a b : ByteArray) (w : World) (hs : ∀ s ∈ [a, b], s.size ≤ maxLen) :
    Calls Try.prog 9 #[.string a, .string b] w fun e w' => e = .returned (.bool true) ∧ Below w.heap.size w w' := by
  have Hs1 := Lib.hid hs
  have za : a.size ≤ maxLen := hs a (by simp)
  have zb : b.size ≤ maxLen := hs b (by simp)
  clear hs
  by_cases hl : longB [a, b] = true
  · have Hl := Lib.hid hl
    clear hl
    go_enter Try.func9, Try.ntmps9
    go_wp2_with fail
    refine (works_any _).mono ?_
    rintro x w1 ⟨rfl, hb⟩
    have Hb0 := Lib.hid hb
    clear hb
    go_wp2_with fail
    refine (long_any [a, b] _ 2 _ rfl (by omega) (heap_alloc_new _ _) Hs1.out).mono ?_
    rintro x _ ⟨rfl, rfl⟩
    rw [Hl.out]
    have Hb1 := Lib.hid (Hb0.out.alloc Hb0.out.size (.cells #[.string a, .string b] 9))
    go_wp2_with fail
    refine (works_any _).mono ?_
    rintro x w9 ⟨rfl, hb2⟩
    go_wp2_with fail
    go_ret
    exact ⟨rfl, Hb1.out.trans (hb2.mono Hb1.out.size)⟩
  have Hl : Hid (longB [a, b] = false) := Bool.eq_false_iff.2 hl
  clear hl
  have ka : a.size < 9000 := long_no Hl.out a (by simp)
  have kb : b.size < 9000 := long_no Hl.out b (by simp)
  obtain ⟨p, hp⟩ : ∃ p, lcp (bl a) (bl b) = p := ⟨_, rfl⟩
  have HP := Lib.hid hp
  obtain ⟨m, hm⟩ : ∃ m, m = min a.size b.size := ⟨_, rfl⟩
  obtain ⟨s, hs⟩ : ∃ s, lcs (bl a) (bl b) ((m : Int) - (p : Int)) = s := ⟨_, rfl⟩
  have M := mids_of (bl a) (bl b) p s m hp (by rw [bl_len, bl_len]; exact hm) hs
  have pa := M.pa
  have pb := M.pb
  rw [bl_len] at pa pb
  have HSX := Lib.hid hs
  clear hp hs
  obtain ⟨xa, hxa⟩ : ∃ x, a.extract p (a.size - s) = x := ⟨_, rfl⟩
  obtain ⟨yb, hyb⟩ : ∃ x, b.extract p (b.size - s) = x := ⟨_, rfl⟩
  obtain ⟨b1, hb1⟩ : ∃ x, b.extract 0 p = x := ⟨_, rfl⟩
  obtain ⟨b2, hb2⟩ : ∃ x, b.extract (b.size - s) b.size = x := ⟨_, rfl⟩
  obtain ⟨a1, ha1⟩ : ∃ x, a.extract 0 p = x := ⟨_, rfl⟩
  obtain ⟨a2, ha2⟩ : ∃ x, a.extract (a.size - s) a.size = x := ⟨_, rfl⟩
  have E1 : Hid (((b1 ++ xa) ++ b2).toList == a.toList) := by
    show _ = _
    rw [beq_iff_eq, tl, tl, bl_append, bl_append, ← hb1, ← hxa, ← hb2, bl_extract, bl_extract, bl_extract]
    have := M.again
    rw [bl_len, bl_len] at this
    simpa [List.take_of_length_le, bl_len] using this
  have E2 : Hid (((a1 ++ yb) ++ a2).toList == b.toList) := by
    show _ = _
    rw [beq_iff_eq, tl, tl, bl_append, bl_append, ← ha1, ← hyb, ← ha2, bl_extract, bl_extract, bl_extract]
    have := M.swap.again
    rw [bl_len, bl_len] at this
    simpa [List.take_of_length_le, bl_len] using this
  have z1 : xa.size < 9000 := by rw [← hxa, size_extract _ _ _ (by omega)]; omega
  have z2 : yb.size < 9000 := by rw [← hyb, size_extract _ _ _ (by omega)]; omega
  have z3 : b1.size < 9000 := by rw [← hb1, size_extract _ _ _ (by omega)]; omega
  have z4 : b2.size < 9000 := by rw [← hb2, size_extract _ _ _ (by omega)]; omega
  have z5 : a1.size < 9000 := by rw [← ha1, size_extract _ _ _ (by omega)]; omega
  have z6 : a2.size < 9000 := by rw [← ha2, size_extract _ _ _ (by omega)]; omega
  have HXA := Lib.hid hxa
  have HYB := Lib.hid hyb
  have HB1 := Lib.hid hb1
  have HB2 := Lib.hid hb2
  have HA1 := Lib.hid ha1
  have HA2 := Lib.hid ha2
  have HM := Lib.hid M
  clear hxa hyb hb1 hb2 ha1 ha2 M
  by_cases ab : b.size < a.size
  · obtain rfl : m = b.size := by omega
    clear hm
    go_enter Try.func9, Try.ntmps9
    go_wp2_with fail
    refine (works_any _).mono ?_
    rintro x w1 ⟨rfl, hb⟩
    have Hb0 := Lib.hid hb
    clear hb
    go_wp2_with fail
    refine (long_any [a, b] _ 2 _ rfl (by omega) (heap_alloc_new _ _) Hs1.out).mono ?_
    rintro x _ ⟨rfl, rfl⟩
    rw [Hl.out]
    have Hb1 := Lib.hid (Hb0.out.alloc Hb0.out.size (.cells #[.string a, .string b] 9))
    go_wp2_with fail
    refine (prefix_co _ _ _ za zb).mono ?_
    rintro x w2 ⟨rfl, hs⟩
    have Hb2 := Lib.hid (hs.below Hb1.out)
    clear hs Hb1
    rw [HP.out]
    go_wp2_with fail
    refine (suffix_co _ _ _ _ za zb).mono ?_
    rintro x w3 ⟨rfl, hs⟩
    have Hb3 := Lib.hid (hs.below Hb2.out)
    clear hs Hb2
    rw [show lcs (bl a) (bl b) ((b.size : Int) - (p : Int)) = s from HSX.out]
    go_wp2_with fail
    have q1 : IntKind.i64.wrap ((a.size : Int) - (s : Int)) = (a.size : Int) - (s : Int) := IntWalk.i64_in _ (by omega)
    have q2 : IntKind.i64.wrap ((b.size : Int) - (s : Int)) = (b.size : Int) - (s : Int) := IntWalk.i64_in _ (by omega)
    have f1 := fun W => (sl_mid a p (a.size - s) ((a.size : Int) - (s : Int)) (by omega) (by omega) (by omega) W)
    have f2 := fun W => (sl_mid b p (b.size - s) ((b.size : Int) - (s : Int)) (by omega) (by omega) (by omega) W)
    rw [HXA.out] at f1
    rw [HYB.out] at f2
    go_quiet (fail)
    clear f1 f2
    have g1 := sl_to b p (by omega)
    have g2 := sl_from b (b.size - s) ((b.size : Int) - (s : Int)) (by omega) (by omega)
    have g3 := sl_to a p (by omega)
    have g4 := sl_from a (a.size - s) ((a.size : Int) - (s : Int)) (by omega) (by omega)
    rw [HB1.out] at g1
    rw [HB2.out] at g2
    rw [HA1.out] at g3
    rw [HA2.out] at g4
    have e1 := E1.out
    have e2 := E2.out
    go_wp2_with fail
    go_quiet (fail)
    clear g1 g2 g3 g4 e1 e2 q1 q2
    go_wp2_with fail
    by_cases cx : xa.toList = []
    · have cx' : xa.toList.isEmpty = true := by rw [cx]; rfl
      go_quiet (fail)
      go_wp2_with fail
      go_ret
      exact ⟨rfl, by repeat (first | exact Hb3.out | refine (SameW.drewN _ _).below ?_)⟩
    · have cx' : xa.toList.isEmpty = false := by rw [List.isEmpty_eq_false_iff]; exact cx
      by_cases cy : yb.toList = []
      · have cy' : yb.toList.isEmpty = true := by rw [cy]; rfl
        go_quiet (fail)
        go_wp2_with fail
        go_ret
        exact ⟨rfl, by repeat (first | exact Hb3.out | refine (SameW.drewN _ _).below ?_)⟩
      · have cy' : yb.toList.isEmpty = false := by rw [List.isEmpty_eq_false_iff]; exact cy
        have n1 : 0 < xa.size := by
          rcases Nat.eq_zero_or_pos xa.size with h | h
          · exact absurd (List.eq_nil_of_length_eq_zero (by rw [tl, bl_len]; exact h)) cx
          · exact h
        have n2 : 0 < yb.size := by
          rcases Nat.eq_zero_or_pos yb.size with h | h
          · exact absurd (List.eq_nil_of_length_eq_zero (by rw [tl, bl_len]; exact h)) cy
          · exact h
        have i1 : IntKind.i64.wrap ((xa.size : Int) - 1) = (xa.size : Int) - 1 := IntWalk.i64_in _ (by omega)
        have i2 : IntKind.i64.wrap ((yb.size : Int) - 1) = (yb.size : Int) - 1 := IntWalk.i64_in _ (by omega)
        have x0 := fun W => index_nat xa 0 W n1
        have y0 := fun W => index_nat yb 0 W n2
        have x1 : ∀ W : World, (Instr.index 9 (.string xa) (.int .i64 ((xa.size : Int) - 1))).run Try.prog W = .ok (.int .u8 (xa[xa.size - 1].toNat : Int)) W := fun W => by
          rw [show (xa.size : Int) - 1 = ((xa.size - 1 : Nat) : Int) from by omega]; exact index_nat xa _ W (by omega)
        have y1 : ∀ W : World, (Instr.index 9 (.string yb) (.int .i64 ((yb.size : Int) - 1))).run Try.prog W = .ok (.int .u8 (yb[yb.size - 1].toNat : Int)) W := fun W => by
          rw [show (yb.size : Int) - 1 = ((yb.size - 1 : Nat) : Int) from by omega]; exact index_nat yb _ W (by omega)
        have sx : xa.size = a.size - s - p := by rw [← HXA.out, size_extract _ _ _ (by omega)]
        have sy : yb.size = b.size - s - p := by rw [← HYB.out, size_extract _ _ _ (by omega)]
        have bx : ∀ j, j < xa.size → (bl xa).getD j 0 = (bl a).getD (p + j) 0 := fun j hj => by
          rw [← HXA.out, bl_extract]; exact mid_getD _ _ _ _ (by omega)
        have by' : ∀ j, j < yb.size → (bl yb).getD j 0 = (bl b).getD (p + j) 0 := fun j hj => by
          rw [← HYB.out, bl_extract]; exact mid_getD _ _ _ _ (by omega)
        have v0 : ((xa[0].toNat : Int) != (yb[0].toNat : Int)) = true := u8_int_nq (by
          rw [bl_at xa 0 n1, bl_at yb 0 n2, bx 0 n1, by' 0 n2]
          exact HM.out.head (by rw [bl_len]; omega) (by rw [bl_len]; omega))
        have p1 : xa.size - 1 < xa.size := by omega
        have p2 : yb.size - 1 < yb.size := by omega
        have v1 : ((xa[xa.size - 1].toNat : Int) != (yb[yb.size - 1].toNat : Int)) = true := u8_int_nq (by
          rw [bl_at xa _ p1, bl_at yb _ p2, bx _ p1, by' _ p2]
          have := HM.out.last (by rw [bl_len]; omega) (by rw [bl_len]; omega)
          rw [bl_len, bl_len] at this
          rw [show p + (xa.size - 1) = a.size - 1 - s from by omega, show p + (yb.size - 1) = b.size - 1 - s from by omega]
          exact this)
        clear sx sy bx by'
        go_quiet (fail)
        go_wp2_with fail
        go_ret
        exact ⟨rfl, by repeat (first | exact Hb3.out | refine (SameW.drewN _ _).below ?_)⟩
  obtain rfl : m = a.size := by omega
  clear hm
  go_enter Try.func9, Try.ntmps9
  go_wp2_with fail
  refine (works_any _).mono ?_
  rintro x w1 ⟨rfl, hb⟩
  have Hb0 := Lib.hid hb
  clear hb
  go_wp2_with fail
  refine (long_any [a, b] _ 2 _ rfl (by omega) (heap_alloc_new _ _) Hs1.out).mono ?_
  rintro x _ ⟨rfl, rfl⟩
  rw [Hl.out]
  have Hb1 := Lib.hid (Hb0.out.alloc Hb0.out.size (.cells #[.string a, .string b] 9))
  go_wp2_with fail
  refine (prefix_co _ _ _ za zb).mono ?_
  rintro x w2 ⟨rfl, hs⟩
  have Hb2 := Lib.hid (hs.below Hb1.out)
  clear hs Hb1
  rw [HP.out]
  go_wp2_with fail
  refine (suffix_co _ _ _ _ za zb).mono ?_
  rintro x w3 ⟨rfl, hs⟩
  have Hb3 := Lib.hid (hs.below Hb2.out)
  clear hs Hb2
  rw [show lcs (bl a) (bl b) ((a.size : Int) - (p : Int)) = s from HSX.out]
  go_wp2_with fail
  have q1 : IntKind.i64.wrap ((a.size : Int) - (s : Int)) = (a.size : Int) - (s : Int) := IntWalk.i64_in _ (by omega)
  have q2 : IntKind.i64.wrap ((b.size : Int) - (s : Int)) = (b.size : Int) - (s : Int) := IntWalk.i64_in _ (by omega)
  have f1 := fun W => (sl_mid a p (a.size - s) ((a.size : Int) - (s : Int)) (by omega) (by omega) (by omega) W)
  have f2 := fun W => (sl_mid b p (b.size - s) ((b.size : Int) - (s : Int)) (by omega) (by omega) (by omega) W)
  rw [HXA.out] at f1
  rw [HYB.out] at f2
  go_quiet (fail)
  clear f1 f2
  have g1 := sl_to b p (by omega)
  have g2 := sl_from b (b.size - s) ((b.size : Int) - (s : Int)) (by omega) (by omega)
  have g3 := sl_to a p (by omega)
  have g4 := sl_from a (a.size - s) ((a.size : Int) - (s : Int)) (by omega) (by omega)
  rw [HB1.out] at g1
  rw [HB2.out] at g2
  rw [HA1.out] at g3
  rw [HA2.out] at g4
  have e1 := E1.out
  have e2 := E2.out
  go_wp2_with fail
  go_quiet (fail)
  clear g1 g2 g3 g4 e1 e2 q1 q2
  go_wp2_with fail
  by_cases cx : xa.toList = []
  · have cx' : xa.toList.isEmpty = true := by rw [cx]; rfl
    go_quiet (fail)
    go_wp2_with fail
    go_ret
    exact ⟨rfl, by repeat (first | exact Hb3.out | refine (SameW.drewN _ _).below ?_)⟩
  · have cx' : xa.toList.isEmpty = false := by rw [List.isEmpty_eq_false_iff]; exact cx
    by_cases cy : yb.toList = []
    · have cy' : yb.toList.isEmpty = true := by rw [cy]; rfl
      go_quiet (fail)
      go_wp2_with fail
      go_ret
      exact ⟨rfl, by repeat (first | exact Hb3.out | refine (SameW.drewN _ _).below ?_)⟩
    · have cy' : yb.toList.isEmpty = false := by rw [List.isEmpty_eq_false_iff]; exact cy
      have n1 : 0 < xa.size := by
        rcases Nat.eq_zero_or_pos xa.size with h | h
        · exact absurd (List.eq_nil_of_length_eq_zero (by rw [tl, bl_len]; exact h)) cx
        · exact h
      have n2 : 0 < yb.size := by
        rcases Nat.eq_zero_or_pos yb.size with h | h
        · exact absurd (List.eq_nil_of_length_eq_zero (by rw [tl, bl_len]; exact h)) cy
        · exact h
      have i1 : IntKind.i64.wrap ((xa.size : Int) - 1) = (xa.size : Int) - 1 := IntWalk.i64_in _ (by omega)
      have i2 : IntKind.i64.wrap ((yb.size : Int) - 1) = (yb.size : Int) - 1 := IntWalk.i64_in _ (by omega)
      have x0 := fun W => index_nat xa 0 W n1
      have y0 := fun W => index_nat yb 0 W n2
      have x1 : ∀ W : World, (Instr.index 9 (.string xa) (.int .i64 ((xa.size : Int) - 1))).run Try.prog W = .ok (.int .u8 (xa[xa.size - 1].toNat : Int)) W := fun W => by
        rw [show (xa.size : Int) - 1 = ((xa.size - 1 : Nat) : Int) from by omega]; exact index_nat xa _ W (by omega)
      have y1 : ∀ W : World, (Instr.index 9 (.string yb) (.int .i64 ((yb.size : Int) - 1))).run Try.prog W = .ok (.int .u8 (yb[yb.size - 1].toNat : Int)) W := fun W => by
        rw [show (yb.size : Int) - 1 = ((yb.size - 1 : Nat) : Int) from by omega]; exact index_nat yb _ W (by omega)
      have sx : xa.size = a.size - s - p := by rw [← HXA.out, size_extract _ _ _ (by omega)]
      have sy : yb.size = b.size - s - p := by rw [← HYB.out, size_extract _ _ _ (by omega)]
      have bx : ∀ j, j < xa.size → (bl xa).getD j 0 = (bl a).getD (p + j) 0 := fun j hj => by
        rw [← HXA.out, bl_extract]; exact mid_getD _ _ _ _ (by omega)
      have by' : ∀ j, j < yb.size → (bl yb).getD j 0 = (bl b).getD (p + j) 0 := fun j hj => by
        rw [← HYB.out, bl_extract]; exact mid_getD _ _ _ _ (by omega)
      have v0 : ((xa[0].toNat : Int) != (yb[0].toNat : Int)) = true := u8_int_nq (by
        rw [bl_at xa 0 n1, bl_at yb 0 n2, bx 0 n1, by' 0 n2]
        exact HM.out.head (by rw [bl_len]; omega) (by rw [bl_len]; omega))
      have p1 : xa.size - 1 < xa.size := by omega
      have p2 : yb.size - 1 < yb.size := by omega
      have v1 : ((xa[xa.size - 1].toNat : Int) != (yb[yb.size - 1].toNat : Int)) = true := u8_int_nq (by
        rw [bl_at xa _ p1, bl_at yb _ p2, bx _ p1, by' _ p2]
        have := HM.out.last (by rw [bl_len]; omega) (by rw [bl_len]; omega)
        rw [bl_len, bl_len] at this
        rw [show p + (xa.size - 1) = a.size - 1 - s from by omega, show p + (yb.size - 1) = b.size - 1 - s from by omega]
        exact this)
      clear sx sy bx by'
      go_quiet (fail)
      go_wp2_with fail
      go_ret
      exact ⟨rfl, by repeat (first | exact Hb3.out | refine (SameW.drewN _ _).below ?_)⟩

theorem walk (a : ByteArray) (ha : a.size ≤ maxLen) (b : ByteArray) (hb : b.size ≤ maxLen) (w : World) :
    Calls Try.prog 9 #[.string a, .string b] w fun e w' => e = .returned (.bool true) ∧ Below w.heap.size w w' :=
  walk_in a b w (by intro s h; simp at h; rcases h with rfl | rfl <;> assumption)


set_option maxRecDepth 100000 in
theorem lifted (os : Os) (started : os.Started) (H : Type) (enc : TypeId × Value → H) :
    ReturnsInHanded {} Try.checked os 9 .any (Rows.textMiddlesSpec.pre6 enc Try.prog Try.f9 Rows.textMiddlesRow.domain false) (Rows.textMiddlesSpec.post enc Try.prog Try.f9 false true false false) := by
  refine returnsInHanded_of_change_sized (C := Try.checked) own started (by kernel_rfl) Try.func9
    (ChangeSpec.witness6 (enc := enc) (C := Try.checked) false ⟨#[], #[.string ⟨#[]⟩, .string ⟨#[]⟩], []⟩ 8 (by kernel_rfl) (by kernel_rfl) (by kernel_rfl) (by kernel_rfl)) ?_
  intro W base args ds gs before hval0 hW _ hsz _
  have hval : ∀ (j : Nat) t v, Try.f9.params[j]? = some t → args[j]? = some v → Value.okWide Try.prog W .any base t v := hval0
  have hW' := hW
  obtain ⟨p, q, hA0, hV, hbef, _, _⟩ := hW
  have hA : DataW.TrodAll enc Try.prog W 0 (fun _ => true) true Try.f9.params.toList args.toList ds p := hA0
  rw [Try.params9] at hA hval
  obtain ⟨v0, vs0, d0, ds0, p0, q0, hargs, rfl, rfl, h0, r0⟩ := trodAll_cons hA
  obtain ⟨v1, vs1, d1, ds1, p1, q1, rfl, rfl, rfl, h1, r1⟩ := trodAll_cons r0
  obtain ⟨rfl, rfl, rfl⟩ := trodAll_nil r1
  obtain rfl : args = #[v0, v1] := by cases args; simp_all
  obtain ⟨rfl, rfl⟩ := trodVars_none hV
  obtain ⟨s0, rfl, _, _, w0⟩ := open_string Try.underlying9 (hval 0 9 v0 rfl rfl) h0
  obtain ⟨s1, rfl, _, _, w1⟩ := open_string Try.underlying9 (hval 1 9 v1 rfl rfl) h1
  refine (walk s0 w0 s1 w1 W).mono fun e W' ⟨he, hb⟩ => ?_
  subst he
  exact ⟨_, rfl, law_post laidOut (of_decide_eq_true (by kernel_rfl)) rfl Try.underlying4 rfl rfl hW' hb⟩

theorem over : Rows.textMiddlesRow.holds Try.pinned (OpenSpec.ofChange Rows.textMiddlesSpec) :=
  OpenClaim.holds_of_wide 9 Try.f9 rfl rfl rfl rfl rfl rfl rfl ⟨rfl, rfl, rfl, rfl, rfl⟩ rfl rfl rfl rfl rfl (by kernel_rfl) Try.func9 (by kernel_rfl)
    (of_decide_eq_true (by kernel_rfl)) (by unfold Func.isWrapper; first | (rw [if_pos (by decide +kernel)]; kernel_rfl) | (rw [if_neg (by decide +kernel)]; exact ⟨rfl, rfl⟩))
    (fun os started H enc _ => lifted os started H enc)

end Go.Proofs.Ytilaghjboiikdaa.textMiddles
namespace Go.Proofs.Ytilaghjboiikdaa
theorem textMiddles_holds : Rows.TextMiddlesSaid := textMiddles.over
end Go.Proofs.Ytilaghjboiikdaa
