/-
Two texts stand as what stands behind their common beginning does, whatever stands ahead of both, or behind both; no condition.
-/
import Derived.Test.YtilaghjboiikdaaLF
import Derived.Test.YtilaghjboiikdaaC
import Derived.ChangeMaps5
import Derived.Test.YtilaghjboiikdaaM0
import Derived.IntWalk
namespace Go.Proofs.Ytilaghjboiikdaa.textUnlike
open Go.ChangeShapes Go.WideShapes Go.ChangeAt Go.RowKit Go.ChangeMaps
set_option linter.unusedVariables false

theorem own : ownKnob Try.prog.godebug = none := by kernel_rfl
theorem laidOut : laidOutB Try.prog = true := by kernel_rfl

theorem cmpq (a b : ByteArray) (w : World) (x : Int) (h : co a b = x) : Calls Try.prog 17 #[.string a, .string b] w fun e w' => e = .returned (.int .i64 x) ∧ w' = w := by
  refine (cmp_co a b w).mono ?_
  rintro e w' ⟨rfl, rfl⟩
  exact ⟨by rw [h], rfl⟩
theorem prefq (a b : ByteArray) (w : World) (x : Int) (ha : a.size ≤ maxLen) (hb : b.size ≤ maxLen) (h : (lcp (bl a) (bl b) : Int) = x) : Calls Try.prog 19 #[.string a, .string b] w fun e w' => e = .returned (.int .i64 x) ∧ ∃ m, w' = w.drewN m := by
  refine (prefix_any a b w ha hb).mono ?_
  rintro e w' ⟨rfl, d, rfl⟩
  exact ⟨by rw [h], d, rfl⟩
set_option maxRecDepth 100000 in
set_option maxHeartbeats 4000000 in
theorem walk_in (a b h q r : ByteArray) (w : World) (hs1 : ∀ s ∈ [a, b, h], s.size ≤ maxLen) (hs2 : ∀ s ∈ [q, r], s.size ≤ maxLen) :
    Calls Try.prog 8 #[.string a, .string b, .string h, .string q, .string r] w fun e w' => e = .returned (.bool true) ∧ Below w.heap.size w w' := by
  have Hs1 := Lib.hid hs1
  have Hs2 := Lib.hid hs2
  have za : a.size ≤ maxLen := hs1 a (by simp)
  have zb : b.size ≤ maxLen := hs1 b (by simp)
  clear hs1 hs2
  by_cases hl : longB [a, b, h] = true
  · have Hl1 := Lib.hid hl
    clear hl
    go_enter Try.func8, Try.ntmps8
    go_wp2_with fail
    refine (works_any _).mono ?_
    rintro x w1 ⟨rfl, hb⟩
    have Hb0 := Lib.hid hb
    clear hb
    go_wp2_with fail
    refine (long_any [a, b, h] _ 3 _ rfl (by omega) (heap_alloc_new _ _) Hs1.out).mono ?_
    rintro x _ ⟨rfl, rfl⟩
    rw [Hl1.out]
    have Hb1 := Lib.hid (Hb0.out.alloc Hb0.out.size (.cells #[.string a, .string b, .string h] 9))
    go_wp2_with fail
    refine (works_any _).mono ?_
    rintro x w9 ⟨rfl, hb2⟩
    go_wp2_with fail
    go_ret
    exact ⟨rfl, Hb1.out.trans (hb2.mono Hb1.out.size)⟩
  have Hl1 : Hid (longB [a, b, h] = false) := Bool.eq_false_iff.2 hl
  clear hl
  by_cases hl : longB [q, r] = true
  · have Hl2 := Lib.hid hl
    clear hl
    go_enter Try.func8, Try.ntmps8
    go_wp2_with fail
    refine (works_any _).mono ?_
    rintro x w1 ⟨rfl, hb⟩
    have Hb0 := Lib.hid hb
    clear hb
    go_wp2_with fail
    refine (long_any [a, b, h] _ 3 _ rfl (by omega) (heap_alloc_new _ _) Hs1.out).mono ?_
    rintro x _ ⟨rfl, rfl⟩
    rw [Hl1.out]
    have Hb1 := Lib.hid (Hb0.out.alloc Hb0.out.size (.cells #[.string a, .string b, .string h] 9))
    go_wp2_with fail
    refine (long_any [q, r] _ 2 _ rfl (by omega) (heap_alloc2_new _ _ _) Hs2.out).mono ?_
    rintro x _ ⟨rfl, rfl⟩
    rw [Hl2.out]
    have Hb2 := Lib.hid (Hb1.out.alloc Hb1.out.size (.cells #[.string q, .string r] 9))
    go_wp2_with fail
    refine (works_any _).mono ?_
    rintro x w9 ⟨rfl, hb2⟩
    go_wp2_with fail
    go_ret
    exact ⟨rfl, Hb2.out.trans (hb2.mono Hb2.out.size)⟩
  have Hl2 : Hid (longB [q, r] = false) := Bool.eq_false_iff.2 hl
  clear hl
  have ka : a.size < 9000 := long_no Hl1.out a (by simp)
  have kb : b.size < 9000 := long_no Hl1.out b (by simp)
  have kh : h.size < 9000 := long_no Hl1.out h (by simp)
  have kq : q.size < 9000 := long_no Hl2.out q (by simp)
  have kr : r.size < 9000 := long_no Hl2.out r (by simp)
  obtain ⟨p, hp⟩ : ∃ p, lcp (bl a) (bl b) = p := ⟨_, rfl⟩
  obtain ⟨x, hx⟩ : ∃ x, co a b = x := ⟨_, rfl⟩
  obtain ⟨a1, ha1⟩ : ∃ x, a.extract 0 p = x := ⟨_, rfl⟩
  obtain ⟨b1, hb1⟩ : ∃ x, b.extract 0 p = x := ⟨_, rfl⟩
  obtain ⟨a2, ha2⟩ : ∃ x, a.extract p a.size = x := ⟨_, rfl⟩
  obtain ⟨b2, hb2⟩ : ∃ x, b.extract p b.size = x := ⟨_, rfl⟩
  have hle := lcp_le (bl a) (bl b)
  rw [hp, bl_len, bl_len] at hle
  have pa := hle.1
  have pb := hle.2
  have HP := Lib.hid hp
  have HX := Lib.hid hx
  have HA1 := Lib.hid ha1
  have HB1 := Lib.hid hb1
  have HA2 := Lib.hid ha2
  have HB2 := Lib.hid hb2
  have E1 : Hid ((a1.toList == b1.toList) = true) := by
    show _ = _
    rw [beq_iff_eq, tl, tl, ← ha1, ← hb1, bl_extract, bl_extract, List.drop_zero, List.drop_zero, Nat.sub_zero]
    exact take_same _ _ p (by rw [bl_len]; omega) (by rw [bl_len]; omega) (fun j hj => lcp_same _ _ j (by omega))
  have HX2 : Hid (co a2 b2 = x) := by
    show _ = _
    rw [← hx, ← ha2, ← hb2]
    unfold co
    rw [bl_extract, bl_extract, List.take_of_length_le (by rw [List.length_drop, bl_len]; omega), List.take_of_length_le (by rw [List.length_drop, bl_len]; omega)]
    exact cb_drop _ _ p (by omega)
  have HX3 : Hid (co (h ++ a) (h ++ b) = x) := by
    show _ = _
    rw [← hx]; unfold co; rw [bl_append, bl_append, cb_ahead]
  have HPP : Hid ((lcp (bl (h ++ a)) (bl (h ++ b)) : Int) = (h.size : Int) + (p : Int)) := by
    show _ = _
    rw [bl_append, bl_append, lcp_ahead, hp, bl_len]; omega
  have HX4 : Hid (p < a.size → p < b.size → co (a ++ q) (b ++ r) = x) := fun h1 h2 => by
    rw [← hx]; unfold co; rw [bl_append, bl_append]
    exact cb_behind _ _ _ _ (by rw [hp, bl_len]; exact h1) (by rw [hp, bl_len]; exact h2)
  have HS1 : Hid ((h ++ a).size ≤ maxLen) := by show _ ≤ _; rw [size_append]; unfold maxLen; omega
  have HS2 : Hid ((h ++ b).size ≤ maxLen) := by show _ ≤ _; rw [size_append]; unfold maxLen; omega
  clear hp hx ha1 hb1 ha2 hb2 hle
  by_cases c1 : p < a.size
  · by_cases c2 : p < b.size
    · have HX4' := Lib.hid (HX4.out c1 c2)
      clear HX4
      have HX4 := HX4'
      have nq0 : a[p] ≠ b[p] := by
        rw [bl_at a p c1, bl_at b p c2]
        have := lcp_unlike (bl a) (bl b) (by rw [HP.out, bl_len]; exact c1) (by rw [HP.out, bl_len]; exact c2)
        rwa [HP.out] at this
      have ne := u8_int_ne nq0
      clear nq0
      go_enter Try.func8, Try.ntmps8
      go_wp2_with fail
      refine (works_any _).mono ?_
      rintro x w1 ⟨rfl, hb⟩
      have Hb0 := Lib.hid hb
      clear hb
      go_wp2_with fail
      refine (long_any [a, b, h] _ 3 _ rfl (by omega) (heap_alloc_new _ _) Hs1.out).mono ?_
      rintro x _ ⟨rfl, rfl⟩
      rw [Hl1.out]
      have Hb1 := Lib.hid (Hb0.out.alloc Hb0.out.size (.cells #[.string a, .string b, .string h] 9))
      go_wp2_with fail
      refine (long_any [q, r] _ 2 _ rfl (by omega) (heap_alloc2_new _ _ _) Hs2.out).mono ?_
      rintro x _ ⟨rfl, rfl⟩
      rw [Hl2.out]
      have Hb2 := Lib.hid (Hb1.out.alloc Hb1.out.size (.cells #[.string q, .string r] 9))
      go_wp2_with fail
      refine (prefix_co _ _ _ za zb).mono ?_
      rintro x w2 ⟨rfl, hs⟩
      have Hb3 := Lib.hid (hs.below Hb2.out)
      clear hs Hb2
      rw [HP.out]
      go_wp2_with fail
      have f1 := sl_to a p (by omega)
      have f2 := sl_to b p (by omega)
      rw [HA1.out] at f1
      rw [HB1.out] at f2
      have e1 := E1.out
      have t0 : decide ((p : Int) < 0) = false := decide_eq_false (by omega)
      have t1 : decide (a.size < p) = false := decide_eq_false (by omega)
      have t2 : decide (b.size < p) = false := decide_eq_false (by omega)
      go_wp2_with fail
      go_quiet (fail)
      clear f1 f2 e1 t0 t1 t2
      clear ne
      have Hb4 := Lib.hid ((SameW.drewN w2 nq).below Hb3.out)
      generalize w2.drewN nq = w4 at *
      clear Hb3
      go_wp2_with fail
      refine (cmp_co _ _ _).mono ?_
      rintro x _ ⟨rfl, rfl⟩
      rw [HX.out]
      have g1 := sl_from a p (p : Int) rfl (by omega)
      have g2 := sl_from b p (p : Int) rfl (by omega)
      rw [HA2.out] at g1
      rw [HB2.out] at g2
      have s1 : IntKind.i64.wrap ((h.size : Int) + (p : Int)) = (h.size : Int) + (p : Int) := IntWalk.i64_in _ (by omega)
      have m1 : (h ++ a).size ≤ maxLen := HS1.out
      have m2 : (h ++ b).size ≤ maxLen := HS2.out
      go_wp2_with fail
      go_quiet ((first | (go_at_call 17; first | exact Calls.quiet_of_same (cmpq _ _ _ _ HX2.out) | exact Calls.quiet_of_same (cmpq _ _ _ _ HX3.out)) | (go_at_call 19; exact Calls.quiet_of (prefq _ _ _ _ HS1.out HS2.out HPP.out))))
      clear g1 g2 s1 m1 m2
      go_wp2_with fail
      refine (cmp_co _ _ _).mono ?_
      rintro x _ ⟨rfl, rfl⟩
      rw [HX4.out]
      go_wp2_with fail
      go_ret
      exact ⟨rfl, by repeat (first | exact Hb4.out | refine (SameW.drewN _ _).below ?_)⟩
    · have c2' : decide (p < b.size) = false := decide_eq_false c2
      have k2 : b.size ≤ p := by omega
      have c1' : decide (p < a.size) = true := decide_eq_true c1
      have K2 := Lib.hid k2
      clear c2 k2
      go_enter Try.func8, Try.ntmps8
      go_wp2_with fail
      refine (works_any _).mono ?_
      rintro x w1 ⟨rfl, hb⟩
      have Hb0 := Lib.hid hb
      clear hb
      go_wp2_with fail
      refine (long_any [a, b, h] _ 3 _ rfl (by omega) (heap_alloc_new _ _) Hs1.out).mono ?_
      rintro x _ ⟨rfl, rfl⟩
      rw [Hl1.out]
      have Hb1 := Lib.hid (Hb0.out.alloc Hb0.out.size (.cells #[.string a, .string b, .string h] 9))
      go_wp2_with fail
      refine (long_any [q, r] _ 2 _ rfl (by omega) (heap_alloc2_new _ _ _) Hs2.out).mono ?_
      rintro x _ ⟨rfl, rfl⟩
      rw [Hl2.out]
      have Hb2 := Lib.hid (Hb1.out.alloc Hb1.out.size (.cells #[.string q, .string r] 9))
      go_wp2_with fail
      refine (prefix_co _ _ _ za zb).mono ?_
      rintro x w2 ⟨rfl, hs⟩
      have Hb3 := Lib.hid (hs.below Hb2.out)
      clear hs Hb2
      rw [HP.out]
      go_wp2_with fail
      have f1 := sl_to a p (by omega)
      have f2 := sl_to b p (by omega)
      rw [HA1.out] at f1
      rw [HB1.out] at f2
      have e1 := E1.out
      have t0 : decide ((p : Int) < 0) = false := decide_eq_false (by omega)
      have t1 : decide (a.size < p) = false := decide_eq_false (by omega)
      have t2 : decide (b.size < p) = false := decide_eq_false (by omega)
      go_wp2_with fail
      go_quiet (fail)
      clear f1 f2 e1 t0 t1 t2
      have Hb4 := Lib.hid ((SameW.drewN w2 nq).below Hb3.out)
      generalize w2.drewN nq = w4 at *
      clear Hb3
      go_wp2_with fail
      refine (cmp_co _ _ _).mono ?_
      rintro x _ ⟨rfl, rfl⟩
      rw [HX.out]
      have g1 := sl_from a p (p : Int) rfl (by omega)
      have g2 := sl_from b p (p : Int) rfl (by omega)
      rw [HA2.out] at g1
      rw [HB2.out] at g2
      have s1 : IntKind.i64.wrap ((h.size : Int) + (p : Int)) = (h.size : Int) + (p : Int) := IntWalk.i64_in _ (by omega)
      have m1 : (h ++ a).size ≤ maxLen := HS1.out
      have m2 : (h ++ b).size ≤ maxLen := HS2.out
      have k2 := K2.out
      go_wp2_with fail
      go_quiet ((first | (go_at_call 17; first | exact Calls.quiet_of_same (cmpq _ _ _ _ HX2.out) | exact Calls.quiet_of_same (cmpq _ _ _ _ HX3.out)) | (go_at_call 19; exact Calls.quiet_of (prefq _ _ _ _ HS1.out HS2.out HPP.out))))
      clear g1 g2 s1 m1 m2
      go_wp2_with fail
      go_ret
      exact ⟨rfl, by repeat (first | exact Hb4.out | refine (SameW.drewN _ _).below ?_)⟩
  · have c1' : decide (p < a.size) = false := decide_eq_false c1
    have k1 : a.size ≤ p := by omega
    have K2 := Lib.hid k1
    clear c1 k1
    go_enter Try.func8, Try.ntmps8
    go_wp2_with fail
    refine (works_any _).mono ?_
    rintro x w1 ⟨rfl, hb⟩
    have Hb0 := Lib.hid hb
    clear hb
    go_wp2_with fail
    refine (long_any [a, b, h] _ 3 _ rfl (by omega) (heap_alloc_new _ _) Hs1.out).mono ?_
    rintro x _ ⟨rfl, rfl⟩
    rw [Hl1.out]
    have Hb1 := Lib.hid (Hb0.out.alloc Hb0.out.size (.cells #[.string a, .string b, .string h] 9))
    go_wp2_with fail
    refine (long_any [q, r] _ 2 _ rfl (by omega) (heap_alloc2_new _ _ _) Hs2.out).mono ?_
    rintro x _ ⟨rfl, rfl⟩
    rw [Hl2.out]
    have Hb2 := Lib.hid (Hb1.out.alloc Hb1.out.size (.cells #[.string q, .string r] 9))
    go_wp2_with fail
    refine (prefix_co _ _ _ za zb).mono ?_
    rintro x w2 ⟨rfl, hs⟩
    have Hb3 := Lib.hid (hs.below Hb2.out)
    clear hs Hb2
    rw [HP.out]
    go_wp2_with fail
    have f1 := sl_to a p (by omega)
    have f2 := sl_to b p (by omega)
    rw [HA1.out] at f1
    rw [HB1.out] at f2
    have e1 := E1.out
    have t0 : decide ((p : Int) < 0) = false := decide_eq_false (by omega)
    have t1 : decide (a.size < p) = false := decide_eq_false (by omega)
    have t2 : decide (b.size < p) = false := decide_eq_false (by omega)
    go_wp2_with fail
    go_quiet (fail)
    clear f1 f2 e1 t0 t1 t2
    have Hb4 := Lib.hid ((SameW.drewN w2 nq).below Hb3.out)
    generalize w2.drewN nq = w4 at *
    clear Hb3
    go_wp2_with fail
    refine (cmp_co _ _ _).mono ?_
    rintro x _ ⟨rfl, rfl⟩
    rw [HX.out]
    have g1 := sl_from a p (p : Int) rfl (by omega)
    have g2 := sl_from b p (p : Int) rfl (by omega)
    rw [HA2.out] at g1
    rw [HB2.out] at g2
    have s1 : IntKind.i64.wrap ((h.size : Int) + (p : Int)) = (h.size : Int) + (p : Int) := IntWalk.i64_in _ (by omega)
    have m1 : (h ++ a).size ≤ maxLen := HS1.out
    have m2 : (h ++ b).size ≤ maxLen := HS2.out
    have k2 := K2.out
    go_wp2_with fail
    go_quiet ((first | (go_at_call 17; first | exact Calls.quiet_of_same (cmpq _ _ _ _ HX2.out) | exact Calls.quiet_of_same (cmpq _ _ _ _ HX3.out)) | (go_at_call 19; exact Calls.quiet_of (prefq _ _ _ _ HS1.out HS2.out HPP.out))))
    clear g1 g2 s1 m1 m2
    go_wp2_with fail
    go_ret
    exact ⟨rfl, by repeat (first | exact Hb4.out | refine (SameW.drewN _ _).below ?_)⟩

theorem walk (a : ByteArray) (ha : a.size ≤ maxLen) (b : ByteArray) (hb : b.size ≤ maxLen) (h : ByteArray) (hh : h.size ≤ maxLen) (q : ByteArray) (hq : q.size ≤ maxLen) (r : ByteArray) (hr : r.size ≤ maxLen) (w : World) :
    Calls Try.prog 8 #[.string a, .string b, .string h, .string q, .string r] w fun e w' => e = .returned (.bool true) ∧ Below w.heap.size w w' :=
  walk_in a b h q r w (by intro s hs; simp at hs; rcases hs with rfl | rfl | rfl <;> assumption) (by intro s hs; simp at hs; rcases hs with rfl | rfl <;> assumption)


set_option maxRecDepth 100000 in
theorem lifted (os : Os) (started : os.Started) (H : Type) (enc : TypeId × Value → H) :
    ReturnsInHanded {} Try.checked os 8 .any (Rows.textUnlikeSpec.pre6 enc Try.prog Try.f8 Rows.textUnlikeRow.domain false) (Rows.textUnlikeSpec.post enc Try.prog Try.f8 false true false false) := by
  refine returnsInHanded_of_change_sized (C := Try.checked) own started (by kernel_rfl) Try.func8
    (ChangeSpec.witness6 (enc := enc) (C := Try.checked) false ⟨#[], #[.string ⟨#[]⟩, .string ⟨#[]⟩, .string ⟨#[]⟩, .string ⟨#[]⟩, .string ⟨#[]⟩], []⟩ 8 (by kernel_rfl) (by kernel_rfl) (by kernel_rfl) (by kernel_rfl)) ?_
  intro W base args ds gs before hval0 hW _ hsz _
  have hval : ∀ (j : Nat) t v, Try.f8.params[j]? = some t → args[j]? = some v → Value.okWide Try.prog W .any base t v := hval0
  have hW' := hW
  obtain ⟨p, q, hA0, hV, hbef, _, _⟩ := hW
  have hA : DataW.TrodAll enc Try.prog W 0 (fun _ => true) true Try.f8.params.toList args.toList ds p := hA0
  rw [Try.params8] at hA hval
  obtain ⟨v0, vs0, d0, ds0, p0, q0, hargs, rfl, rfl, h0, r0⟩ := trodAll_cons hA
  obtain ⟨v1, vs1, d1, ds1, p1, q1, rfl, rfl, rfl, h1, r1⟩ := trodAll_cons r0
  obtain ⟨v2, vs2, d2, ds2, p2, q2, rfl, rfl, rfl, h2, r2⟩ := trodAll_cons r1
  obtain ⟨v3, vs3, d3, ds3, p3, q3, rfl, rfl, rfl, h3, r3⟩ := trodAll_cons r2
  obtain ⟨v4, vs4, d4, ds4, p4, q4, rfl, rfl, rfl, h4, r4⟩ := trodAll_cons r3
  obtain ⟨rfl, rfl, rfl⟩ := trodAll_nil r4
  obtain rfl : args = #[v0, v1, v2, v3, v4] := by cases args; simp_all
  obtain ⟨rfl, rfl⟩ := trodVars_none hV
  obtain ⟨s0, rfl, _, _, w0⟩ := open_string Try.underlying9 (hval 0 9 v0 rfl rfl) h0
  obtain ⟨s1, rfl, _, _, w1⟩ := open_string Try.underlying9 (hval 1 9 v1 rfl rfl) h1
  obtain ⟨s2, rfl, _, _, w2⟩ := open_string Try.underlying9 (hval 2 9 v2 rfl rfl) h2
  obtain ⟨s3, rfl, _, _, w3⟩ := open_string Try.underlying9 (hval 3 9 v3 rfl rfl) h3
  obtain ⟨s4, rfl, _, _, w4⟩ := open_string Try.underlying9 (hval 4 9 v4 rfl rfl) h4
  refine (walk s0 w0 s1 w1 s2 w2 s3 w3 s4 w4 W).mono fun e W' ⟨he, hb⟩ => ?_
  subst he
  exact ⟨_, rfl, law_post laidOut (of_decide_eq_true (by kernel_rfl)) rfl Try.underlying4 rfl rfl hW' hb⟩

theorem over : Rows.textUnlikeRow.holds Try.pinned (OpenSpec.ofChange Rows.textUnlikeSpec) :=
  OpenClaim.holds_of_wide 8 Try.f8 rfl rfl rfl rfl rfl rfl rfl ⟨rfl, rfl, rfl, rfl, rfl⟩ rfl rfl rfl rfl rfl (by kernel_rfl) Try.func8 (by kernel_rfl)
    (of_decide_eq_true (by kernel_rfl)) (by unfold Func.isWrapper; first | (rw [if_pos (by decide +kernel)]; kernel_rfl) | (rw [if_neg (by decide +kernel)]; exact ⟨rfl, rfl⟩))
    (fun os started H enc _ => lifted os started H enc)

end Go.Proofs.Ytilaghjboiikdaa.textUnlike
namespace Go.Proofs.Ytilaghjboiikdaa
theorem textUnlike_holds : Rows.TextUnlikeSaid := textUnlike.over
end Go.Proofs.Ytilaghjboiikdaa
