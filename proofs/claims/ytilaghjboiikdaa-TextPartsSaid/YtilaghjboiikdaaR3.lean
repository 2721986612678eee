/-
A key is within two bounds just if it is within one of two parts of these, for any key and any bounds; no condition.
-/
import Derived.Test.YtilaghjboiikdaaLF
import Derived.Test.YtilaghjboiikdaaC
import Derived.ChangeMaps5
import Derived.Test.YtilaghjboiikdaaD
namespace Go.Proofs.Ytilaghjboiikdaa.textParts
open Go.ChangeShapes Go.WideShapes Go.ChangeAt Go.RowKit Go.ChangeMaps
set_option linter.unusedVariables false

theorem own : ownKnob Try.prog.godebug = none := by kernel_rfl
theorem laidOut : laidOutB Try.prog = true := by kernel_rfl

theorem parts_of (k f m e : ByteArray) (c1 : ¬ m.toList = []) (c2 : ¬ 0 < co f m) (c3 : e.toList = [] ∨ ¬ 0 < co m e) :
    (wi k f m = true ∧ wi k m e = false ∧ wi k f e = true ∧ wi k f ⟨#[]⟩ = true ∧ wi k ⟨#[]⟩ e = true) ∨ (wi k f m = false ∧ wi k m e = true ∧ wi k f e = true ∧ wi k f ⟨#[]⟩ = true ∧ wi k ⟨#[]⟩ e = true) ∨ (wi k f m = false ∧ wi k m e = false ∧ wi k f e = false) := by
  have W : ∀ x y z : ByteArray, wi x y z = true ↔ (0 ≤ co x y ∧ (z.toList = [] ∨ co x z < 0)) := fun x y z => by
    by_cases d1 : 0 ≤ co x y
    · by_cases d2 : z.toList = []
      · rw [wi_2 d1 d2]; simp [d1, d2]
      · rw [wi_3 d1 d2]; simp [d1, d2]
    · rw [wi_1 d1]; simp [d1]
  have W0 : ∀ x y z : ByteArray, wi x y z = false ↔ ¬ (0 ≤ co x y ∧ (z.toList = [] ∨ co x z < 0)) := fun x y z => by rw [← W, Bool.not_eq_true]
  have hn : ∀ x : ByteArray, 0 ≤ co x ⟨#[]⟩ := fun x => by
    have := cb_neg [] (bl x)
    show 0 ≤ Lib.compareBytes (bl x) []
    cases bl x <;> simp [Lib.compareBytes]
  have he : ((⟨#[]⟩ : ByteArray).toList = []) := by rw [tl]; rfl
  rw [W, W, W, W, W, W0, W0, W0]
  simp only [hn, he, true_or, and_true, true_and]
  have n1 := co_neg k f
  have n2 := co_neg k m
  have n3 := co_neg k e
  have n4 := co_neg f m
  have n5 := co_neg m e
  have l1 : co f m ≤ 0 → co m k ≤ 0 → co f k ≤ 0 := cb_le _ _ _
  have l2 : co k m < 0 → co m e ≤ 0 → co k e < 0 := cb_lt_le _ _ _
  by_cases p1 : 0 ≤ co k f
  · by_cases p2 : co k m < 0
    · refine .inl ⟨⟨p1, .inr p2⟩, fun h => by omega, ?_⟩
      rcases c3 with c3 | c3
      · exact ⟨⟨p1, .inl c3⟩, p1, .inl c3⟩
      · exact ⟨⟨p1, .inr (l2 p2 (by omega))⟩, p1, .inr (l2 p2 (by omega))⟩
    · by_cases p3 : e.toList = [] ∨ co k e < 0
      · refine .inr (.inl ⟨fun h => ?_, ⟨by omega, p3⟩, ⟨p1, p3⟩, p1, p3⟩)
        rcases h.2 with h | h
        · exact c1 h
        · exact p2 h
      · refine .inr (.inr ⟨fun h => ?_, fun h => p3 h.2, fun h => p3 h.2⟩)
        rcases h.2 with h | h
        · exact c1 h
        · exact p2 h
  · exact .inr (.inr ⟨fun h => p1 h.1, fun h => p1 (by have := l1 (by omega) (by omega); omega), fun h => p1 h.1⟩)
set_option maxRecDepth 100000 in
set_option maxHeartbeats 4000000 in
theorem walk_in (k f m e : ByteArray) (w : World) (hs1 : ∀ s ∈ [k, f], s.size ≤ maxLen) (hs2 : ∀ s ∈ [m, e], s.size ≤ maxLen) :
    Calls Try.prog 10 #[.string k, .string f, .string m, .string e] w fun x w' => x = .returned (.bool true) ∧ Below w.heap.size w w' := by
  have Hs1 := Lib.hid hs1
  have Hs2 := Lib.hid hs2
  clear hs1 hs2
  by_cases hl : longB [k, f] = true
  · have Hl1 := Lib.hid hl
    clear hl
    go_enter Try.func10, Try.ntmps10
    go_wp2_with fail
    refine (works_any _).mono ?_
    rintro x w1 ⟨rfl, hb⟩
    have Hb0 := Lib.hid hb
    clear hb
    go_wp2_with fail
    refine (long_any [k, f] _ 2 _ rfl (by omega) (heap_alloc_new _ _) Hs1.out).mono ?_
    rintro x _ ⟨rfl, rfl⟩
    rw [Hl1.out]
    have Hb1 := Lib.hid (Hb0.out.alloc Hb0.out.size (.cells #[.string k, .string f] 9))
    go_wp2_with fail
    refine (works_any _).mono ?_
    rintro x w9 ⟨rfl, hb2⟩
    go_wp2_with fail
    go_ret
    exact ⟨rfl, Hb1.out.trans (hb2.mono Hb1.out.size)⟩
  have Hl1 : Hid (longB [k, f] = false) := Bool.eq_false_iff.2 hl
  clear hl
  by_cases hl : longB [m, e] = true
  · have Hl2 := Lib.hid hl
    clear hl
    go_enter Try.func10, Try.ntmps10
    go_wp2_with fail
    refine (works_any _).mono ?_
    rintro x w1 ⟨rfl, hb⟩
    have Hb0 := Lib.hid hb
    clear hb
    go_wp2_with fail
    refine (long_any [k, f] _ 2 _ rfl (by omega) (heap_alloc_new _ _) Hs1.out).mono ?_
    rintro x _ ⟨rfl, rfl⟩
    rw [Hl1.out]
    have Hb1 := Lib.hid (Hb0.out.alloc Hb0.out.size (.cells #[.string k, .string f] 9))
    go_wp2_with fail
    refine (long_any [m, e] _ 2 _ rfl (by omega) (heap_alloc2_new _ _ _) Hs2.out).mono ?_
    rintro x _ ⟨rfl, rfl⟩
    rw [Hl2.out]
    have Hb2 := Lib.hid (Hb1.out.alloc Hb1.out.size (.cells #[.string m, .string e] 9))
    go_wp2_with fail
    refine (works_any _).mono ?_
    rintro x w9 ⟨rfl, hb2⟩
    go_wp2_with fail
    go_ret
    exact ⟨rfl, Hb2.out.trans (hb2.mono Hb2.out.size)⟩
  have Hl2 : Hid (longB [m, e] = false) := Bool.eq_false_iff.2 hl
  clear hl
  by_cases c1 : m.toList = []
  · have c1' : m.toList.isEmpty = true := by rw [c1]; rfl
    go_enter Try.func10, Try.ntmps10
    go_wp2_with fail
    refine (works_any _).mono ?_
    rintro x w1 ⟨rfl, hb⟩
    have Hb0 := Lib.hid hb
    clear hb
    go_wp2_with fail
    refine (long_any [k, f] _ 2 _ rfl (by omega) (heap_alloc_new _ _) Hs1.out).mono ?_
    rintro x _ ⟨rfl, rfl⟩
    rw [Hl1.out]
    have Hb1 := Lib.hid (Hb0.out.alloc Hb0.out.size (.cells #[.string k, .string f] 9))
    go_wp2_with fail
    refine (long_any [m, e] _ 2 _ rfl (by omega) (heap_alloc2_new _ _ _) Hs2.out).mono ?_
    rintro x _ ⟨rfl, rfl⟩
    rw [Hl2.out]
    have Hb2 := Lib.hid (Hb1.out.alloc Hb1.out.size (.cells #[.string m, .string e] 9))
    go_wp2_with fail
    refine (works_any _).mono ?_
    rintro x w9 ⟨rfl, hb2⟩
    go_wp2_with fail
    go_ret
    exact ⟨rfl, Hb2.out.trans (hb2.mono Hb2.out.size)⟩
  have c1' : m.toList.isEmpty = false := by rw [List.isEmpty_eq_false_iff]; exact c1
  by_cases c2 : 0 < co f m
  · go_enter Try.func10, Try.ntmps10
    go_wp2_with fail
    refine (works_any _).mono ?_
    rintro x w1 ⟨rfl, hb⟩
    have Hb0 := Lib.hid hb
    clear hb
    go_wp2_with fail
    refine (long_any [k, f] _ 2 _ rfl (by omega) (heap_alloc_new _ _) Hs1.out).mono ?_
    rintro x _ ⟨rfl, rfl⟩
    rw [Hl1.out]
    have Hb1 := Lib.hid (Hb0.out.alloc Hb0.out.size (.cells #[.string k, .string f] 9))
    go_wp2_with fail
    refine (long_any [m, e] _ 2 _ rfl (by omega) (heap_alloc2_new _ _ _) Hs2.out).mono ?_
    rintro x _ ⟨rfl, rfl⟩
    rw [Hl2.out]
    have Hb2 := Lib.hid (Hb1.out.alloc Hb1.out.size (.cells #[.string m, .string e] 9))
    go_wp2_with fail
    refine (cmp_co _ _ _).mono ?_
    rintro x _ ⟨rfl, rfl⟩
    go_wp2_with fail
    refine (works_any _).mono ?_
    rintro x w9 ⟨rfl, hb2⟩
    go_wp2_with fail
    go_ret
    exact ⟨rfl, Hb2.out.trans (hb2.mono Hb2.out.size)⟩
  by_cases c3 : e.toList = []
  · have HP := Lib.hid (parts_of k f m e c1 c2 (.inl c3))
    have c3' : e.toList.isEmpty = true := by rw [c3]; rfl
    rcases HP.out with ⟨p1, p2, p3, p4, p5⟩ | ⟨p1, p2, p3, p4, p5⟩ | ⟨p1, p2, p3⟩
    · have Hlow := Lib.hid p1
      have Hhigh := Lib.hid p2
      have Ht := Lib.hid p3
      have Hu := Lib.hid p4
      have Hv := Lib.hid p5
      clear p1 p2 p3 p4 p5
      go_enter Try.func10, Try.ntmps10
      go_wp2_with fail
      refine (works_any _).mono ?_
      rintro x w1 ⟨rfl, hb⟩
      have Hb0 := Lib.hid hb
      clear hb
      go_wp2_with fail
      refine (long_any [k, f] _ 2 _ rfl (by omega) (heap_alloc_new _ _) Hs1.out).mono ?_
      rintro x _ ⟨rfl, rfl⟩
      rw [Hl1.out]
      have Hb1 := Lib.hid (Hb0.out.alloc Hb0.out.size (.cells #[.string k, .string f] 9))
      go_wp2_with fail
      refine (long_any [m, e] _ 2 _ rfl (by omega) (heap_alloc2_new _ _ _) Hs2.out).mono ?_
      rintro x _ ⟨rfl, rfl⟩
      rw [Hl2.out]
      have Hb2 := Lib.hid (Hb1.out.alloc Hb1.out.size (.cells #[.string m, .string e] 9))
      go_wp2_with fail
      refine (cmp_co _ _ _).mono ?_
      rintro x _ ⟨rfl, rfl⟩
      go_wp2_with fail
      refine (within_any _ _ _ _).mono ?_
      rintro x _ ⟨rfl, rfl⟩
      rw [Hlow.out]
      go_wp2_with fail
      refine (within_any _ _ _ _).mono ?_
      rintro x _ ⟨rfl, rfl⟩
      rw [Hhigh.out]
      go_wp2_with fail
      refine (within_any _ _ _ _).mono ?_
      rintro x _ ⟨rfl, rfl⟩
      rw [Ht.out]
      go_wp2_with fail
      refine (within_any _ _ _ _).mono ?_
      rintro x _ ⟨rfl, rfl⟩
      rw [Ht.out]
      go_wp2_with fail
      refine (within_any _ _ _ _).mono ?_
      rintro x _ ⟨rfl, rfl⟩
      rw [Hu.out]
      go_wp2_with fail
      refine (within_any _ _ _ _).mono ?_
      rintro x _ ⟨rfl, rfl⟩
      rw [Hv.out]
      go_wp2_with fail
      go_ret
      exact ⟨rfl, Hb2.out⟩
    · have Hlow := Lib.hid p1
      have Hhigh := Lib.hid p2
      have Ht := Lib.hid p3
      have Hu := Lib.hid p4
      have Hv := Lib.hid p5
      clear p1 p2 p3 p4 p5
      go_enter Try.func10, Try.ntmps10
      go_wp2_with fail
      refine (works_any _).mono ?_
      rintro x w1 ⟨rfl, hb⟩
      have Hb0 := Lib.hid hb
      clear hb
      go_wp2_with fail
      refine (long_any [k, f] _ 2 _ rfl (by omega) (heap_alloc_new _ _) Hs1.out).mono ?_
      rintro x _ ⟨rfl, rfl⟩
      rw [Hl1.out]
      have Hb1 := Lib.hid (Hb0.out.alloc Hb0.out.size (.cells #[.string k, .string f] 9))
      go_wp2_with fail
      refine (long_any [m, e] _ 2 _ rfl (by omega) (heap_alloc2_new _ _ _) Hs2.out).mono ?_
      rintro x _ ⟨rfl, rfl⟩
      rw [Hl2.out]
      have Hb2 := Lib.hid (Hb1.out.alloc Hb1.out.size (.cells #[.string m, .string e] 9))
      go_wp2_with fail
      refine (cmp_co _ _ _).mono ?_
      rintro x _ ⟨rfl, rfl⟩
      go_wp2_with fail
      refine (within_any _ _ _ _).mono ?_
      rintro x _ ⟨rfl, rfl⟩
      rw [Hlow.out]
      go_wp2_with fail
      refine (within_any _ _ _ _).mono ?_
      rintro x _ ⟨rfl, rfl⟩
      rw [Hhigh.out]
      go_wp2_with fail
      refine (within_any _ _ _ _).mono ?_
      rintro x _ ⟨rfl, rfl⟩
      rw [Ht.out]
      go_wp2_with fail
      refine (within_any _ _ _ _).mono ?_
      rintro x _ ⟨rfl, rfl⟩
      rw [Ht.out]
      go_wp2_with fail
      refine (within_any _ _ _ _).mono ?_
      rintro x _ ⟨rfl, rfl⟩
      rw [Hu.out]
      go_wp2_with fail
      refine (within_any _ _ _ _).mono ?_
      rintro x _ ⟨rfl, rfl⟩
      rw [Hv.out]
      go_wp2_with fail
      go_ret
      exact ⟨rfl, Hb2.out⟩
    · have Hlow := Lib.hid p1
      have Hhigh := Lib.hid p2
      have Ht := Lib.hid p3
      clear p1 p2 p3
      go_enter Try.func10, Try.ntmps10
      go_wp2_with fail
      refine (works_any _).mono ?_
      rintro x w1 ⟨rfl, hb⟩
      have Hb0 := Lib.hid hb
      clear hb
      go_wp2_with fail
      refine (long_any [k, f] _ 2 _ rfl (by omega) (heap_alloc_new _ _) Hs1.out).mono ?_
      rintro x _ ⟨rfl, rfl⟩
      rw [Hl1.out]
      have Hb1 := Lib.hid (Hb0.out.alloc Hb0.out.size (.cells #[.string k, .string f] 9))
      go_wp2_with fail
      refine (long_any [m, e] _ 2 _ rfl (by omega) (heap_alloc2_new _ _ _) Hs2.out).mono ?_
      rintro x _ ⟨rfl, rfl⟩
      rw [Hl2.out]
      have Hb2 := Lib.hid (Hb1.out.alloc Hb1.out.size (.cells #[.string m, .string e] 9))
      go_wp2_with fail
      refine (cmp_co _ _ _).mono ?_
      rintro x _ ⟨rfl, rfl⟩
      go_wp2_with fail
      refine (within_any _ _ _ _).mono ?_
      rintro x _ ⟨rfl, rfl⟩
      rw [Hlow.out]
      go_wp2_with fail
      refine (within_any _ _ _ _).mono ?_
      rintro x _ ⟨rfl, rfl⟩
      rw [Hhigh.out]
      go_wp2_with fail
      refine (within_any _ _ _ _).mono ?_
      rintro x _ ⟨rfl, rfl⟩
      rw [Ht.out]
      go_wp2_with fail
      refine (within_any _ _ _ _).mono ?_
      rintro x _ ⟨rfl, rfl⟩
      rw [Ht.out]
      go_wp2_with fail
      go_ret
      exact ⟨rfl, Hb2.out⟩
  have c3' : e.toList.isEmpty = false := by rw [List.isEmpty_eq_false_iff]; exact c3
  by_cases c4 : 0 < co m e
  · go_enter Try.func10, Try.ntmps10
    go_wp2_with fail
    refine (works_any _).mono ?_
    rintro x w1 ⟨rfl, hb⟩
    have Hb0 := Lib.hid hb
    clear hb
    go_wp2_with fail
    refine (long_any [k, f] _ 2 _ rfl (by omega) (heap_alloc_new _ _) Hs1.out).mono ?_
    rintro x _ ⟨rfl, rfl⟩
    rw [Hl1.out]
    have Hb1 := Lib.hid (Hb0.out.alloc Hb0.out.size (.cells #[.string k, .string f] 9))
    go_wp2_with fail
    refine (long_any [m, e] _ 2 _ rfl (by omega) (heap_alloc2_new _ _ _) Hs2.out).mono ?_
    rintro x _ ⟨rfl, rfl⟩
    rw [Hl2.out]
    have Hb2 := Lib.hid (Hb1.out.alloc Hb1.out.size (.cells #[.string m, .string e] 9))
    go_wp2_with fail
    refine (cmp_co _ _ _).mono ?_
    rintro x _ ⟨rfl, rfl⟩
    go_wp2_with fail
    refine (cmp_co _ _ _).mono ?_
    rintro x _ ⟨rfl, rfl⟩
    go_wp2_with fail
    refine (works_any _).mono ?_
    rintro x w9 ⟨rfl, hb2⟩
    go_wp2_with fail
    go_ret
    exact ⟨rfl, Hb2.out.trans (hb2.mono Hb2.out.size)⟩
  have HP := Lib.hid (parts_of k f m e c1 c2 (.inr c4))
  rcases HP.out with ⟨p1, p2, p3, p4, p5⟩ | ⟨p1, p2, p3, p4, p5⟩ | ⟨p1, p2, p3⟩
  · have Hlow := Lib.hid p1
    have Hhigh := Lib.hid p2
    have Ht := Lib.hid p3
    have Hu := Lib.hid p4
    have Hv := Lib.hid p5
    clear p1 p2 p3 p4 p5
    go_enter Try.func10, Try.ntmps10
    go_wp2_with fail
    refine (works_any _).mono ?_
    rintro x w1 ⟨rfl, hb⟩
    have Hb0 := Lib.hid hb
    clear hb
    go_wp2_with fail
    refine (long_any [k, f] _ 2 _ rfl (by omega) (heap_alloc_new _ _) Hs1.out).mono ?_
    rintro x _ ⟨rfl, rfl⟩
    rw [Hl1.out]
    have Hb1 := Lib.hid (Hb0.out.alloc Hb0.out.size (.cells #[.string k, .string f] 9))
    go_wp2_with fail
    refine (long_any [m, e] _ 2 _ rfl (by omega) (heap_alloc2_new _ _ _) Hs2.out).mono ?_
    rintro x _ ⟨rfl, rfl⟩
    rw [Hl2.out]
    have Hb2 := Lib.hid (Hb1.out.alloc Hb1.out.size (.cells #[.string m, .string e] 9))
    go_wp2_with fail
    refine (cmp_co _ _ _).mono ?_
    rintro x _ ⟨rfl, rfl⟩
    go_wp2_with fail
    refine (cmp_co _ _ _).mono ?_
    rintro x _ ⟨rfl, rfl⟩
    go_wp2_with fail
    refine (within_any _ _ _ _).mono ?_
    rintro x _ ⟨rfl, rfl⟩
    rw [Hlow.out]
    go_wp2_with fail
    refine (within_any _ _ _ _).mono ?_
    rintro x _ ⟨rfl, rfl⟩
    rw [Hhigh.out]
    go_wp2_with fail
    refine (within_any _ _ _ _).mono ?_
    rintro x _ ⟨rfl, rfl⟩
    rw [Ht.out]
    go_wp2_with fail
    refine (within_any _ _ _ _).mono ?_
    rintro x _ ⟨rfl, rfl⟩
    rw [Ht.out]
    go_wp2_with fail
    refine (within_any _ _ _ _).mono ?_
    rintro x _ ⟨rfl, rfl⟩
    rw [Hu.out]
    go_wp2_with fail
    refine (within_any _ _ _ _).mono ?_
    rintro x _ ⟨rfl, rfl⟩
    rw [Hv.out]
    go_wp2_with fail
    go_ret
    exact ⟨rfl, Hb2.out⟩
  · have Hlow := Lib.hid p1
    have Hhigh := Lib.hid p2
    have Ht := Lib.hid p3
    have Hu := Lib.hid p4
    have Hv := Lib.hid p5
    clear p1 p2 p3 p4 p5
    go_enter Try.func10, Try.ntmps10
    go_wp2_with fail
    refine (works_any _).mono ?_
    rintro x w1 ⟨rfl, hb⟩
    have Hb0 := Lib.hid hb
    clear hb
    go_wp2_with fail
    refine (long_any [k, f] _ 2 _ rfl (by omega) (heap_alloc_new _ _) Hs1.out).mono ?_
    rintro x _ ⟨rfl, rfl⟩
    rw [Hl1.out]
    have Hb1 := Lib.hid (Hb0.out.alloc Hb0.out.size (.cells #[.string k, .string f] 9))
    go_wp2_with fail
    refine (long_any [m, e] _ 2 _ rfl (by omega) (heap_alloc2_new _ _ _) Hs2.out).mono ?_
    rintro x _ ⟨rfl, rfl⟩
    rw [Hl2.out]
    have Hb2 := Lib.hid (Hb1.out.alloc Hb1.out.size (.cells #[.string m, .string e] 9))
    go_wp2_with fail
    refine (cmp_co _ _ _).mono ?_
    rintro x _ ⟨rfl, rfl⟩
    go_wp2_with fail
    refine (cmp_co _ _ _).mono ?_
    rintro x _ ⟨rfl, rfl⟩
    go_wp2_with fail
    refine (within_any _ _ _ _).mono ?_
    rintro x _ ⟨rfl, rfl⟩
    rw [Hlow.out]
    go_wp2_with fail
    refine (within_any _ _ _ _).mono ?_
    rintro x _ ⟨rfl, rfl⟩
    rw [Hhigh.out]
    go_wp2_with fail
    refine (within_any _ _ _ _).mono ?_
    rintro x _ ⟨rfl, rfl⟩
    rw [Ht.out]
    go_wp2_with fail
    refine (within_any _ _ _ _).mono ?_
    rintro x _ ⟨rfl, rfl⟩
    rw [Ht.out]
    go_wp2_with fail
    refine (within_any _ _ _ _).mono ?_
    rintro x _ ⟨rfl, rfl⟩
    rw [Hu.out]
    go_wp2_with fail
    refine (within_any _ _ _ _).mono ?_
    rintro x _ ⟨rfl, rfl⟩
    rw [Hv.out]
    go_wp2_with fail
    go_ret
    exact ⟨rfl, Hb2.out⟩
  · have Hlow := Lib.hid p1
    have Hhigh := Lib.hid p2
    have Ht := Lib.hid p3
    clear p1 p2 p3
    go_enter Try.func10, Try.ntmps10
    go_wp2_with fail
    refine (works_any _).mono ?_
    rintro x w1 ⟨rfl, hb⟩
    have Hb0 := Lib.hid hb
    clear hb
    go_wp2_with fail
    refine (long_any [k, f] _ 2 _ rfl (by omega) (heap_alloc_new _ _) Hs1.out).mono ?_
    rintro x _ ⟨rfl, rfl⟩
    rw [Hl1.out]
    have Hb1 := Lib.hid (Hb0.out.alloc Hb0.out.size (.cells #[.string k, .string f] 9))
    go_wp2_with fail
    refine (long_any [m, e] _ 2 _ rfl (by omega) (heap_alloc2_new _ _ _) Hs2.out).mono ?_
    rintro x _ ⟨rfl, rfl⟩
    rw [Hl2.out]
    have Hb2 := Lib.hid (Hb1.out.alloc Hb1.out.size (.cells #[.string m, .string e] 9))
    go_wp2_with fail
    refine (cmp_co _ _ _).mono ?_
    rintro x _ ⟨rfl, rfl⟩
    go_wp2_with fail
    refine (cmp_co _ _ _).mono ?_
    rintro x _ ⟨rfl, rfl⟩
    go_wp2_with fail
    refine (within_any _ _ _ _).mono ?_
    rintro x _ ⟨rfl, rfl⟩
    rw [Hlow.out]
    go_wp2_with fail
    refine (within_any _ _ _ _).mono ?_
    rintro x _ ⟨rfl, rfl⟩
    rw [Hhigh.out]
    go_wp2_with fail
    refine (within_any _ _ _ _).mono ?_
    rintro x _ ⟨rfl, rfl⟩
    rw [Ht.out]
    go_wp2_with fail
    refine (within_any _ _ _ _).mono ?_
    rintro x _ ⟨rfl, rfl⟩
    rw [Ht.out]
    go_wp2_with fail
    go_ret
    exact ⟨rfl, Hb2.out⟩
theorem walk (k : ByteArray) (hk : k.size ≤ maxLen) (f : ByteArray) (hf : f.size ≤ maxLen) (m : ByteArray) (hm : m.size ≤ maxLen) (e : ByteArray) (he : e.size ≤ maxLen) (w : World) :
    Calls Try.prog 10 #[.string k, .string f, .string m, .string e] w fun x w' => x = .returned (.bool true) ∧ Below w.heap.size w w' :=
  walk_in k f m e w (by intro s h; simp at h; rcases h with rfl | rfl <;> assumption) (by intro s h; simp at h; rcases h with rfl | rfl <;> assumption)


set_option maxRecDepth 100000 in
theorem lifted (os : Os) (started : os.Started) (H : Type) (enc : TypeId × Value → H) :
    ReturnsInHanded {} Try.checked os 10 .any (Rows.textPartsSpec.pre6 enc Try.prog Try.f10 Rows.textPartsRow.domain false) (Rows.textPartsSpec.post enc Try.prog Try.f10 false true false false) := by
  refine returnsInHanded_of_change_sized (C := Try.checked) own started (by kernel_rfl) Try.func10
    (ChangeSpec.witness6 (enc := enc) (C := Try.checked) false ⟨#[], #[.string ⟨#[]⟩, .string ⟨#[]⟩, .string ⟨#[]⟩, .string ⟨#[]⟩], []⟩ 8 (by kernel_rfl) (by kernel_rfl) (by kernel_rfl) (by kernel_rfl)) ?_
  intro W base args ds gs before hval0 hW _ hsz _
  have hval : ∀ (j : Nat) t v, Try.f10.params[j]? = some t → args[j]? = some v → Value.okWide Try.prog W .any base t v := hval0
  have hW' := hW
  obtain ⟨p, q, hA0, hV, hbef, _, _⟩ := hW
  have hA : DataW.TrodAll enc Try.prog W 0 (fun _ => true) true Try.f10.params.toList args.toList ds p := hA0
  rw [Try.params10] at hA hval
  obtain ⟨v0, vs0, d0, ds0, p0, q0, hargs, rfl, rfl, h0, r0⟩ := trodAll_cons hA
  obtain ⟨v1, vs1, d1, ds1, p1, q1, rfl, rfl, rfl, h1, r1⟩ := trodAll_cons r0
  obtain ⟨v2, vs2, d2, ds2, p2, q2, rfl, rfl, rfl, h2, r2⟩ := trodAll_cons r1
  obtain ⟨v3, vs3, d3, ds3, p3, q3, rfl, rfl, rfl, h3, r3⟩ := trodAll_cons r2
  obtain ⟨rfl, rfl, rfl⟩ := trodAll_nil r3
  obtain rfl : args = #[v0, v1, v2, v3] := by cases args; simp_all
  obtain ⟨rfl, rfl⟩ := trodVars_none hV
  obtain ⟨s0, rfl, _, _, w0⟩ := open_string Try.underlying9 (hval 0 9 v0 rfl rfl) h0
  obtain ⟨s1, rfl, _, _, w1⟩ := open_string Try.underlying9 (hval 1 9 v1 rfl rfl) h1
  obtain ⟨s2, rfl, _, _, w2⟩ := open_string Try.underlying9 (hval 2 9 v2 rfl rfl) h2
  obtain ⟨s3, rfl, _, _, w3⟩ := open_string Try.underlying9 (hval 3 9 v3 rfl rfl) h3
  refine (walk s0 w0 s1 w1 s2 w2 s3 w3 W).mono fun e W' ⟨he, hb⟩ => ?_
  subst he
  exact ⟨_, rfl, law_post laidOut (of_decide_eq_true (by kernel_rfl)) rfl Try.underlying4 rfl rfl hW' hb⟩

theorem over : Rows.textPartsRow.holds Try.pinned (OpenSpec.ofChange Rows.textPartsSpec) :=
  OpenClaim.holds_of_wide 10 Try.f10 rfl rfl rfl rfl rfl rfl rfl ⟨rfl, rfl, rfl, rfl, rfl⟩ rfl rfl rfl rfl rfl (by kernel_rfl) Try.func10 (by kernel_rfl)
    (of_decide_eq_true (by kernel_rfl)) (by unfold Func.isWrapper; first | (rw [if_pos (by decide +kernel)]; kernel_rfl) | (rw [if_neg (by decide +kernel)]; exact ⟨rfl, rfl⟩))
    (fun os started H enc _ => lifted os started H enc)

end Go.Proofs.Ytilaghjboiikdaa.textParts
namespace Go.Proofs.Ytilaghjboiikdaa
theorem textParts_holds : Rows.TextPartsSaid := textParts.over
end Go.Proofs.Ytilaghjboiikdaa
