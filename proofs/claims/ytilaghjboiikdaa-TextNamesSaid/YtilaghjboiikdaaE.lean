/- What the document answers of configs: whether one may be, and texts of it. -/
import Derived.Test.YtilaghjboiikdaaD
namespace Go.Proofs.Ytilaghjboiikdaa
open Go.ChangeShapes Go.WideShapes Go.ChangeAt Go.RowKit

theorem is_yes (n l h : Int) (w : World) (hh : l ≤ n ∧ n ≤ h) : Calls Try.prog 35 #[.int .i64 n, .int .i64 l, .int .i64 h] w fun e w' => e = .returned (.bool true) ∧ w = w' := by
  refine (is_any n l h w).mono ?_
  rintro e w' ⟨rfl, rfl⟩
  exact ⟨by rw [decide_eq_true hh], rfl⟩
theorem is_no (n l h : Int) (w : World) (hh : ¬ (l ≤ n ∧ n ≤ h)) : Calls Try.prog 35 #[.int .i64 n, .int .i64 l, .int .i64 h] w fun e w' => e = .returned (.bool false) ∧ w = w' := by
  refine (is_any n l h w).mono ?_
  rintro e w' ⟨rfl, rfl⟩
  exact ⟨by rw [decide_eq_false hh], rfl⟩
set_option maxRecDepth 100000 in
set_option maxHeartbeats 2000000 in
theorem rmay_any (c : Conf) (w : World) : Calls Try.prog 28 #[.agg #[.int .i64 c.ta, .int .i64 c.ac, .int .i64 c.ke, .int .i64 c.de, .int .i64 c.ts, .int .i64 c.kl, .int .i64 c.vl, .int .i64 c.fa]] w fun e w' => e = .returned (.bool (mayB c)) ∧ Below w.heap.size w w' := by
  by_cases h0 : ¬ ((1 : Int) ≤ c.ta ∧ c.ta ≤ 6)
  · have HF : Hid (mayB c = false) := mayB_no (k := 0) (by omega) (by show c.ta < 1 ∨ 6 < c.ta; omega)
    have H0 := Lib.hid h0
    clear h0
    go_enter Try.func28, Try.ntmps28
    go_wp2_with fail
    refine (is_no _ _ _ _ H0.out).mono ?_
    rintro e _ ⟨rfl, rfl⟩
    go_wp2_with fail
    go_ret
    exact ⟨ret_bool HF.out.symm, (Below.refl _ _).alloc (Nat.le_refl _) _⟩
  have H0 := Lib.hid (Classical.not_not.1 h0)
  clear h0
  by_cases h1 : ¬ ((1 : Int) ≤ c.ac ∧ c.ac ≤ 8)
  · have HF : Hid (mayB c = false) := mayB_no (k := 1) (by omega) (by show c.ac < 1 ∨ 8 < c.ac; omega)
    have H1 := Lib.hid h1
    clear h1
    go_enter Try.func28, Try.ntmps28
    go_wp2_with fail
    refine (is_yes _ _ _ _ H0.out).mono ?_
    rintro e _ ⟨rfl, rfl⟩
    go_wp2_with fail
    refine (is_no _ _ _ _ H1.out).mono ?_
    rintro e _ ⟨rfl, rfl⟩
    go_wp2_with fail
    go_ret
    exact ⟨ret_bool HF.out.symm, (Below.refl _ _).alloc (Nat.le_refl _) _⟩
  have H1 := Lib.hid (Classical.not_not.1 h1)
  clear h1
  by_cases h2 : ¬ ((1 : Int) ≤ c.ke ∧ c.ke ≤ 64)
  · have HF : Hid (mayB c = false) := mayB_no (k := 2) (by omega) (by show c.ke < 1 ∨ 64 < c.ke; omega)
    have H2 := Lib.hid h2
    clear h2
    go_enter Try.func28, Try.ntmps28
    go_wp2_with fail
    refine (is_yes _ _ _ _ H0.out).mono ?_
    rintro e _ ⟨rfl, rfl⟩
    go_wp2_with fail
    refine (is_yes _ _ _ _ H1.out).mono ?_
    rintro e _ ⟨rfl, rfl⟩
    go_wp2_with fail
    refine (is_no _ _ _ _ H2.out).mono ?_
    rintro e _ ⟨rfl, rfl⟩
    go_wp2_with fail
    go_ret
    exact ⟨ret_bool HF.out.symm, (Below.refl _ _).alloc (Nat.le_refl _) _⟩
  have H2 := Lib.hid (Classical.not_not.1 h2)
  clear h2
  by_cases h3 : ¬ ((2 : Int) ≤ c.de ∧ c.de ≤ 8)
  · have HF : Hid (mayB c = false) := mayB_no (k := 3) (by omega) (by show c.de < 2 ∨ 8 < c.de; omega)
    have H3 := Lib.hid h3
    clear h3
    go_enter Try.func28, Try.ntmps28
    go_wp2_with fail
    refine (is_yes _ _ _ _ H0.out).mono ?_
    rintro e _ ⟨rfl, rfl⟩
    go_wp2_with fail
    refine (is_yes _ _ _ _ H1.out).mono ?_
    rintro e _ ⟨rfl, rfl⟩
    go_wp2_with fail
    refine (is_yes _ _ _ _ H2.out).mono ?_
    rintro e _ ⟨rfl, rfl⟩
    go_wp2_with fail
    refine (is_no _ _ _ _ H3.out).mono ?_
    rintro e _ ⟨rfl, rfl⟩
    go_wp2_with fail
    go_ret
    exact ⟨ret_bool HF.out.symm, (Below.refl _ _).alloc (Nat.le_refl _) _⟩
  have H3 := Lib.hid (Classical.not_not.1 h3)
  clear h3
  by_cases h4 : ¬ ((1 : Int) ≤ c.ts ∧ c.ts ≤ 1048576)
  · have HF : Hid (mayB c = false) := mayB_no (k := 4) (by omega) (by show c.ts < 1 ∨ 1048576 < c.ts; omega)
    have H4 := Lib.hid h4
    clear h4
    go_enter Try.func28, Try.ntmps28
    go_wp2_with fail
    refine (is_yes _ _ _ _ H0.out).mono ?_
    rintro e _ ⟨rfl, rfl⟩
    go_wp2_with fail
    refine (is_yes _ _ _ _ H1.out).mono ?_
    rintro e _ ⟨rfl, rfl⟩
    go_wp2_with fail
    refine (is_yes _ _ _ _ H2.out).mono ?_
    rintro e _ ⟨rfl, rfl⟩
    go_wp2_with fail
    refine (is_yes _ _ _ _ H3.out).mono ?_
    rintro e _ ⟨rfl, rfl⟩
    go_wp2_with fail
    refine (is_no _ _ _ _ H4.out).mono ?_
    rintro e _ ⟨rfl, rfl⟩
    go_wp2_with fail
    go_ret
    exact ⟨ret_bool HF.out.symm, (Below.refl _ _).alloc (Nat.le_refl _) _⟩
  have H4 := Lib.hid (Classical.not_not.1 h4)
  clear h4
  by_cases h5 : ¬ ((1 : Int) ≤ c.kl ∧ c.kl ≤ 64)
  · have HF : Hid (mayB c = false) := mayB_no (k := 5) (by omega) (by show c.kl < 1 ∨ 64 < c.kl; omega)
    have H5 := Lib.hid h5
    clear h5
    go_enter Try.func28, Try.ntmps28
    go_wp2_with fail
    refine (is_yes _ _ _ _ H0.out).mono ?_
    rintro e _ ⟨rfl, rfl⟩
    go_wp2_with fail
    refine (is_yes _ _ _ _ H1.out).mono ?_
    rintro e _ ⟨rfl, rfl⟩
    go_wp2_with fail
    refine (is_yes _ _ _ _ H2.out).mono ?_
    rintro e _ ⟨rfl, rfl⟩
    go_wp2_with fail
    refine (is_yes _ _ _ _ H3.out).mono ?_
    rintro e _ ⟨rfl, rfl⟩
    go_wp2_with fail
    refine (is_yes _ _ _ _ H4.out).mono ?_
    rintro e _ ⟨rfl, rfl⟩
    go_wp2_with fail
    refine (is_no _ _ _ _ H5.out).mono ?_
    rintro e _ ⟨rfl, rfl⟩
    go_wp2_with fail
    go_ret
    exact ⟨ret_bool HF.out.symm, (Below.refl _ _).alloc (Nat.le_refl _) _⟩
  have H5 := Lib.hid (Classical.not_not.1 h5)
  clear h5
  by_cases h6 : ¬ ((0 : Int) ≤ c.vl ∧ c.vl ≤ 256)
  · have HF : Hid (mayB c = false) := mayB_no (k := 6) (by omega) (by show c.vl < 0 ∨ 256 < c.vl; omega)
    have H6 := Lib.hid h6
    clear h6
    go_enter Try.func28, Try.ntmps28
    go_wp2_with fail
    refine (is_yes _ _ _ _ H0.out).mono ?_
    rintro e _ ⟨rfl, rfl⟩
    go_wp2_with fail
    refine (is_yes _ _ _ _ H1.out).mono ?_
    rintro e _ ⟨rfl, rfl⟩
    go_wp2_with fail
    refine (is_yes _ _ _ _ H2.out).mono ?_
    rintro e _ ⟨rfl, rfl⟩
    go_wp2_with fail
    refine (is_yes _ _ _ _ H3.out).mono ?_
    rintro e _ ⟨rfl, rfl⟩
    go_wp2_with fail
    refine (is_yes _ _ _ _ H4.out).mono ?_
    rintro e _ ⟨rfl, rfl⟩
    go_wp2_with fail
    refine (is_yes _ _ _ _ H5.out).mono ?_
    rintro e _ ⟨rfl, rfl⟩
    go_wp2_with fail
    refine (is_no _ _ _ _ H6.out).mono ?_
    rintro e _ ⟨rfl, rfl⟩
    go_wp2_with fail
    go_ret
    exact ⟨ret_bool HF.out.symm, (Below.refl _ _).alloc (Nat.le_refl _) _⟩
  have H6 := Lib.hid (Classical.not_not.1 h6)
  clear h6
  by_cases h7 : ¬ ((3 : Int) ≤ c.fa ∧ c.fa ≤ 8)
  · have HF : Hid (mayB c = false) := mayB_no (k := 7) (by omega) (by show c.fa < 3 ∨ 8 < c.fa; omega)
    have H7 := Lib.hid h7
    clear h7
    go_enter Try.func28, Try.ntmps28
    go_wp2_with fail
    refine (is_yes _ _ _ _ H0.out).mono ?_
    rintro e _ ⟨rfl, rfl⟩
    go_wp2_with fail
    refine (is_yes _ _ _ _ H1.out).mono ?_
    rintro e _ ⟨rfl, rfl⟩
    go_wp2_with fail
    refine (is_yes _ _ _ _ H2.out).mono ?_
    rintro e _ ⟨rfl, rfl⟩
    go_wp2_with fail
    refine (is_yes _ _ _ _ H3.out).mono ?_
    rintro e _ ⟨rfl, rfl⟩
    go_wp2_with fail
    refine (is_yes _ _ _ _ H4.out).mono ?_
    rintro e _ ⟨rfl, rfl⟩
    go_wp2_with fail
    refine (is_yes _ _ _ _ H5.out).mono ?_
    rintro e _ ⟨rfl, rfl⟩
    go_wp2_with fail
    refine (is_yes _ _ _ _ H6.out).mono ?_
    rintro e _ ⟨rfl, rfl⟩
    go_wp2_with fail
    refine (is_no _ _ _ _ H7.out).mono ?_
    rintro e _ ⟨rfl, rfl⟩
    go_wp2_with fail
    go_ret
    exact ⟨ret_bool HF.out.symm, (Below.refl _ _).alloc (Nat.le_refl _) _⟩
  have H7 := Lib.hid (Classical.not_not.1 h7)
  clear h7
  have HF : Hid (mayB c = true) := mayB_yes (fun j hj => by
    match j, hj with
    | 0, _ => exact H0.out
    | 1, _ => exact H1.out
    | 2, _ => exact H2.out
    | 3, _ => exact H3.out
    | 4, _ => exact H4.out
    | 5, _ => exact H5.out
    | 6, _ => exact H6.out
    | 7, _ => exact H7.out)
  go_enter Try.func28, Try.ntmps28
  go_wp2_with fail
  refine (is_yes _ _ _ _ H0.out).mono ?_
  rintro e _ ⟨rfl, rfl⟩
  go_wp2_with fail
  refine (is_yes _ _ _ _ H1.out).mono ?_
  rintro e _ ⟨rfl, rfl⟩
  go_wp2_with fail
  refine (is_yes _ _ _ _ H2.out).mono ?_
  rintro e _ ⟨rfl, rfl⟩
  go_wp2_with fail
  refine (is_yes _ _ _ _ H3.out).mono ?_
  rintro e _ ⟨rfl, rfl⟩
  go_wp2_with fail
  refine (is_yes _ _ _ _ H4.out).mono ?_
  rintro e _ ⟨rfl, rfl⟩
  go_wp2_with fail
  refine (is_yes _ _ _ _ H5.out).mono ?_
  rintro e _ ⟨rfl, rfl⟩
  go_wp2_with fail
  refine (is_yes _ _ _ _ H6.out).mono ?_
  rintro e _ ⟨rfl, rfl⟩
  go_wp2_with fail
  refine (is_yes _ _ _ _ H7.out).mono ?_
  rintro e _ ⟨rfl, rfl⟩
  go_wp2_with fail
  go_ret
  exact ⟨ret_bool HF.out.symm, (Below.refl _ _).alloc (Nat.le_refl _) _⟩

set_option maxHeartbeats 1000000 in
theorem rkey_any (c : Conf) (s : ByteArray) (w : World) (hs : s.size ≤ maxLen) : Calls Try.prog 29 #[.agg #[.int .i64 c.ta, .int .i64 c.ac, .int .i64 c.ke, .int .i64 c.de, .int .i64 c.ts, .int .i64 c.kl, .int .i64 c.vl, .int .i64 c.fa], .string s] w fun e w' => e = .returned (.bool (lenB (mayB c) s 1 c.kl)) ∧ Below w.heap.size w w' := by
  have _hs := hs
  unfold maxLen at _hs
  have HK : Hid ((w.alloc (.cells #[.int .i64 c.ta, .int .i64 c.ac, .int .i64 c.ke, .int .i64 c.de, .int .i64 c.ts, .int .i64 c.kl, .int .i64 c.vl, .int .i64 c.fa] 28)).cell? ⟨w.heap.size, 5, none⟩ = some (.int .i64 c.kl)) := by
    show _ = _
    rw [cell_of_row _ _ 5 _ 28 (0, 0) (heap_alloc_new w _)]; rfl
  have HX : Hid (∀ b : Bool, b = lenB (mayB c) s 1 c.kl → Ending.returned (.bool b) = .returned (.bool (lenB (mayB c) s 1 c.kl))) := fun b h => by rw [h]
  have HL : Hid (∀ b, mayB c = b → lenB (mayB c) s 1 c.kl = (b && decide ((1 : Int) ≤ s.size ∧ (s.size : Int) ≤ c.kl))) := fun b h => by rw [h]; rfl
  have HM := Lib.hid (fun w => rmay_any c w)
  obtain ⟨m, hm⟩ : ∃ m, mayB c = m := ⟨_, rfl⟩
  have Hm := Lib.hid hm
  clear hm
  cases m
  · go_enter Try.func29, Try.ntmps29
    go_wp2_with fail
    refine (HM.out _).mono ?_
    rintro e w1 ⟨rfl, hb⟩
    rw [Hm.out]
    go_wp2_with fail
    go_ret
    exact ⟨HX.out _ (by rw [HL.out _ Hm.out]; rfl), Below.trans ((Below.refl _ _).alloc (Nat.le_refl _) _) (hb.mono (by simp))⟩
  · go_enter Try.func29, Try.ntmps29
    go_wp2_with fail
    refine (HM.out _).mono ?_
    rintro e w1 ⟨rfl, hb⟩
    rw [Hm.out]
    have hk : w1.cell? ⟨w.heap.size, 5, none⟩ = some (.int .i64 c.kl) := (hb.cell (p := ⟨w.heap.size, 5, none⟩) (by simp)).trans HK.out
    go_wp2_with fail
    refine (is_any _ _ _ _).mono ?_
    rintro e _ ⟨rfl, rfl⟩
    go_wp2_with fail
    go_ret
    exact ⟨HX.out _ (by rw [HL.out _ Hm.out, Bool.true_and]; first | exact (Bool.decide_and _ _).symm | (rw [decide_eq_decide]; omega)), Below.trans ((Below.refl _ _).alloc (Nat.le_refl _) _) (hb.mono (by simp))⟩

set_option maxHeartbeats 1000000 in
theorem rbound_any (c : Conf) (s : ByteArray) (w : World) (hs : s.size ≤ maxLen) : Calls Try.prog 30 #[.agg #[.int .i64 c.ta, .int .i64 c.ac, .int .i64 c.ke, .int .i64 c.de, .int .i64 c.ts, .int .i64 c.kl, .int .i64 c.vl, .int .i64 c.fa], .string s] w fun e w' => e = .returned (.bool (lenB (mayB c) s 0 c.kl)) ∧ Below w.heap.size w w' := by
  have _hs := hs
  unfold maxLen at _hs
  have HK : Hid ((w.alloc (.cells #[.int .i64 c.ta, .int .i64 c.ac, .int .i64 c.ke, .int .i64 c.de, .int .i64 c.ts, .int .i64 c.kl, .int .i64 c.vl, .int .i64 c.fa] 28)).cell? ⟨w.heap.size, 5, none⟩ = some (.int .i64 c.kl)) := by
    show _ = _
    rw [cell_of_row _ _ 5 _ 28 (0, 0) (heap_alloc_new w _)]; rfl
  have HX : Hid (∀ b : Bool, b = lenB (mayB c) s 0 c.kl → Ending.returned (.bool b) = .returned (.bool (lenB (mayB c) s 0 c.kl))) := fun b h => by rw [h]
  have HL : Hid (∀ b, mayB c = b → lenB (mayB c) s 0 c.kl = (b && decide ((0 : Int) ≤ s.size ∧ (s.size : Int) ≤ c.kl))) := fun b h => by rw [h]; rfl
  have HM := Lib.hid (fun w => rmay_any c w)
  obtain ⟨m, hm⟩ : ∃ m, mayB c = m := ⟨_, rfl⟩
  have Hm := Lib.hid hm
  clear hm
  cases m
  · go_enter Try.func30, Try.ntmps30
    go_wp2_with fail
    refine (HM.out _).mono ?_
    rintro e w1 ⟨rfl, hb⟩
    rw [Hm.out]
    go_wp2_with fail
    go_ret
    exact ⟨HX.out _ (by rw [HL.out _ Hm.out]; rfl), Below.trans ((Below.refl _ _).alloc (Nat.le_refl _) _) (hb.mono (by simp))⟩
  · go_enter Try.func30, Try.ntmps30
    go_wp2_with fail
    refine (HM.out _).mono ?_
    rintro e w1 ⟨rfl, hb⟩
    rw [Hm.out]
    have hk : w1.cell? ⟨w.heap.size, 5, none⟩ = some (.int .i64 c.kl) := (hb.cell (p := ⟨w.heap.size, 5, none⟩) (by simp)).trans HK.out
    go_wp2_with fail
    refine (is_any _ _ _ _).mono ?_
    rintro e _ ⟨rfl, rfl⟩
    go_wp2_with fail
    go_ret
    exact ⟨HX.out _ (by rw [HL.out _ Hm.out, Bool.true_and]; first | exact (Bool.decide_and _ _).symm | (rw [decide_eq_decide]; omega)), Below.trans ((Below.refl _ _).alloc (Nat.le_refl _) _) (hb.mono (by simp))⟩

set_option maxHeartbeats 1000000 in
theorem rvalue_any (c : Conf) (s : ByteArray) (w : World) (hs : s.size ≤ maxLen) : Calls Try.prog 31 #[.agg #[.int .i64 c.ta, .int .i64 c.ac, .int .i64 c.ke, .int .i64 c.de, .int .i64 c.ts, .int .i64 c.kl, .int .i64 c.vl, .int .i64 c.fa], .string s] w fun e w' => e = .returned (.bool (lenB (mayB c) s 0 c.vl)) ∧ Below w.heap.size w w' := by
  have _hs := hs
  unfold maxLen at _hs
  have HK : Hid ((w.alloc (.cells #[.int .i64 c.ta, .int .i64 c.ac, .int .i64 c.ke, .int .i64 c.de, .int .i64 c.ts, .int .i64 c.kl, .int .i64 c.vl, .int .i64 c.fa] 28)).cell? ⟨w.heap.size, 6, none⟩ = some (.int .i64 c.vl)) := by
    show _ = _
    rw [cell_of_row _ _ 6 _ 28 (0, 0) (heap_alloc_new w _)]; rfl
  have HX : Hid (∀ b : Bool, b = lenB (mayB c) s 0 c.vl → Ending.returned (.bool b) = .returned (.bool (lenB (mayB c) s 0 c.vl))) := fun b h => by rw [h]
  have HL : Hid (∀ b, mayB c = b → lenB (mayB c) s 0 c.vl = (b && decide ((0 : Int) ≤ s.size ∧ (s.size : Int) ≤ c.vl))) := fun b h => by rw [h]; rfl
  have HM := Lib.hid (fun w => rmay_any c w)
  obtain ⟨m, hm⟩ : ∃ m, mayB c = m := ⟨_, rfl⟩
  have Hm := Lib.hid hm
  clear hm
  cases m
  · go_enter Try.func31, Try.ntmps31
    go_wp2_with fail
    refine (HM.out _).mono ?_
    rintro e w1 ⟨rfl, hb⟩
    rw [Hm.out]
    go_wp2_with fail
    go_ret
    exact ⟨HX.out _ (by rw [HL.out _ Hm.out]; rfl), Below.trans ((Below.refl _ _).alloc (Nat.le_refl _) _) (hb.mono (by simp))⟩
  · go_enter Try.func31, Try.ntmps31
    go_wp2_with fail
    refine (HM.out _).mono ?_
    rintro e w1 ⟨rfl, hb⟩
    rw [Hm.out]
    have hk : w1.cell? ⟨w.heap.size, 6, none⟩ = some (.int .i64 c.vl) := (hb.cell (p := ⟨w.heap.size, 6, none⟩) (by simp)).trans HK.out
    go_wp2_with fail
    refine (is_any _ _ _ _).mono ?_
    rintro e _ ⟨rfl, rfl⟩
    go_wp2_with fail
    go_ret
    exact ⟨HX.out _ (by rw [HL.out _ Hm.out, Bool.true_and]; first | exact (Bool.decide_and _ _).symm | (rw [decide_eq_decide]; omega)), Below.trans ((Below.refl _ _).alloc (Nat.le_refl _) _) (hb.mono (by simp))⟩
end Go.Proofs.Ytilaghjboiikdaa
