/- Package delta's Make and Apply at any values; the examples. -/
import Derived.Test.YthghaagmpneemaaU
namespace Go.Proofs.Ythghaagmpneemaa
open Go.ChangeShapes Go.WideShapes Go.ChangeAt Go.RowKit
set_option linter.unusedVariables false
theorem short_no (A D : List UInt8) (h : D.length < 4) : apB A D = false := apB_no (fun h2 => by omega)
set_option maxHeartbeats 400000 in
theorem apply_short (a d : ByteArray) (w : World) (ha : a.size ≤ 256) (h4 : d.size < 4) :
    Calls Try.prog 10 #[.string a, .string d] w fun e w' => e = .returned (.tuple #[.string ⟨#[]⟩, .int .i64 4]) ∧ w = w' := by
  go_enter Try.func10, Try.ntmps10
  go_wp2_with fail
  go_ret2
  exact ⟨rfl, rfl⟩
set_option maxHeartbeats 400000 in
theorem apply_large (a d : ByteArray) (w : World) (ha : 256 < a.size) :
    Calls Try.prog 10 #[.string a, .string d] w fun e w' => e = .returned (.tuple #[.string ⟨#[]⟩, .int .i64 40]) ∧ w = w' := by
  go_enter Try.func10, Try.ntmps10
  go_wp2_with fail
  go_ret2
  exact ⟨rfl, rfl⟩
/-- Apply's answer is no -/
theorem apply_no (a d : ByteArray) (w : World) (hd : d.size ≤ 1000000) (h : ¬ (a.size ≤ 256 ∧ apB (bl a) (bl d) = true)) :
    Calls Try.prog 10 #[.string a, .string d] w fun e w' => (∃ n : Int, (n = 4 ∨ n = 40) ∧ (n = 4 ↔ a.size ≤ 256) ∧ e = .returned (.tuple #[.string ⟨#[]⟩, .int .i64 n])) ∧ Below w.heap.size w w' := by
  by_cases ha : a.size ≤ 256
  · have hf : apB (bl a) (bl d) = false := by simpa [ha] using h
    by_cases h4 : 4 ≤ d.size
    · refine (apply_any a d w ha h4 hd).mono ?_
      rintro e w' ⟨hb, he⟩
      rw [hf] at he
      exact ⟨⟨4, .inl rfl, by simp [ha], he⟩, hb⟩
    · refine (apply_short a d w ha (by omega)).mono ?_
      rintro e w' ⟨he, rfl⟩
      exact ⟨⟨4, .inl rfl, by simp [ha], he⟩, Below.refl _ _⟩
  · refine (apply_large a d w (by omega)).mono ?_
    rintro e w' ⟨he, rfl⟩
    exact ⟨⟨40, .inr rfl, by simp [ha], he⟩, Below.refl _ _⟩
theorem apply_yes (a d : ByteArray) (w : World) (hd : d.size ≤ 1000000) (ha : a.size ≤ 256) (h : apB (bl a) (bl d) = true) :
    Calls Try.prog 10 #[.string a, .string d] w fun e w' => e = .returned (.tuple #[.string (str (ap (bl a) (bl d))), .int .i64 0]) ∧ Below w.heap.size w w' := by
  by_cases h4 : 4 ≤ d.size
  · refine (apply_any a d w ha h4 hd).mono ?_
    rintro e w' ⟨hb, he⟩
    rw [h] at he
    exact ⟨he, hb⟩
  · exfalso
    rw [short_no (bl a) (bl d) (by rw [bl_len]; omega)] at h
    cases h
theorem mk1 : str (mk (bl ⟨#[97, 98, 99, 100, 101, 102]⟩) (bl ⟨#[97, 98, 88, 101, 102]⟩)) = ⟨#[0, 2, 0, 2, 88]⟩ := by decide +kernel
theorem ap1 : str (ap (bl ⟨#[97, 98, 99, 100, 101, 102]⟩) (bl ⟨#[0, 2, 0, 2, 88]⟩)) = ⟨#[97, 98, 88, 101, 102]⟩ := by decide +kernel
theorem ap1B : apB (bl ⟨#[97, 98, 99, 100, 101, 102]⟩) (bl ⟨#[0, 2, 0, 2, 88]⟩) = true := by decide +kernel
theorem mk2 : str (mk (bl ⟨#[97, 97, 97]⟩) (bl ⟨#[97, 97]⟩)) = ⟨#[0, 2, 0, 0]⟩ := by decide +kernel
theorem ap2B : apB (bl ⟨#[97, 98]⟩) (bl ⟨#[0, 2, 0, 1]⟩) = false := by decide +kernel
theorem mk3 : str (mk (bl ⟨#[120]⟩) (bl ⟨#[120]⟩)) = ⟨#[0, 1, 0, 0]⟩ := by decide +kernel
set_option maxHeartbeats 1000000 in
theorem awake_any (w : World) : Calls Try.prog 8 #[] w fun e w' => e = .returned (.bool true) ∧ Below w.heap.size w w' := by
  go_enter Try.func8, Try.ntmps8
  go_wp2_with fail
  refine (make_yes _ _ _ (by decide) (by decide)).mono ?_
  rintro e w1 ⟨rfl, hb⟩
  rw [mk1]
  have H1 := Lib.hid hb
  clear hb
  go_wp2_with fail
  refine (apply_yes _ _ _ (by decide) (by decide) ap1B).mono ?_
  rintro e w2 ⟨rfl, hb⟩
  rw [ap1]
  have H2 : Hid (Below w.heap.size w w2) := H1.out.trans (hb.mono H1.out.size)
  clear hb H1
  go_wp2_with fail
  refine (make_yes _ _ _ (by decide) (by decide)).mono ?_
  rintro e w3 ⟨rfl, hb⟩
  rw [mk2]
  have H3 : Hid (Below w.heap.size w w3) := H2.out.trans (hb.mono H2.out.size)
  clear hb H2
  go_wp2_with fail
  refine (apply_any _ _ _ (by decide) (by decide) (by decide)).mono ?_
  rintro e w4 ⟨hb, rfl⟩
  rw [if_neg (by rw [ap2B]; decide)]
  have H4 : Hid (Below w.heap.size w w4) := H3.out.trans (hb.mono H3.out.size)
  clear hb H3
  go_wp2_with fail
  refine (make_yes _ _ _ (by decide) (by decide)).mono ?_
  rintro e w5 ⟨rfl, hb⟩
  rw [mk3]
  have H5 : Hid (Below w.heap.size w w5) := H4.out.trans (hb.mono H4.out.size)
  clear hb H4
  go_wp2_with fail
  go_ret
  exact ⟨rfl, H5.out⟩
end Go.Proofs.Ythghaagmpneemaa
