/- The maths of CallWords: a beginning of a call's text, a blank or a word too many. -/
import Derived.Test.YtkgdmdcnhbaidaaDoorY3
import Derived.Lib.SmallJoins
namespace Go.Proofs.YtkgdmdcnhbaidaaDoor
open Go.ChangeShapes Go.WideShapes Go.ChangeAt Go.RowKit
set_option linter.unusedVariables false
set_option linter.unusedSimpArgs false

theorem spL_cut : ∀ a b : List UInt8, spL (a ++ 32 :: b) = spL a ++ spL b
  | [], b => by simp [spL]
  | c :: l, b => by
    have ih := spL_cut l b
    show spL (c :: (l ++ 32 :: b)) = _
    by_cases hc : c = 32
    · subst hc
      rw [spL, if_pos rfl, ih, spL, if_pos rfl]; rfl
    · rw [spL, if_neg hc, ih]
      obtain ⟨x, r, hr⟩ : ∃ x r, spL l = x :: r := by cases hs : spL l with | nil => exact absurd hs (spL_ne l) | cons x r => exact ⟨x, r, rfl⟩
      have e2 : spL (c :: l) = (c :: x) :: r := by rw [spL, if_neg hc, hr]
      rw [hr, e2]; rfl
theorem spL_len (l : List UInt8) : 1 ≤ (spL l).length := by
  have := spL_ne l
  cases h : spL l with
  | nil => exact absurd h this
  | cons a r => simp
theorem opt_len (b : Bool) (w : ByteArray) (l : List ByteArray) : (opt b w l).length = l.length + (if b then 1 else 0) := by cases b <;> rfl
/-- a text that begins with a call's word, and has another number of words, is no call's -/
theorem parse_no {x : Cl} {s t : ByteArray} (hm : mayC x = true) (hs : s = showP x) (hh : (spL t.data.toList).head? = (spL s.data.toList).head?) (hl : (spL t.data.toList).length ≠ (spL s.data.toList).length) : okP t = false := by
  cases ht : okP t with
  | false => rfl
  | true =>
    exfalso
    have hk := may_rg hm
    have hw : wordsOf s = showL x := by
      rw [hs]; unfold showP; rw [if_pos hm]
      exact words_joinW (by unfold showL; rw [showN_eq]; simp) (show_nsp hk.2)
    obtain ⟨hb, hmy, _⟩ := parse_back ht
    have hk2 := may_rg hmy
    have es := words_data s
    have et := words_data t
    rw [hw] at es
    rw [hb] at et
    rw [← es, ← et] at hh hl
    unfold showL at hh hl
    rw [showN_eq, showN_eq] at hh
    simp only [List.map_cons, List.head?_cons, Option.some.injEq] at hh
    have h1 := data_inj hh
    have h2 : kindW (wdL.getD x.1 emp) = x.1 := kind_word ⟨x.1, hk.2⟩ hk.1
    have h3 : kindW (wdL.getD (clP t).1 emp) = (clP t).1 := kind_word ⟨(clP t).1, hk2.2⟩ hk2.1
    have h4 : (clP t).1 = x.1 := by
      rw [h1, h2] at h3
      exact h3.symm
    rw [h4] at hl
    apply hl
    rw [List.length_map, List.length_map, showN_eq, showN_eq]
    simp only [List.length_cons, opt_len]
theorem head_app {α : Type} {a b : List α} (h : a ≠ []) : (a ++ b).head? = a.head? := by
  cases a with
  | nil => exact absurd rfl h
  | cons x l => rfl
section
variable {x : Cl} {s t : ByteArray} (hm : mayC x = true) (hs : s = showP x)
include hm hs
theorem no_begin {a b : List UInt8} (es : s.data.toList = a ++ 32 :: b) (et : t.data.toList = a) : okP t = false := by
  have hb := spL_len b
  refine parse_no hm hs ?_ ?_
  · rw [es, et, spL_cut, head_app (spL_ne a)]
  · rw [es, et, spL_cut, List.length_append]; omega
theorem no_more {w : List UInt8} (et : t.data.toList = s.data.toList ++ 32 :: w) : okP t = false := by
  have hb := spL_len w
  refine parse_no hm hs ?_ ?_
  · rw [et, spL_cut, head_app (spL_ne _)]
  · rw [et, spL_cut, List.length_append]; omega
theorem no_two {a b : List UInt8} (es : s.data.toList = a ++ 32 :: b) (et : t.data.toList = a ++ 32 :: 32 :: b) : okP t = false := by
  have e : spL (32 :: b) = [] :: spL b := by rw [spL, if_pos rfl]
  refine parse_no hm hs ?_ ?_
  · rw [es, et, spL_cut, spL_cut, head_app (spL_ne a), head_app (spL_ne a)]
  · rw [es, et, spL_cut, spL_cut, e, List.length_append, List.length_append, List.length_cons]; omega
end
theorem no_front {t : ByteArray} {l : List UInt8} (et : t.data.toList = 32 :: l) : okP t = false := by
  cases ht : okP t with
  | false => rfl
  | true =>
    exfalso
    obtain ⟨hb, hmy, _⟩ := parse_back ht
    have h := words_data t
    have hk2 := may_rg hmy
    rw [hb, et, spL, if_pos rfl] at h
    unfold showL at h
    rw [showN_eq] at h
    have h1 : (wdL.getD (clP t).1 emp).data.toList = [] := (List.cons.inj h).1
    have h2 : ∀ k : Fin 10, 1 ≤ k.1 → (wdL.getD k.1 emp).data.toList ≠ [] := by decide +kernel
    exact h2 ⟨(clP t).1, hk2.2⟩ hk2.1 h1
/-- what stands at a place -/
theorem at_cut {l : List UInt8} {k : Nat} (h : k < l.length) (h32 : l.getD k 0 = 32) : l = l.take k ++ 32 :: l.drop (k + 1) := by
  conv => lhs; rw [← List.take_append_drop k l]
  rw [List.drop_eq_getElem_cons h]
  have : l[k] = 32 := by rw [List.getD_eq_getElem?_getD, List.getElem?_eq_getElem h] at h32; exact h32
  rw [this]
theorem ext_to (s : ByteArray) (k : Nat) : (s.extract 0 k).data.toList = s.data.toList.take k := by rw [Lib.extract_data]; simp
theorem ext_from (s : ByteArray) (k : Nat) : (s.extract k s.size).data.toList = s.data.toList.drop k := by
  rw [Lib.extract_data]
  exact List.take_of_length_le (by rw [List.length_drop]; exact Nat.le_refl _)
theorem which_of (y : Int) (n : Nat) (h0 : 0 < n) (hn : n ≤ 1000000) : ∃ Y k : Nat, k < n ∧ IntKind.u64.wrap y = (Y : Int) ∧ Int.tmod (Y : Int) (n : Int) = (k : Int) ∧ IntKind.u64.wrap (k : Int) = (k : Int) ∧ IntKind.i64.wrap (k : Int) = (k : Int) ∧ IntKind.u64.wrap (n : Int) = (n : Int) ∧ ((n : Int) == 0) = false := by
  obtain ⟨Y, hY⟩ : ∃ Y : Nat, IntKind.u64.wrap y = (Y : Int) := ⟨(y % 18446744073709551616).toNat, by simp [IntKind.wrap, IntKind.bits, IntKind.signed]; omega⟩
  have hk := Nat.mod_lt Y h0
  refine ⟨Y, Y % n, hk, hY, (Int.ofNat_tmod Y n).symm, ?_, ?_, ?_, ?_⟩
  · generalize Y % n = k at *
    simp [IntKind.wrap, IntKind.bits, IntKind.signed]; omega
  · generalize Y % n = k at *
    exact IntWalk.i64_in _ (by omega)
  · simp [IntKind.wrap, IntKind.bits, IntKind.signed]; omega
  · rw [beq_eq_false_iff_ne]; omega
end Go.Proofs.YtkgdmdcnhbaidaaDoor
