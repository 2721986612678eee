/- The least writer that a view does not see, by the words. -/
import Derived.Test.YthicofdbcldpaaaD
namespace Go.Proofs.Ythicofdbcldpaaa
open Go.ChangeShapes Go.WideShapes Go.ChangeAt Go.RowKit
set_option linter.unusedVariables false
theorem refFold_le (own high : Int) : ∀ (l : List Int) (a : Int), refFold own high a l ≤ a
  | [], a => Int.le_refl _
  | x :: l, a => by
    have := refFold_le own high l (if 1 ≤ x ∧ x < high ∧ x ≠ own ∧ x < a then x else a)
    show refFold own high (if 1 ≤ x ∧ x < high ∧ x ≠ own ∧ x < a then x else a) l ≤ a
    split at this <;> rename_i c
    · rw [if_pos c]; omega
    · rw [if_neg c]; exact this
set_option maxRecDepth 100000 in
set_option maxHeartbeats 4000000 in
theorem rLeast_any (own high : Int) (A : Option Addr) (n c : Nat) (xs : List Int) (w : World) (hs : Ints w.heap.size w A n xs) (hn : n ≤ 1000000) (hh : high ≤ 9223372036854775807) :
    Calls Try.prog 16 #[.agg #[.int .i64 own, .int .i64 high, .slice A n c]] w fun e w' => e = .returned (.int .i64 (refLeast own high xs)) ∧ Below w.heap.size w w' := by
  have hb : Below w.heap.size w (w.alloc (.cells #[.int .i64 own, .int .i64 high, .slice A n c] 31)) := (Below.refl _ _).alloc (Nat.le_refl _) _
  have Hs := Lib.hid (hs.below hb)
  have Hb := Lib.hid hb
  have HL := Lib.hid hs.1
  clear hs hb
  go_enter Try.func16, Try.ntmps16
  go_wp2
  go_loop [4, 5] (fun l i => ∃ k : Nat, k ≤ n ∧ i = .int .i64 k ∧ l = .int .i64 (refFold own high 9223372036854775807 (xs.take k))) (fun _ i => n - (intOf i).toNat)
  case atStart => exact ⟨0, by omega, rfl, rfl⟩
  case round =>
    obtain ⟨k, hk, rfl, rfl⟩ := hrel
    by_cases hlt : k < n
    · have HS := Lib.hid (refFold_succ own high 9223372036854775807 xs k (by rw [HL.out]; exact hlt))
      obtain ⟨g, off, rfl, hg, hc⟩ := Hs.out.2 (by omega)
      have hck := hc k hlt
      obtain ⟨x, hx⟩ : ∃ x, xs.getD k 0 = x := ⟨_, rfl⟩
      obtain ⟨l, hl⟩ : ∃ l, refFold own high 9223372036854775807 (xs.take k) = l := ⟨_, rfl⟩
      rw [hx] at hck
      rw [hl]
      have HS2 : Hid (refFold own high 9223372036854775807 (xs.take (k + 1)) = if 1 ≤ x ∧ x < high ∧ x ≠ own ∧ x < l then x else l) := by have := HS.out; rw [hx, hl] at this; exact this
      have hx1 := index_run g off n c k (k : Int) rfl hlt
      clear hc hx hl HS
      by_cases h1 : 1 ≤ x
      case neg =>
        have HV : Hid (refFold own high 9223372036854775807 (xs.take (k + 1)) = l) := HS2.out.trans (if_neg (fun e => h1 e.1))
        have d1 : decide (1 ≤ x) = false := decide_eq_false h1
        clear HS2
        go_wp2
        go_round
        case rel => exact ⟨k + 1, by omega, by go_num, by rw [HV.out]⟩
        case measure => simp [intOf]; omega
      by_cases h2 : x < high
      case neg =>
        have HV : Hid (refFold own high 9223372036854775807 (xs.take (k + 1)) = l) := HS2.out.trans (if_neg (fun e => h2 e.2.1))
        have d1 : decide (1 ≤ x) = true := decide_eq_true h1
        have d2 : decide (x < high) = false := decide_eq_false h2
        clear HS2
        go_wp2
        go_round
        case rel => exact ⟨k + 1, by omega, by go_num, by rw [HV.out]⟩
        case measure => simp [intOf]; omega
      by_cases h3 : x = own
      case pos =>
        have HV : Hid (refFold own high 9223372036854775807 (xs.take (k + 1)) = l) := HS2.out.trans (if_neg (fun e => e.2.2.1 h3))
        have d1 : decide (1 ≤ x) = true := decide_eq_true h1
        have d2 : decide (x < high) = true := decide_eq_true h2
        have d3 : (x != own) = false := by rw [bne_eq_false_iff_eq]; exact h3
        clear HS2 h3
        go_wp2
        go_round
        case rel => exact ⟨k + 1, by omega, by go_num, by rw [HV.out]⟩
        case measure => simp [intOf]; omega
      have d3 : (x != own) = true := by rw [bne_iff_ne]; exact h3
      have d1 : decide (1 ≤ x) = true := decide_eq_true h1
      have d2 : decide (x < high) = true := decide_eq_true h2
      by_cases h4 : x < l
      · have HV : Hid (refFold own high 9223372036854775807 (xs.take (k + 1)) = x) := HS2.out.trans (if_pos ⟨h1, h2, h3, h4⟩)
        have d4 : decide (x < l) = true := decide_eq_true h4
        clear HS2 h3
        go_wp2
        go_round
        case rel => exact ⟨k + 1, by omega, by go_num, by rw [HV.out]⟩
        case measure => simp [intOf]; omega
      · have HV : Hid (refFold own high 9223372036854775807 (xs.take (k + 1)) = l) := HS2.out.trans (if_neg (fun e => h4 e.2.2.2))
        have d4 : decide (x < l) = false := decide_eq_false h4
        clear HS2 h3
        go_wp2
        go_round
        case rel => exact ⟨k + 1, by omega, by go_num, by rw [HV.out]⟩
        case measure => simp [intOf]; omega
    · obtain rfl : k = n := by omega
      have hall : xs.take k = xs := List.take_of_length_le (by rw [HL.out]; exact Nat.le_refl _)
      rw [hall]
      clear hall
      obtain ⟨r, hr⟩ : ∃ r, refFold own high 9223372036854775807 xs = r := ⟨_, rfl⟩
      rw [hr]
      have Hr := Lib.hid hr
      clear hr
      by_cases h1 : 1 < high
      · by_cases h2 : high = own
        · subst h2
          by_cases h3 : high < 9223372036854775807
          · have d3 : decide (high < 9223372036854775807) = true := decide_eq_true h3
            have Hf : Hid (firstOf high high = high + 1) := by show _ = _; unfold firstOf; rw [if_pos (by omega)]; omega
            by_cases h9 : high + 1 < r
            · have HR : Hid (refLeast high high xs = high + 1) := by show _ = _; unfold refLeast; rw [Hf.out, Hr.out, if_pos h9]
              clear Hf
              go_wp2
              go_ret
              exact ⟨ret_int HR.out.symm, Hb.out⟩
            · have HR : Hid (refLeast high high xs = r) := by show _ = _; unfold refLeast; rw [Hf.out, Hr.out, if_neg h9]
              clear Hf
              go_wp2
              go_ret
              exact ⟨ret_int HR.out.symm, Hb.out⟩
          · have d3 : decide (high < 9223372036854775807) = false := decide_eq_false h3
            have Hf : Hid (firstOf high high = high) := by show _ = _; unfold firstOf; rw [if_neg (by omega)]; omega
            by_cases h9 : high < r
            · have HR : Hid (refLeast high high xs = high) := by show _ = _; unfold refLeast; rw [Hf.out, Hr.out, if_pos h9]
              clear Hf
              go_wp2
              go_ret
              exact ⟨ret_int HR.out.symm, Hb.out⟩
            · have HR : Hid (refLeast high high xs = r) := by show _ = _; unfold refLeast; rw [Hf.out, Hr.out, if_neg h9]
              clear Hf
              go_wp2
              go_ret
              exact ⟨ret_int HR.out.symm, Hb.out⟩
        · have d : (high == own) = false := by rw [beq_eq_false_iff_ne]; exact h2
          have Hf : Hid (firstOf own high = high) := by show _ = _; unfold firstOf; rw [if_neg (by omega)]; omega
          clear h2
          by_cases h9 : high < r
          · have HR : Hid (refLeast own high xs = high) := by show _ = _; unfold refLeast; rw [Hf.out, Hr.out, if_pos h9]
            clear Hf
            go_wp2
            go_ret
            exact ⟨ret_int HR.out.symm, Hb.out⟩
          · have HR : Hid (refLeast own high xs = r) := by show _ = _; unfold refLeast; rw [Hf.out, Hr.out, if_neg h9]
            clear Hf
            go_wp2
            go_ret
            exact ⟨ret_int HR.out.symm, Hb.out⟩
      · by_cases h2 : own = 1
        · subst h2
          have Hf : Hid (firstOf 1 high = 2) := by show _ = _; unfold firstOf; rw [if_pos (by omega)]; omega
          by_cases h9 : 2 < r
          · have HR : Hid (refLeast 1 high xs = 2) := by show _ = _; unfold refLeast; rw [Hf.out, Hr.out, if_pos h9]
            clear Hf
            go_wp2
            go_ret
            exact ⟨ret_int HR.out.symm, Hb.out⟩
          · have HR : Hid (refLeast 1 high xs = r) := by show _ = _; unfold refLeast; rw [Hf.out, Hr.out, if_neg h9]
            clear Hf
            go_wp2
            go_ret
            exact ⟨ret_int HR.out.symm, Hb.out⟩
        · have d : ((1 : Int) == own) = false := by rw [beq_eq_false_iff_ne]; omega
          have Hf : Hid (firstOf own high = 1) := by show _ = _; unfold firstOf; rw [if_neg (by omega)]; omega
          clear h2
          by_cases h9 : 1 < r
          · have HR : Hid (refLeast own high xs = 1) := by show _ = _; unfold refLeast; rw [Hf.out, Hr.out, if_pos h9]
            clear Hf
            go_wp2
            go_ret
            exact ⟨ret_int HR.out.symm, Hb.out⟩
          · have HR : Hid (refLeast own high xs = r) := by show _ = _; unfold refLeast; rw [Hf.out, Hr.out, if_neg h9]
            clear Hf
            go_wp2
            go_ret
            exact ⟨ret_int HR.out.symm, Hb.out⟩
end Go.Proofs.Ythicofdbcldpaaa
