/- The least writer that a view does not see: by the words, and by the program. -/
import Derived.Test.YthicofdbcldpaaaC
namespace Go.Proofs.Ythicofdbcldpaaa
open Go.ChangeShapes Go.WideShapes Go.ChangeAt Go.RowKit
set_option linter.unusedVariables false
theorem first_bound {own high : Int} (h : high ≤ 9223372036854775807) : 1 ≤ firstOf own high ∧ firstOf own high ≤ 9223372036854775807 := by
  unfold firstOf; split <;> omega
set_option maxRecDepth 100000 in
set_option maxHeartbeats 4000000 in
theorem Least_any (own high : Int) (A : Option Addr) (n c : Nat) (xs : List Int) (w : World) (hs : Ints w.heap.size w A n xs) (hn : n ≤ 1000000) (hh : high ≤ 9223372036854775807) :
    Calls Try.prog 8 #[.agg #[.int .i64 own, .int .i64 high, .slice A n c]] w fun e w' => e = .returned (.int .i64 (leastOf own high xs)) ∧ Below w.heap.size w w' := by
  have hb : Below w.heap.size w (w.alloc (.cells #[.int .i64 own, .int .i64 high, .slice A n c] 25)) := (Below.refl _ _).alloc (Nat.le_refl _) _
  have Hs := Lib.hid (hs.below hb)
  have Hb := Lib.hid hb
  have HL := Lib.hid hs.1
  clear hs hb
  by_cases h1 : high < 1
  · by_cases h2 : own = 1
    · subst h2
      have Hf : Hid (firstOf 1 high = 2) := by show _ = _; unfold firstOf; rw [if_pos (by omega)]; omega
      go_enter Try.func8, Try.ntmps8
      go_wp2
      go_loop [3, 22] (fun l i => ∃ k : Nat, k ≤ n ∧ i = .int .i64 k ∧ l = .int .i64 (leastFold 1 (firstOf 1 high) (xs.take k))) (fun _ i => n - (intOf i).toNat)
      case atStart => exact ⟨0, by omega, rfl, by show _ = Value.int _ (firstOf _ _); rw [Hf.out]⟩
      case round =>
        obtain ⟨k, hk, rfl, rfl⟩ := hrel
        by_cases hlt : k < n
        · have HS := Lib.hid (leastFold_succ 1 (firstOf 1 high) xs k (by rw [HL.out]; exact hlt))
          obtain ⟨g, off, rfl, hg, hc⟩ := Hs.out.2 (by omega)
          have hck := hc k hlt
          obtain ⟨x, hx⟩ : ∃ x, xs.getD k 0 = x := ⟨_, rfl⟩
          obtain ⟨l, hl⟩ : ∃ l, leastFold 1 (firstOf 1 high) (xs.take k) = l := ⟨_, rfl⟩
          rw [hx] at hck
          rw [hl]
          have HS2 : Hid (leastFold 1 (firstOf 1 high) (xs.take (k + 1)) = if 1 ≤ x ∧ x ≠ 1 then min l x else l) := by have := HS.out; rw [hx, hl] at this; exact this
          have hx1 := index_run g off n c k (k : Int) rfl hlt
          clear hc hx hl HS
          by_cases h1 : 1 ≤ x
          · by_cases h2 : x = 1
            · have d2 : (x != 1) = false := by rw [bne_eq_false_iff_eq]; exact h2
              have HV : Hid (leastFold 1 (firstOf 1 high) (xs.take (k + 1)) = l) := HS2.out.trans (if_neg (fun e => e.2 h2))
              clear h2 HS2
              go_wp2
              go_round
              case rel => exact ⟨k + 1, by omega, by go_num, by rw [HV.out]⟩
              case measure => simp [intOf]; omega
            · have d2 : (x != 1) = true := by rw [bne_iff_ne]; exact h2
              by_cases h3 : x < l
              · have HV : Hid (leastFold 1 (firstOf 1 high) (xs.take (k + 1)) = x) := HS2.out.trans ((if_pos ⟨h1, h2⟩).trans (by omega))
                clear h2 HS2
                go_wp2
                go_round
                case rel => exact ⟨k + 1, by omega, by go_num, by rw [HV.out]⟩
                case measure => simp [intOf]; omega
              · have HV : Hid (leastFold 1 (firstOf 1 high) (xs.take (k + 1)) = l) := HS2.out.trans ((if_pos ⟨h1, h2⟩).trans (by omega))
                clear h2 HS2
                go_wp2
                go_round
                case rel => exact ⟨k + 1, by omega, by go_num, by rw [HV.out]⟩
                case measure => simp [intOf]; omega
          · have HV : Hid (leastFold 1 (firstOf 1 high) (xs.take (k + 1)) = l) := HS2.out.trans (if_neg (fun e => h1 e.1))
            have d1 : decide (1 ≤ x) = false := decide_eq_false h1
            clear HS2
            go_wp2
            go_round
            case rel => exact ⟨k + 1, by omega, by go_num, by rw [HV.out]⟩
            case measure => simp [intOf]; omega
        · obtain rfl : k = n := by omega
          have HR : Hid (leastFold 1 (firstOf 1 high) (xs.take k) = leastOf 1 high xs) := by
            show _ = _; unfold leastOf; rw [List.take_of_length_le (by rw [HL.out]; exact Nat.le_refl _)]
          go_wp2
          go_ret
          exact ⟨ret_int HR.out, Hb.out⟩
    · have d : ((1 : Int) == own) = false := by rw [beq_eq_false_iff_ne]; omega
      have Hf : Hid (firstOf own high = 1) := by show _ = _; unfold firstOf; rw [if_neg (by omega)]; omega
      clear h2
      go_enter Try.func8, Try.ntmps8
      go_wp2
      go_loop [3, 22] (fun l i => ∃ k : Nat, k ≤ n ∧ i = .int .i64 k ∧ l = .int .i64 (leastFold own (firstOf own high) (xs.take k))) (fun _ i => n - (intOf i).toNat)
      case atStart => exact ⟨0, by omega, rfl, by show _ = Value.int _ (firstOf _ _); rw [Hf.out]⟩
      case round =>
        obtain ⟨k, hk, rfl, rfl⟩ := hrel
        by_cases hlt : k < n
        · have HS := Lib.hid (leastFold_succ own (firstOf own high) xs k (by rw [HL.out]; exact hlt))
          obtain ⟨g, off, rfl, hg, hc⟩ := Hs.out.2 (by omega)
          have hck := hc k hlt
          obtain ⟨x, hx⟩ : ∃ x, xs.getD k 0 = x := ⟨_, rfl⟩
          obtain ⟨l, hl⟩ : ∃ l, leastFold own (firstOf own high) (xs.take k) = l := ⟨_, rfl⟩
          rw [hx] at hck
          rw [hl]
          have HS2 : Hid (leastFold own (firstOf own high) (xs.take (k + 1)) = if 1 ≤ x ∧ x ≠ own then min l x else l) := by have := HS.out; rw [hx, hl] at this; exact this
          have hx1 := index_run g off n c k (k : Int) rfl hlt
          clear hc hx hl HS
          by_cases h1 : 1 ≤ x
          · by_cases h2 : x = own
            · have d2 : (x != own) = false := by rw [bne_eq_false_iff_eq]; exact h2
              have HV : Hid (leastFold own (firstOf own high) (xs.take (k + 1)) = l) := HS2.out.trans (if_neg (fun e => e.2 h2))
              clear h2 HS2
              go_wp2
              go_round
              case rel => exact ⟨k + 1, by omega, by go_num, by rw [HV.out]⟩
              case measure => simp [intOf]; omega
            · have d2 : (x != own) = true := by rw [bne_iff_ne]; exact h2
              by_cases h3 : x < l
              · have HV : Hid (leastFold own (firstOf own high) (xs.take (k + 1)) = x) := HS2.out.trans ((if_pos ⟨h1, h2⟩).trans (by omega))
                clear h2 HS2
                go_wp2
                go_round
                case rel => exact ⟨k + 1, by omega, by go_num, by rw [HV.out]⟩
                case measure => simp [intOf]; omega
              · have HV : Hid (leastFold own (firstOf own high) (xs.take (k + 1)) = l) := HS2.out.trans ((if_pos ⟨h1, h2⟩).trans (by omega))
                clear h2 HS2
                go_wp2
                go_round
                case rel => exact ⟨k + 1, by omega, by go_num, by rw [HV.out]⟩
                case measure => simp [intOf]; omega
          · have HV : Hid (leastFold own (firstOf own high) (xs.take (k + 1)) = l) := HS2.out.trans (if_neg (fun e => h1 e.1))
            have d1 : decide (1 ≤ x) = false := decide_eq_false h1
            clear HS2
            go_wp2
            go_round
            case rel => exact ⟨k + 1, by omega, by go_num, by rw [HV.out]⟩
            case measure => simp [intOf]; omega
        · obtain rfl : k = n := by omega
          have HR : Hid (leastFold own (firstOf own high) (xs.take k) = leastOf own high xs) := by
            show _ = _; unfold leastOf; rw [List.take_of_length_le (by rw [HL.out]; exact Nat.le_refl _)]
          go_wp2
          go_ret
          exact ⟨ret_int HR.out, Hb.out⟩
  · by_cases h2 : own = high
    · subst h2
      by_cases h3 : own < 9223372036854775807
      · have d3 : decide (own < 9223372036854775807) = true := decide_eq_true h3
        have Hf : Hid (firstOf own own = own + 1) := by show _ = _; unfold firstOf; rw [if_pos (by omega)]; omega
        go_enter Try.func8, Try.ntmps8
        go_wp2
        go_loop [3, 22] (fun l i => ∃ k : Nat, k ≤ n ∧ i = .int .i64 k ∧ l = .int .i64 (leastFold own (firstOf own own) (xs.take k))) (fun _ i => n - (intOf i).toNat)
        case atStart => exact ⟨0, by omega, rfl, by show _ = Value.int _ (firstOf _ _); rw [Hf.out]⟩
        case round =>
          obtain ⟨k, hk, rfl, rfl⟩ := hrel
          by_cases hlt : k < n
          · have HS := Lib.hid (leastFold_succ own (firstOf own own) xs k (by rw [HL.out]; exact hlt))
            obtain ⟨g, off, rfl, hg, hc⟩ := Hs.out.2 (by omega)
            have hck := hc k hlt
            obtain ⟨x, hx⟩ : ∃ x, xs.getD k 0 = x := ⟨_, rfl⟩
            obtain ⟨l, hl⟩ : ∃ l, leastFold own (firstOf own own) (xs.take k) = l := ⟨_, rfl⟩
            rw [hx] at hck
            rw [hl]
            have HS2 : Hid (leastFold own (firstOf own own) (xs.take (k + 1)) = if 1 ≤ x ∧ x ≠ own then min l x else l) := by have := HS.out; rw [hx, hl] at this; exact this
            have hx1 := index_run g off n c k (k : Int) rfl hlt
            clear hc hx hl HS
            by_cases h1 : 1 ≤ x
            · by_cases h2 : x = own
              · have d2 : (x != own) = false := by rw [bne_eq_false_iff_eq]; exact h2
                have HV : Hid (leastFold own (firstOf own own) (xs.take (k + 1)) = l) := HS2.out.trans (if_neg (fun e => e.2 h2))
                clear h2 HS2
                go_wp2
                go_round
                case rel => exact ⟨k + 1, by omega, by go_num, by rw [HV.out]⟩
                case measure => simp [intOf]; omega
              · have d2 : (x != own) = true := by rw [bne_iff_ne]; exact h2
                by_cases h3 : x < l
                · have HV : Hid (leastFold own (firstOf own own) (xs.take (k + 1)) = x) := HS2.out.trans ((if_pos ⟨h1, h2⟩).trans (by omega))
                  clear h2 HS2
                  go_wp2
                  go_round
                  case rel => exact ⟨k + 1, by omega, by go_num, by rw [HV.out]⟩
                  case measure => simp [intOf]; omega
                · have HV : Hid (leastFold own (firstOf own own) (xs.take (k + 1)) = l) := HS2.out.trans ((if_pos ⟨h1, h2⟩).trans (by omega))
                  clear h2 HS2
                  go_wp2
                  go_round
                  case rel => exact ⟨k + 1, by omega, by go_num, by rw [HV.out]⟩
                  case measure => simp [intOf]; omega
            · have HV : Hid (leastFold own (firstOf own own) (xs.take (k + 1)) = l) := HS2.out.trans (if_neg (fun e => h1 e.1))
              have d1 : decide (1 ≤ x) = false := decide_eq_false h1
              clear HS2
              go_wp2
              go_round
              case rel => exact ⟨k + 1, by omega, by go_num, by rw [HV.out]⟩
              case measure => simp [intOf]; omega
          · obtain rfl : k = n := by omega
            have HR : Hid (leastFold own (firstOf own own) (xs.take k) = leastOf own own xs) := by
              show _ = _; unfold leastOf; rw [List.take_of_length_le (by rw [HL.out]; exact Nat.le_refl _)]
            go_wp2
            go_ret
            exact ⟨ret_int HR.out, Hb.out⟩
      · have d3 : decide (own < 9223372036854775807) = false := decide_eq_false h3
        have Hf : Hid (firstOf own own = own) := by show _ = _; unfold firstOf; rw [if_neg (by omega)]; omega
        go_enter Try.func8, Try.ntmps8
        go_wp2
        go_loop [3, 22] (fun l i => ∃ k : Nat, k ≤ n ∧ i = .int .i64 k ∧ l = .int .i64 (leastFold own (firstOf own own) (xs.take k))) (fun _ i => n - (intOf i).toNat)
        case atStart => exact ⟨0, by omega, rfl, by show _ = Value.int _ (firstOf _ _); rw [Hf.out]⟩
        case round =>
          obtain ⟨k, hk, rfl, rfl⟩ := hrel
          by_cases hlt : k < n
          · have HS := Lib.hid (leastFold_succ own (firstOf own own) xs k (by rw [HL.out]; exact hlt))
            obtain ⟨g, off, rfl, hg, hc⟩ := Hs.out.2 (by omega)
            have hck := hc k hlt
            obtain ⟨x, hx⟩ : ∃ x, xs.getD k 0 = x := ⟨_, rfl⟩
            obtain ⟨l, hl⟩ : ∃ l, leastFold own (firstOf own own) (xs.take k) = l := ⟨_, rfl⟩
            rw [hx] at hck
            rw [hl]
            have HS2 : Hid (leastFold own (firstOf own own) (xs.take (k + 1)) = if 1 ≤ x ∧ x ≠ own then min l x else l) := by have := HS.out; rw [hx, hl] at this; exact this
            have hx1 := index_run g off n c k (k : Int) rfl hlt
            clear hc hx hl HS
            by_cases h1 : 1 ≤ x
            · by_cases h2 : x = own
              · have d2 : (x != own) = false := by rw [bne_eq_false_iff_eq]; exact h2
                have HV : Hid (leastFold own (firstOf own own) (xs.take (k + 1)) = l) := HS2.out.trans (if_neg (fun e => e.2 h2))
                clear h2 HS2
                go_wp2
                go_round
                case rel => exact ⟨k + 1, by omega, by go_num, by rw [HV.out]⟩
                case measure => simp [intOf]; omega
              · have d2 : (x != own) = true := by rw [bne_iff_ne]; exact h2
                by_cases h3 : x < l
                · have HV : Hid (leastFold own (firstOf own own) (xs.take (k + 1)) = x) := HS2.out.trans ((if_pos ⟨h1, h2⟩).trans (by omega))
                  clear h2 HS2
                  go_wp2
                  go_round
                  case rel => exact ⟨k + 1, by omega, by go_num, by rw [HV.out]⟩
                  case measure => simp [intOf]; omega
                · have HV : Hid (leastFold own (firstOf own own) (xs.take (k + 1)) = l) := HS2.out.trans ((if_pos ⟨h1, h2⟩).trans (by omega))
                  clear h2 HS2
                  go_wp2
                  go_round
                  case rel => exact ⟨k + 1, by omega, by go_num, by rw [HV.out]⟩
                  case measure => simp [intOf]; omega
            · have HV : Hid (leastFold own (firstOf own own) (xs.take (k + 1)) = l) := HS2.out.trans (if_neg (fun e => h1 e.1))
              have d1 : decide (1 ≤ x) = false := decide_eq_false h1
              clear HS2
              go_wp2
              go_round
              case rel => exact ⟨k + 1, by omega, by go_num, by rw [HV.out]⟩
              case measure => simp [intOf]; omega
          · obtain rfl : k = n := by omega
            have HR : Hid (leastFold own (firstOf own own) (xs.take k) = leastOf own own xs) := by
              show _ = _; unfold leastOf; rw [List.take_of_length_le (by rw [HL.out]; exact Nat.le_refl _)]
            go_wp2
            go_ret
            exact ⟨ret_int HR.out, Hb.out⟩
    · have d : (high == own) = false := by rw [beq_eq_false_iff_ne]; omega
      have Hf : Hid (firstOf own high = high) := by show _ = _; unfold firstOf; rw [if_neg (by omega)]; omega
      clear h2
      go_enter Try.func8, Try.ntmps8
      go_wp2
      go_loop [3, 22] (fun l i => ∃ k : Nat, k ≤ n ∧ i = .int .i64 k ∧ l = .int .i64 (leastFold own (firstOf own high) (xs.take k))) (fun _ i => n - (intOf i).toNat)
      case atStart => exact ⟨0, by omega, rfl, by show _ = Value.int _ (firstOf _ _); rw [Hf.out]⟩
      case round =>
        obtain ⟨k, hk, rfl, rfl⟩ := hrel
        by_cases hlt : k < n
        · have HS := Lib.hid (leastFold_succ own (firstOf own high) xs k (by rw [HL.out]; exact hlt))
          obtain ⟨g, off, rfl, hg, hc⟩ := Hs.out.2 (by omega)
          have hck := hc k hlt
          obtain ⟨x, hx⟩ : ∃ x, xs.getD k 0 = x := ⟨_, rfl⟩
          obtain ⟨l, hl⟩ : ∃ l, leastFold own (firstOf own high) (xs.take k) = l := ⟨_, rfl⟩
          rw [hx] at hck
          rw [hl]
          have HS2 : Hid (leastFold own (firstOf own high) (xs.take (k + 1)) = if 1 ≤ x ∧ x ≠ own then min l x else l) := by have := HS.out; rw [hx, hl] at this; exact this
          have hx1 := index_run g off n c k (k : Int) rfl hlt
          clear hc hx hl HS
          by_cases h1 : 1 ≤ x
          · by_cases h2 : x = own
            · have d2 : (x != own) = false := by rw [bne_eq_false_iff_eq]; exact h2
              have HV : Hid (leastFold own (firstOf own high) (xs.take (k + 1)) = l) := HS2.out.trans (if_neg (fun e => e.2 h2))
              clear h2 HS2
              go_wp2
              go_round
              case rel => exact ⟨k + 1, by omega, by go_num, by rw [HV.out]⟩
              case measure => simp [intOf]; omega
            · have d2 : (x != own) = true := by rw [bne_iff_ne]; exact h2
              by_cases h3 : x < l
              · have HV : Hid (leastFold own (firstOf own high) (xs.take (k + 1)) = x) := HS2.out.trans ((if_pos ⟨h1, h2⟩).trans (by omega))
                clear h2 HS2
                go_wp2
                go_round
                case rel => exact ⟨k + 1, by omega, by go_num, by rw [HV.out]⟩
                case measure => simp [intOf]; omega
              · have HV : Hid (leastFold own (firstOf own high) (xs.take (k + 1)) = l) := HS2.out.trans ((if_pos ⟨h1, h2⟩).trans (by omega))
                clear h2 HS2
                go_wp2
                go_round
                case rel => exact ⟨k + 1, by omega, by go_num, by rw [HV.out]⟩
                case measure => simp [intOf]; omega
          · have HV : Hid (leastFold own (firstOf own high) (xs.take (k + 1)) = l) := HS2.out.trans (if_neg (fun e => h1 e.1))
            have d1 : decide (1 ≤ x) = false := decide_eq_false h1
            clear HS2
            go_wp2
            go_round
            case rel => exact ⟨k + 1, by omega, by go_num, by rw [HV.out]⟩
            case measure => simp [intOf]; omega
        · obtain rfl : k = n := by omega
          have HR : Hid (leastFold own (firstOf own high) (xs.take k) = leastOf own high xs) := by
            show _ = _; unfold leastOf; rw [List.take_of_length_le (by rw [HL.out]; exact Nat.le_refl _)]
          go_wp2
          go_ret
          exact ⟨ret_int HR.out, Hb.out⟩
end Go.Proofs.Ythicofdbcldpaaa
