/- Package delta: what is the same from either end, and the delta of two values. -/
import Derived.Test.YthghaagmpneemaaB16
import Derived.Test.YthghaagmpneemaaP
import Derived.IntWalk
import Derived.WalkSpells
import Derived.WalkLawsBesides
import Derived.RegionTactic
import Derived.Deep.WholeRow
import Derived.Laws.IdiomStrings
namespace Go.Proofs.Ythghaagmpneemaa
open Go.ChangeShapes Go.WideShapes Go.ChangeAt Go.RowKit
set_option linter.unusedVariables false

def bl (a : ByteArray) : List UInt8 := a.data.toList
theorem bl_len (a : ByteArray) : (bl a).length = a.size := by simp [bl]
theorem bl_at (a : ByteArray) (k : Nat) (h : k < a.size) : a[k] = (bl a).getD k 0 := by
  rw [List.getD_eq_getElem?_getD, List.getElem?_eq_getElem (by rw [bl_len]; exact h)]; rfl
theorem ret_int {k : IntKind} {a b : Int} (h : a = b) : Ending.returned (.int k a) = .returned (.int k b) := by rw [h]
theorem index_v (a : ByteArray) (j : Nat) (W : World) (h : j < a.size) : (Instr.index 43 (.string a) (.int .i64 (j : Int))).run Try.prog W = .ok (.int .u8 (((bl a).getD j 0).toNat : Int)) W := by
  rw [run_index_string W 43 a .i64 _ Try.underlying43, ← bl_at a j h]
  simp [h]
theorem u8_int_ne {x y : UInt8} (h : x ≠ y) : ((x.toNat : Int) == (y.toNat : Int)) = false := by
  rw [beq_eq_false_iff_ne]; intro e; exact h (UInt8.toNat_inj.1 (by omega))

set_option maxHeartbeats 400000 in
theorem first_any (a : ByteArray) (k : Nat) (w : World) (hk : k < a.size) : Calls Try.prog 21 #[.string a, .int .i64 k] w fun e w' => e = .returned (.int .u8 (((bl a).getD k 0).toNat : Int)) ∧ w = w' := by
  have hi := fun W => index_v a k W hk
  go_enter Try.func21, Try.ntmps21
  go_wp2
  go_ret
  exact ⟨rfl, rfl⟩
set_option maxHeartbeats 400000 in
theorem last_any (a : ByteArray) (k : Nat) (w : World) (hk : k < a.size) (hm : a.size ≤ maxLen) : Calls Try.prog 22 #[.string a, .int .i64 k] w fun e w' => e = .returned (.int .u8 (((bl a).getD (a.size - 1 - k) 0).toNat : Int)) ∧ w = w' := by
  unfold maxLen at hm
  have hi : ∀ W, (Instr.index 43 (.string a) (.int .i64 ((a.size : Int) - 1 - (k : Int)))).run Try.prog W = .ok (.int .u8 (((bl a).getD (a.size - 1 - k) 0).toNat : Int)) W := fun W => by
    rw [show (a.size : Int) - 1 - (k : Int) = ((a.size - 1 - k : Nat) : Int) from by omega]
    exact index_v a _ W (by omega)
  go_enter Try.func22, Try.ntmps22
  go_wp2
  go_ret
  exact ⟨rfl, rfl⟩

theorem first_x (a : ByteArray) (k : Nat) (w : World) (hk : k < a.size) (hm : a.size ≤ maxLen) (x : Int) (hx : ((((bl a).getD k 0).toNat : Nat) : Int) = x) : Calls Try.prog 21 #[.string a, .int .i64 k] w fun e w' => e = .returned (.int .u8 x) ∧ w = w' := by
  subst hx
  exact first_any a k w hk
set_option maxHeartbeats 1000000 in
theorem alike_first (a b : ByteArray) (m : Nat) (w : World) (ha : m ≤ a.size) (hb : m ≤ b.size) (hm : a.size ≤ maxLen) (hm2 : b.size ≤ maxLen) :
    Calls Try.prog 20 #[.string a, .string b, .int .i64 m, .func (.func 21) #[] #[]] w fun e w' => e = .returned (.int .i64 (cnt (fstB (bl a) (bl b)) m)) ∧ w = w' := by
  have Hm := Lib.hid hm
  have Hm2 := Lib.hid hm2
  unfold maxLen at hm hm2
  go_enter Try.func20, Try.ntmps20
  go_wp2
  go_loop [9] (fun i => ∃ k : Nat, k ≤ m ∧ i = .int .i64 k ∧ (∀ j, j < k → fstB (bl a) (bl b) j = true)) (fun i => m - (intOf i).toNat)
  case atStart => exact ⟨0, by omega, rfl, fun j hj => by omega⟩
  case round =>
    obtain ⟨k, hk, rfl, hall⟩ := hrel
    have Hall := Lib.hid hall
    clear hall
    by_cases h1 : k < m
    · obtain ⟨x, hx⟩ : ∃ x : Int, ((((bl a).getD k 0).toNat : Nat) : Int) = x := ⟨_, rfl⟩
      have Hx := Lib.hid hx
      clear hx
      obtain ⟨y, hy⟩ : ∃ y : Int, ((((bl b).getD k 0).toNat : Nat) : Int) = y := ⟨_, rfl⟩
      have Hy := Lib.hid hy
      clear hy
      by_cases he : x = y
      · obtain rfl := he
        have Hall2 : Hid (∀ j, j < k + 1 → fstB (bl a) (bl b) j = true) := fun j hj => by
          by_cases e : j = k
          · subst e
            have h1 := Hx.out; have h2 := Hy.out
            unfold fstB; rw [beq_iff_eq]; exact UInt8.toNat_inj.1 (by omega)
          · exact Hall.out j (by omega)
        go_wp2_with fail
        refine (first_x a k _ (by omega) Hm.out _ Hx.out).mono ?_
        rintro e _ ⟨rfl, rfl⟩
        go_wp2_with fail
        refine (first_x b k _ (by omega) Hm2.out _ Hy.out).mono ?_
        rintro e _ ⟨rfl, rfl⟩
        go_wp2_with fail
        go_round
        case rel => exact ⟨k + 1, by omega, by go_num, Hall2.out⟩
        case measure => simp [intOf]; omega
      · have R := Lib.hid (cnt_eq (p := fstB (bl a) (bl b)) (m := m) ⟨hk, Hall.out, fun _ => by
          unfold fstB; rw [beq_eq_false_iff_ne]; intro e; apply he; rw [← Hx.out, ← Hy.out, e]⟩)
        have hne : (x == y) = false := by rw [beq_eq_false_iff_ne]; exact he
        clear he
        go_wp2_with fail
        refine (first_x a k _ (by omega) Hm.out _ Hx.out).mono ?_
        rintro e _ ⟨rfl, rfl⟩
        go_wp2_with fail
        refine (first_x b k _ (by omega) Hm2.out _ Hy.out).mono ?_
        rintro e _ ⟨rfl, rfl⟩
        go_wp2_with fail
        go_ret
        exact ⟨ret_int (by rw [R.out]), rfl⟩
    · obtain rfl : k = m := by omega
      have R := Lib.hid (cnt_eq (p := fstB (bl a) (bl b)) (m := k) ⟨hk, Hall.out, fun c => absurd c (Nat.lt_irrefl _)⟩)
      go_wp2_with fail
      go_ret
      exact ⟨ret_int (by rw [R.out]), rfl⟩

theorem last_x (a : ByteArray) (k : Nat) (w : World) (hk : k < a.size) (hm : a.size ≤ maxLen) (x : Int) (hx : ((((bl a).getD (a.size - 1 - k) 0).toNat : Nat) : Int) = x) : Calls Try.prog 22 #[.string a, .int .i64 k] w fun e w' => e = .returned (.int .u8 x) ∧ w = w' := by
  subst hx
  exact last_any a k w hk hm
set_option maxHeartbeats 1000000 in
theorem alike_last (a b : ByteArray) (m : Nat) (w : World) (ha : m ≤ a.size) (hb : m ≤ b.size) (hm : a.size ≤ maxLen) (hm2 : b.size ≤ maxLen) :
    Calls Try.prog 20 #[.string a, .string b, .int .i64 m, .func (.func 22) #[] #[]] w fun e w' => e = .returned (.int .i64 (cnt (lstB (bl a) (bl b)) m)) ∧ w = w' := by
  have Hm := Lib.hid hm
  have Hm2 := Lib.hid hm2
  unfold maxLen at hm hm2
  go_enter Try.func20, Try.ntmps20
  go_wp2
  go_loop [9] (fun i => ∃ k : Nat, k ≤ m ∧ i = .int .i64 k ∧ (∀ j, j < k → lstB (bl a) (bl b) j = true)) (fun i => m - (intOf i).toNat)
  case atStart => exact ⟨0, by omega, rfl, fun j hj => by omega⟩
  case round =>
    obtain ⟨k, hk, rfl, hall⟩ := hrel
    have Hall := Lib.hid hall
    clear hall
    by_cases h1 : k < m
    · obtain ⟨x, hx⟩ : ∃ x : Int, ((((bl a).getD (a.size - 1 - k) 0).toNat : Nat) : Int) = x := ⟨_, rfl⟩
      have Hx := Lib.hid hx
      clear hx
      obtain ⟨y, hy⟩ : ∃ y : Int, ((((bl b).getD (b.size - 1 - k) 0).toNat : Nat) : Int) = y := ⟨_, rfl⟩
      have Hy := Lib.hid hy
      clear hy
      by_cases he : x = y
      · obtain rfl := he
        have Hall2 : Hid (∀ j, j < k + 1 → lstB (bl a) (bl b) j = true) := fun j hj => by
          by_cases e : j = k
          · subst e
            have h1 := Hx.out; have h2 := Hy.out
            unfold lstB; rw [beq_iff_eq]; rw [bl_len, bl_len]; exact UInt8.toNat_inj.1 (by omega)
          · exact Hall.out j (by omega)
        go_wp2_with fail
        refine (last_x a k _ (by omega) Hm.out _ Hx.out).mono ?_
        rintro e _ ⟨rfl, rfl⟩
        go_wp2_with fail
        refine (last_x b k _ (by omega) Hm2.out _ Hy.out).mono ?_
        rintro e _ ⟨rfl, rfl⟩
        go_wp2_with fail
        go_round
        case rel => exact ⟨k + 1, by omega, by go_num, Hall2.out⟩
        case measure => simp [intOf]; omega
      · have R := Lib.hid (cnt_eq (p := lstB (bl a) (bl b)) (m := m) ⟨hk, Hall.out, fun _ => by
          unfold lstB; rw [beq_eq_false_iff_ne]; rw [bl_len, bl_len]; intro e; apply he; rw [← Hx.out, ← Hy.out, e]⟩)
        have hne : (x == y) = false := by rw [beq_eq_false_iff_ne]; exact he
        clear he
        go_wp2_with fail
        refine (last_x a k _ (by omega) Hm.out _ Hx.out).mono ?_
        rintro e _ ⟨rfl, rfl⟩
        go_wp2_with fail
        refine (last_x b k _ (by omega) Hm2.out _ Hy.out).mono ?_
        rintro e _ ⟨rfl, rfl⟩
        go_wp2_with fail
        go_ret
        exact ⟨ret_int (by rw [R.out]), rfl⟩
    · obtain rfl : k = m := by omega
      have R := Lib.hid (cnt_eq (p := lstB (bl a) (bl b)) (m := k) ⟨hk, Hall.out, fun c => absurd c (Nat.lt_irrefl _)⟩)
      go_wp2_with fail
      go_ret
      exact ⟨ret_int (by rw [R.out]), rfl⟩
end Go.Proofs.Ythghaagmpneemaa
