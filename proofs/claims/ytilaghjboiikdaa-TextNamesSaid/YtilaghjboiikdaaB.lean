/- What two texts have in common, how they stand by the document's words, and whether one is within two others. -/
import Derived.Test.YtilaghjboiikdaaA
import Derived.Test.YtilaghjboiikdaaL1
import Derived.IntWalk
namespace Go.Proofs.Ytilaghjboiikdaa
open Go.ChangeShapes Go.WideShapes Go.ChangeAt Go.RowKit

/-- a text's bytes -/
def bl (a : ByteArray) : List UInt8 := a.data.toList
theorem bl_len (a : ByteArray) : (bl a).length = a.size := by simp [bl]
theorem bl_at (a : ByteArray) (k : Nat) (h : k < a.size) : a[k] = (bl a).getD k 0 := by
  rw [List.getD_eq_getElem?_getD, List.getElem?_eq_getElem (by rw [bl_len]; exact h)]; rfl
theorem ret_int {k : IntKind} {a b : Int} (h : a = b) : Ending.returned (.int k a) = .returned (.int k b) := by rw [h]
theorem index_nat (a : ByteArray) (j : Nat) (W : World) (h : j < a.size) : (Instr.index 9 (.string a) (.int .i64 (j : Int))).run Try.prog W = .ok (.int .u8 (a[j].toNat : Int)) W := by
  rw [run_index_string W 9 a .i64 _ Try.underlying9]
  simp [h]
theorem index_at (a : ByteArray) (k : Nat) (W : World) (h : k < a.size) : (Instr.index 9 (.string a) (.int .i64 ((a.size : Int) - 1 - (k : Int)))).run Try.prog W = .ok (.int .u8 (a[a.size - 1 - k].toNat : Int)) W := by
  rw [show (a.size : Int) - 1 - (k : Int) = ((a.size - 1 - k : Nat) : Int) from by omega]
  exact index_nat a _ W (by omega)
theorem drew2 (w : World) (a b : Nat) : ∃ d, (w.drewN a).drewN b = w.drewN d := ⟨a + b, by simp⟩
theorem drew3 (w : World) (a b c : Nat) : ∃ d, ((w.drewN a).drewN b).drewN c = w.drewN d := ⟨a + b + c, by simp⟩
theorem u8_int_ne {x y : UInt8} (h : x ≠ y) : ((x.toNat : Int) == (y.toNat : Int)) = false := by
  rw [beq_eq_false_iff_ne]; intro e; exact h (UInt8.toNat_inj.1 (by omega))

set_option maxHeartbeats 1000000 in
theorem prefix_any (a b : ByteArray) (w : World) (ha : a.size ≤ maxLen) (hb : b.size ≤ maxLen) : Calls Try.prog 19 #[.string a, .string b] w fun e w' => e = .returned (.int .i64 (lcp (bl a) (bl b))) ∧ ∃ d, w' = w.drewN d := by
  unfold maxLen at ha hb
  go_enter Try.func19, Try.ntmps19
  go_wp2
  go_loopw [5] (fun i wr => ∃ k : Nat, k ≤ a.size ∧ k ≤ b.size ∧ i = .int .i64 k ∧ (∀ j, j < k → (bl a).getD j 0 = (bl b).getD j 0) ∧ ∃ d, wr = w.drewN d) (fun i _ => a.size - (intOf i).toNat)
  case atStart => exact ⟨0, by omega, by omega, rfl, fun j hj => by omega, 0, rfl⟩
  case round =>
    obtain ⟨k, hk, hk', rfl, hall, d, rfl⟩ := hrel
    have Hall := Lib.hid hall
    clear hall
    by_cases h1 : k < a.size
    · by_cases h2 : k < b.size
      · have A := Lib.hid (bl_at a k h1)
        have B := Lib.hid (bl_at b k h2)
        by_cases he : a[k] = b[k]
        · have Hall2 : Hid (∀ j, j < k + 1 → (bl a).getD j 0 = (bl b).getD j 0) := fun j hj => by
            by_cases e : j = k
            · subst e; rw [← A.out, ← B.out, he]
            · exact Hall.out j (by omega)
          go_wp2
          go_quiet (fail)
          go_wp2
          go_roundw
          case rel => exact ⟨k + 1, by omega, by omega, by go_num, Hall2.out, d + nq, by first | rfl | simp⟩
          case measure => simp [intOf]; omega
        · have R := Lib.hid (lcp_of (bl a) (bl b) k (by rw [bl_len]; omega) (by rw [bl_len]; omega) Hall.out (.inr (.inr (by rw [← A.out, ← B.out]; exact he))))
          have hf := u8_int_ne he
          clear he
          go_wp2
          go_quiet (fail)
          go_wp2
          go_ret
          exact ⟨ret_int (by rw [R.out]), d + nq, by first | rfl | simp⟩
      · have R := Lib.hid (lcp_of (bl a) (bl b) k (by rw [bl_len]; omega) (by rw [bl_len]; omega) Hall.out (.inr (.inl (by rw [bl_len]; omega))))
        have hd : decide (k < b.size) = false := decide_eq_false h2
        have hd1 : decide (k < a.size) = true := decide_eq_true h1
        clear h2
        go_wp2
        go_quiet (fail)
        go_wp2
        go_ret
        exact ⟨ret_int (by rw [R.out]), d + nq, by first | rfl | simp⟩
    · have R := Lib.hid (lcp_of (bl a) (bl b) k (by rw [bl_len]; omega) (by rw [bl_len]; omega) Hall.out (.inl (by rw [bl_len]; omega)))
      have hd : decide (k < a.size) = false := decide_eq_false h1
      clear h1
      go_wp2
      go_quiet (fail)
      go_wp2
      go_ret
      exact ⟨ret_int (by rw [R.out]), d + nq, by first | rfl | simp⟩

set_option maxHeartbeats 1000000 in
theorem rprefix_any (a b : ByteArray) (w : World) (ha : a.size ≤ maxLen) (hb : b.size ≤ maxLen) : Calls Try.prog 24 #[.string a, .string b] w fun e w' => e = .returned (.int .i64 (lcp (bl a) (bl b))) ∧ ∃ d, w' = w.drewN d := by
  unfold maxLen at ha hb
  go_enter Try.func24, Try.ntmps24
  go_wp2
  go_loopw [5] (fun i wr => ∃ k : Nat, k ≤ a.size ∧ k ≤ b.size ∧ i = .int .i64 k ∧ (∀ j, j < k → (bl a).getD j 0 = (bl b).getD j 0) ∧ ∃ d, wr = w.drewN d) (fun i _ => a.size - (intOf i).toNat)
  case atStart => exact ⟨0, by omega, by omega, rfl, fun j hj => by omega, 0, rfl⟩
  case round =>
    obtain ⟨k, hk, hk', rfl, hall, d, rfl⟩ := hrel
    have Hall := Lib.hid hall
    clear hall
    by_cases h1 : k < a.size
    · by_cases h2 : k < b.size
      · have A := Lib.hid (bl_at a k h1)
        have B := Lib.hid (bl_at b k h2)
        by_cases he : a[k] = b[k]
        · have Hall2 : Hid (∀ j, j < k + 1 → (bl a).getD j 0 = (bl b).getD j 0) := fun j hj => by
            by_cases e : j = k
            · subst e; rw [← A.out, ← B.out, he]
            · exact Hall.out j (by omega)
          go_wp2
          go_quiet (fail)
          go_wp2
          go_roundw
          case rel => exact ⟨k + 1, by omega, by omega, by go_num, Hall2.out, d + nq, by first | rfl | simp⟩
          case measure => simp [intOf]; omega
        · have R := Lib.hid (lcp_of (bl a) (bl b) k (by rw [bl_len]; omega) (by rw [bl_len]; omega) Hall.out (.inr (.inr (by rw [← A.out, ← B.out]; exact he))))
          have hf := u8_int_ne he
          clear he
          go_wp2
          go_quiet (fail)
          go_wp2
          go_ret
          exact ⟨ret_int (by rw [R.out]), d + nq, by first | rfl | simp⟩
      · have R := Lib.hid (lcp_of (bl a) (bl b) k (by rw [bl_len]; omega) (by rw [bl_len]; omega) Hall.out (.inr (.inl (by rw [bl_len]; omega))))
        have hd : decide (k < b.size) = false := decide_eq_false h2
        have hd1 : decide (k < a.size) = true := decide_eq_true h1
        clear h2
        go_wp2
        go_quiet (fail)
        go_wp2
        go_ret
        exact ⟨ret_int (by rw [R.out]), d + nq, by first | rfl | simp⟩
    · have R := Lib.hid (lcp_of (bl a) (bl b) k (by rw [bl_len]; omega) (by rw [bl_len]; omega) Hall.out (.inl (by rw [bl_len]; omega)))
      have hd : decide (k < a.size) = false := decide_eq_false h1
      clear h1
      go_wp2
      go_quiet (fail)
      go_wp2
      go_ret
      exact ⟨ret_int (by rw [R.out]), d + nq, by first | rfl | simp⟩

set_option maxHeartbeats 1000000 in
theorem suffix_any (a b : ByteArray) (m : Int) (w : World) (ha : a.size ≤ maxLen) (hb : b.size ≤ maxLen) : Calls Try.prog 18 #[.string a, .string b, .int .i64 m] w fun e w' => e = .returned (.int .i64 (lcs (bl a) (bl b) m)) ∧ ∃ d, w' = w.drewN d := by
  unfold maxLen at ha hb
  go_enter Try.func18, Try.ntmps18
  go_wp2
  go_loopw [7] (fun i wr => ∃ k : Nat, k ≤ a.size ∧ k ≤ b.size ∧ (k = 0 ∨ (k : Int) ≤ m) ∧ i = .int .i64 k ∧ (∀ j, j < k → (bl a).getD ((bl a).length - 1 - j) 0 = (bl b).getD ((bl b).length - 1 - j) 0) ∧ ∃ d, wr = w.drewN d) (fun i _ => a.size - (intOf i).toNat)
  case atStart => exact ⟨0, by omega, by omega, .inl rfl, rfl, fun j hj => by omega, 0, rfl⟩
  case round =>
    obtain ⟨k, hk, hk', hkm, rfl, hall, d, rfl⟩ := hrel
    have Hall := Lib.hid hall
    clear hall
    by_cases hm : (k : Int) < m
    · by_cases h1 : k < a.size
      · by_cases h2 : k < b.size
        · have A := Lib.hid (bl_at a (a.size - 1 - k) (by omega))
          have B := Lib.hid (bl_at b (b.size - 1 - k) (by omega))
          have p1 : a.size - 1 - k < a.size := by omega
          have p2 : b.size - 1 - k < b.size := by omega
          clear hkm
          by_cases he : a[a.size - 1 - k] = b[b.size - 1 - k]
          · have Hall2 : Hid (∀ j, j < k + 1 → (bl a).getD ((bl a).length - 1 - j) 0 = (bl b).getD ((bl b).length - 1 - j) 0) := fun j hj => by
              by_cases e : j = k
              · subst e; rw [bl_len, bl_len, ← A.out, ← B.out, he]
              · exact Hall.out j (by omega)
            have s1 : IntKind.i64.wrap ((a.size : Int) - 1) = (a.size : Int) - 1 := IntWalk.i64_in _ (by omega)
            have s2 : IntKind.i64.wrap ((a.size : Int) - 1 - (k : Int)) = (a.size : Int) - 1 - (k : Int) := IntWalk.i64_in _ (by omega)
            have s3 : ∀ W : World, (Instr.index 9 (.string a) (.int .i64 ((a.size : Int) - 1 - (k : Int)))).run Try.prog W = .ok (.int .u8 (a[a.size - 1 - k].toNat : Int)) W := fun W => index_at a k W (by omega)
            have t1 : IntKind.i64.wrap ((b.size : Int) - 1) = (b.size : Int) - 1 := IntWalk.i64_in _ (by omega)
            have t2 : IntKind.i64.wrap ((b.size : Int) - 1 - (k : Int)) = (b.size : Int) - 1 - (k : Int) := IntWalk.i64_in _ (by omega)
            have t3 : ∀ W : World, (Instr.index 9 (.string b) (.int .i64 ((b.size : Int) - 1 - (k : Int)))).run Try.prog W = .ok (.int .u8 (b[b.size - 1 - k].toNat : Int)) W := fun W => index_at b k W (by omega)
            go_wp2
            go_quiet (fail)
            clear s1 s2 s3 t1 t2 t3
            go_wp2
            go_roundw
            case rel => exact ⟨k + 1, by omega, by omega, .inr (by omega), by go_num, Hall2.out, d + nq, by first | rfl | simp⟩
            case measure => simp [intOf]; omega
          · have R := Lib.hid (lcs_of (bl a) (bl b) m k (by rw [bl_len]; omega) (by rw [bl_len]; omega) (.inr (by omega)) Hall.out (.inr (.inr (.inr (by rw [bl_len, bl_len, ← A.out, ← B.out]; exact he)))))
            have hf := u8_int_ne he
            clear he
            have s1 : IntKind.i64.wrap ((a.size : Int) - 1) = (a.size : Int) - 1 := IntWalk.i64_in _ (by omega)
            have s2 : IntKind.i64.wrap ((a.size : Int) - 1 - (k : Int)) = (a.size : Int) - 1 - (k : Int) := IntWalk.i64_in _ (by omega)
            have s3 : ∀ W : World, (Instr.index 9 (.string a) (.int .i64 ((a.size : Int) - 1 - (k : Int)))).run Try.prog W = .ok (.int .u8 (a[a.size - 1 - k].toNat : Int)) W := fun W => index_at a k W (by omega)
            have t1 : IntKind.i64.wrap ((b.size : Int) - 1) = (b.size : Int) - 1 := IntWalk.i64_in _ (by omega)
            have t2 : IntKind.i64.wrap ((b.size : Int) - 1 - (k : Int)) = (b.size : Int) - 1 - (k : Int) := IntWalk.i64_in _ (by omega)
            have t3 : ∀ W : World, (Instr.index 9 (.string b) (.int .i64 ((b.size : Int) - 1 - (k : Int)))).run Try.prog W = .ok (.int .u8 (b[b.size - 1 - k].toNat : Int)) W := fun W => index_at b k W (by omega)
            go_wp2
            go_quiet (fail)
            clear s1 s2 s3 t1 t2 t3
            go_wp2
            go_ret
            exact ⟨ret_int (by rw [R.out]), d + nq, by first | rfl | simp⟩
        · have R := Lib.hid (lcs_of (bl a) (bl b) m k (by rw [bl_len]; omega) (by rw [bl_len]; omega) hkm Hall.out (.inr (.inr (.inl (by rw [bl_len]; omega)))))
          have hd : decide (k < b.size) = false := decide_eq_false h2
          have hd1 : decide (k < a.size) = true := decide_eq_true h1
          clear h2 hkm
          go_wp2
          go_quiet (fail)
          go_wp2
          go_ret
          exact ⟨ret_int (by rw [R.out]), d + nq, by first | rfl | simp⟩
      · have R := Lib.hid (lcs_of (bl a) (bl b) m k (by rw [bl_len]; omega) (by rw [bl_len]; omega) hkm Hall.out (.inr (.inl (by rw [bl_len]; omega))))
        have hd : decide (k < a.size) = false := decide_eq_false h1
        clear h1 hkm
        go_wp2
        go_quiet (fail)
        go_wp2
        go_ret
        exact ⟨ret_int (by rw [R.out]), d + nq, by first | rfl | simp⟩
    · have R := Lib.hid (lcs_of (bl a) (bl b) m k (by rw [bl_len]; omega) (by rw [bl_len]; omega) hkm Hall.out (.inl (by omega)))
      have hd : decide ((k : Int) < m) = false := decide_eq_false hm
      clear hm hkm
      go_wp2
      go_quiet (fail)
      go_wp2
      go_ret
      exact ⟨ret_int (by rw [R.out]), d + nq, by first | rfl | simp⟩

set_option maxHeartbeats 1000000 in
theorem rsuffix_any (a b : ByteArray) (m : Int) (w : World) (ha : a.size ≤ maxLen) (hb : b.size ≤ maxLen) : Calls Try.prog 25 #[.string a, .string b, .int .i64 m] w fun e w' => e = .returned (.int .i64 (lcs (bl a) (bl b) m)) ∧ ∃ d, w' = w.drewN d := by
  unfold maxLen at ha hb
  go_enter Try.func25, Try.ntmps25
  go_wp2
  go_loopw [7] (fun i wr => ∃ k : Nat, k ≤ a.size ∧ k ≤ b.size ∧ (k = 0 ∨ (k : Int) ≤ m) ∧ i = .int .i64 k ∧ (∀ j, j < k → (bl a).getD ((bl a).length - 1 - j) 0 = (bl b).getD ((bl b).length - 1 - j) 0) ∧ ∃ d, wr = w.drewN d) (fun i _ => a.size - (intOf i).toNat)
  case atStart => exact ⟨0, by omega, by omega, .inl rfl, rfl, fun j hj => by omega, 0, rfl⟩
  case round =>
    obtain ⟨k, hk, hk', hkm, rfl, hall, d, rfl⟩ := hrel
    have Hall := Lib.hid hall
    clear hall
    by_cases hm : (k : Int) < m
    · by_cases h1 : k < a.size
      · by_cases h2 : k < b.size
        · have A := Lib.hid (bl_at a (a.size - 1 - k) (by omega))
          have B := Lib.hid (bl_at b (b.size - 1 - k) (by omega))
          have p1 : a.size - 1 - k < a.size := by omega
          have p2 : b.size - 1 - k < b.size := by omega
          clear hkm
          by_cases he : a[a.size - 1 - k] = b[b.size - 1 - k]
          · have Hall2 : Hid (∀ j, j < k + 1 → (bl a).getD ((bl a).length - 1 - j) 0 = (bl b).getD ((bl b).length - 1 - j) 0) := fun j hj => by
              by_cases e : j = k
              · subst e; rw [bl_len, bl_len, ← A.out, ← B.out, he]
              · exact Hall.out j (by omega)
            have s1 : IntKind.i64.wrap ((a.size : Int) - 1) = (a.size : Int) - 1 := IntWalk.i64_in _ (by omega)
            have s2 : IntKind.i64.wrap ((a.size : Int) - 1 - (k : Int)) = (a.size : Int) - 1 - (k : Int) := IntWalk.i64_in _ (by omega)
            have s3 : ∀ W : World, (Instr.index 9 (.string a) (.int .i64 ((a.size : Int) - 1 - (k : Int)))).run Try.prog W = .ok (.int .u8 (a[a.size - 1 - k].toNat : Int)) W := fun W => index_at a k W (by omega)
            have t1 : IntKind.i64.wrap ((b.size : Int) - 1) = (b.size : Int) - 1 := IntWalk.i64_in _ (by omega)
            have t2 : IntKind.i64.wrap ((b.size : Int) - 1 - (k : Int)) = (b.size : Int) - 1 - (k : Int) := IntWalk.i64_in _ (by omega)
            have t3 : ∀ W : World, (Instr.index 9 (.string b) (.int .i64 ((b.size : Int) - 1 - (k : Int)))).run Try.prog W = .ok (.int .u8 (b[b.size - 1 - k].toNat : Int)) W := fun W => index_at b k W (by omega)
            go_wp2
            go_quiet (fail)
            clear s1 s2 s3 t1 t2 t3
            go_wp2
            go_roundw
            case rel => exact ⟨k + 1, by omega, by omega, .inr (by omega), by go_num, Hall2.out, d + nq, by first | rfl | simp⟩
            case measure => simp [intOf]; omega
          · have R := Lib.hid (lcs_of (bl a) (bl b) m k (by rw [bl_len]; omega) (by rw [bl_len]; omega) (.inr (by omega)) Hall.out (.inr (.inr (.inr (by rw [bl_len, bl_len, ← A.out, ← B.out]; exact he)))))
            have hf := u8_int_ne he
            clear he
            have s1 : IntKind.i64.wrap ((a.size : Int) - 1) = (a.size : Int) - 1 := IntWalk.i64_in _ (by omega)
            have s2 : IntKind.i64.wrap ((a.size : Int) - 1 - (k : Int)) = (a.size : Int) - 1 - (k : Int) := IntWalk.i64_in _ (by omega)
            have s3 : ∀ W : World, (Instr.index 9 (.string a) (.int .i64 ((a.size : Int) - 1 - (k : Int)))).run Try.prog W = .ok (.int .u8 (a[a.size - 1 - k].toNat : Int)) W := fun W => index_at a k W (by omega)
            have t1 : IntKind.i64.wrap ((b.size : Int) - 1) = (b.size : Int) - 1 := IntWalk.i64_in _ (by omega)
            have t2 : IntKind.i64.wrap ((b.size : Int) - 1 - (k : Int)) = (b.size : Int) - 1 - (k : Int) := IntWalk.i64_in _ (by omega)
            have t3 : ∀ W : World, (Instr.index 9 (.string b) (.int .i64 ((b.size : Int) - 1 - (k : Int)))).run Try.prog W = .ok (.int .u8 (b[b.size - 1 - k].toNat : Int)) W := fun W => index_at b k W (by omega)
            go_wp2
            go_quiet (fail)
            clear s1 s2 s3 t1 t2 t3
            go_wp2
            go_ret
            exact ⟨ret_int (by rw [R.out]), d + nq, by first | rfl | simp⟩
        · have R := Lib.hid (lcs_of (bl a) (bl b) m k (by rw [bl_len]; omega) (by rw [bl_len]; omega) hkm Hall.out (.inr (.inr (.inl (by rw [bl_len]; omega)))))
          have hd : decide (k < b.size) = false := decide_eq_false h2
          have hd1 : decide (k < a.size) = true := decide_eq_true h1
          clear h2 hkm
          go_wp2
          go_quiet (fail)
          go_wp2
          go_ret
          exact ⟨ret_int (by rw [R.out]), d + nq, by first | rfl | simp⟩
      · have R := Lib.hid (lcs_of (bl a) (bl b) m k (by rw [bl_len]; omega) (by rw [bl_len]; omega) hkm Hall.out (.inr (.inl (by rw [bl_len]; omega))))
        have hd : decide (k < a.size) = false := decide_eq_false h1
        clear h1 hkm
        go_wp2
        go_quiet (fail)
        go_wp2
        go_ret
        exact ⟨ret_int (by rw [R.out]), d + nq, by first | rfl | simp⟩
    · have R := Lib.hid (lcs_of (bl a) (bl b) m k (by rw [bl_len]; omega) (by rw [bl_len]; omega) hkm Hall.out (.inl (by omega)))
      have hd : decide ((k : Int) < m) = false := decide_eq_false hm
      clear hm hkm
      go_wp2
      go_quiet (fail)
      go_wp2
      go_ret
      exact ⟨ret_int (by rw [R.out]), d + nq, by first | rfl | simp⟩

theorem u8_lt_int (x y : UInt8) : (x < y) ↔ ((x.toNat : Int) < (y.toNat : Int)) := by rw [UInt8.lt_iff_toNat_lt]; omega
set_option maxHeartbeats 1000000 in
theorem rcmp_any (a b : ByteArray) (w : World) (ha : a.size ≤ maxLen) (hb : b.size ≤ maxLen) : Calls Try.prog 23 #[.string a, .string b] w fun e w' => e = .returned (.int .i64 (Lib.compareBytes (bl a) (bl b))) ∧ ∃ d, w' = w.drewN d := by
  unfold maxLen at ha hb
  go_enter Try.func23, Try.ntmps23
  go_wp2
  go_loopw [5] (fun i wr => ∃ k : Nat, k ≤ a.size ∧ k ≤ b.size ∧ i = .int .i64 k ∧ (∀ j, j < k → (bl a).getD j 0 = (bl b).getD j 0) ∧ ∃ d, wr = w.drewN d) (fun i _ => a.size - (intOf i).toNat)
  case atStart => exact ⟨0, by omega, by omega, rfl, fun j hj => by omega, 0, rfl⟩
  case round =>
    obtain ⟨k, hk, hk', rfl, hall, d, rfl⟩ := hrel
    have Hall := Lib.hid hall
    clear hall
    by_cases h12 : k < a.size ∧ k < b.size
    · obtain ⟨h1, h2⟩ := h12
      have A := Lib.hid (bl_at a k h1)
      have B := Lib.hid (bl_at b k h2)
      have q1 : (k : Int) < (a.size : Int) := by omega
      have q2 : (k : Int) < (b.size : Int) := by omega
      by_cases hlt : (a[k].toNat : Int) < (b[k].toNat : Int)
      · have hlt' : (bl a).getD k 0 < (bl b).getD k 0 := by rw [← A.out, ← B.out]; exact (u8_lt_int _ _).2 hlt
        have R : Hid (Lib.compareBytes (bl a) (bl b) = -1) := (compare_at (bl a) (bl b) k Hall.out (by rw [bl_len]; omega) (by rw [bl_len]; omega) (by intro e; rw [e] at hlt'; exact UInt8.lt_irrefl _ hlt')).trans (if_pos hlt')
        clear hlt'
        go_wp2
        go_quiet (fail)
        go_wp2
        go_ret
        exact ⟨ret_int (by rw [R.out]), d + nq, by first | rfl | simp⟩
      · by_cases hgt : (b[k].toNat : Int) < (a[k].toNat : Int)
        · have hgt' : ¬ (bl a).getD k 0 < (bl b).getD k 0 := by rw [← A.out, ← B.out]; intro h; exact hlt ((u8_lt_int _ _).1 h)
          have R : Hid (Lib.compareBytes (bl a) (bl b) = 1) := (compare_at (bl a) (bl b) k Hall.out (by rw [bl_len]; omega) (by rw [bl_len]; omega) (by rw [← A.out, ← B.out]; intro e; rw [e] at hgt; omega)).trans (if_neg hgt')
          clear hgt'
          go_wp2
          go_quiet (fail)
          go_wp2
          go_quiet (fail)
          go_wp2
          go_ret
          exact ⟨ret_int (by rw [R.out]), by first | exact drew3 _ _ _ _ | exact drew2 _ _ _ | exact ⟨_, rfl⟩⟩
        · have Hall2 : Hid (∀ j, j < k + 1 → (bl a).getD j 0 = (bl b).getD j 0) := fun j hj => by
            by_cases e : j = k
            · subst e; rw [← A.out, ← B.out]; exact UInt8.toNat_inj.1 (by omega)
            · exact Hall.out j (by omega)
          go_wp2
          go_quiet (fail)
          go_wp2
          go_quiet (fail)
          go_wp2
          go_roundw
          case rel => exact ⟨k + 1, by omega, by omega, by go_num, Hall2.out, by first | exact drew3 _ _ _ _ | exact drew2 _ _ _ | exact ⟨_, rfl⟩⟩
          case measure => simp [intOf]; omega
    · have R := Lib.hid (compare_end (bl a) (bl b) k Hall.out (by rw [bl_len, bl_len]; omega))
      rw [bl_len, bl_len] at R
      have X : ∀ r : Int, r = (if a.size < b.size then -1 else if b.size < a.size then 1 else 0) → Ending.returned (.int .i64 r) = .returned (.int .i64 (Lib.compareBytes (bl a) (bl b))) := fun r h => by rw [R.out, h]
      have HX := Lib.hid X
      clear X
      by_cases s1 : a.size < b.size
      · have q1 : (a.size : Int) ≤ (k : Int) := by omega
        clear h12
        go_wp2
        go_ret
        exact ⟨HX.out _ (by rw [if_pos s1]), d, rfl⟩
      · by_cases s2 : b.size < a.size
        · have q1 : (k : Int) < (a.size : Int) := by omega
          have q2 : (b.size : Int) ≤ (k : Int) := by omega
          clear h12
          go_wp2
          go_ret
          exact ⟨HX.out _ (by rw [if_neg s1, if_pos s2]), d, rfl⟩
        · have q1 : (a.size : Int) ≤ (k : Int) := by omega
          clear h12
          go_wp2
          go_ret
          exact ⟨HX.out _ (by rw [if_neg s1, if_neg s2]), d, rfl⟩
end Go.Proofs.Ytilaghjboiikdaa
