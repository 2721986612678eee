/- A slot begins by a text, with 00s behind. -/
import Derived.Test.YtbnbhhmgfogjeaaGR
namespace Go.Proofs.Ytbnbhhmgfogjeaa
open Go.ChangeShapes Go.WideShapes Go.ChangeAt Go.RowKit Go.Maps
set_option linter.unusedVariables false
set_option linter.unusedSimpArgs false

/-- a text, with 00s behind -/
def padT (s : Nat) (T : ByteArray) : ByteArray := T ++ strOfNums (List.replicate (s - T.size) 0)
theorem padT_size {s : Nat} {T : ByteArray} (h : T.size ≤ s) : (padT s T).size = s := by
  unfold padT
  rw [ByteArray.size_append, strOfNums_size, List.length_replicate]
  omega
theorem padT_front (s : Nat) (T : ByteArray) : (padT s T).extract 0 T.size = T := by
  unfold padT
  apply ByteArray.ext
  rw [ByteArray.data_extract, ByteArray.data_append, ← ByteArray.size_data, Array.extract_append_left]
  simp
theorem padT_at {s : Nat} {T : ByteArray} (h : T.size ≤ s) {i : Nat} (h1 : T.size ≤ i) (h2 : i < s) : (padT s T)[i]? = some 0 := by
  have hl : i < (padT s T).size := by rw [padT_size h]; exact h2
  unfold padT at hl ⊢
  rw [getElem?_pos _ i hl]
  rw [ByteArray.getElem_append_right h1]
  congr 1
  show (strOfNums (List.replicate (s - T.size) 0)).data[i - T.size]'_ = 0
  unfold strOfNums
  simp
set_option maxRecDepth 100000 in
set_option maxHeartbeats 4000000 in
theorem reads_yes (B a s : Nat) (st : AS) (S : Nat → Prop) (w : World) (h : AR w B a s st S) (x : Int) (TX : ByteArray) (h0 : 0 ≤ x) (h1 : x ≤ 18446744073709551615) (hi : isA st x = true) (hr : rdA s x st = padT s TX) (hT : TX.size ≤ s) (h4 : s ≤ 4096) : Calls Try.prog 21 #[.pointer (some ⟨a, 0, none⟩), .int .u64 x, .string TX] w fun e w' => e = .returned (.bool true) ∧ Below w.heap.size w w' := by
  have HR := Lib.hid (arread_any B a s st S w h x h0 h1)
  have hre : rdAE x st = 0 := by unfold rdAE; rw [if_pos hi]
  rw [hr, hre] at HR
  have HA := Lib.hid h
  have hz := padT_size hT
  have hfr := padT_front s TX
  have HAT := Lib.hid (fun i => padT_at (T := TX) (s := s) (i := i) hT)
  obtain ⟨P, hP⟩ : ∃ P, padT s TX = P := ⟨_, rfl⟩
  rw [hP] at HR hz hfr HAT
  have HSL : Hid (∀ W, (Instr.slice 9 (.string P) none (some (.int .i64 (TX.size : Int))) none).run Try.prog W = .ok (.string TX) W) := fun W => by
    have q1 : (0 : Int) ≤ (TX.size : Int) ∧ (TX.size : Int) ≤ (P.size : Int) := by omega
    go_simp
    try rw [hfr]
  have HIX : Hid (∀ i : Nat, TX.size ≤ i → i < s → ∀ W, (Instr.index 9 (.string P) (.int .i64 (i : Int))).run Try.prog W = .ok (.int .u8 0) W) := fun i q1 q2 W => by
    have q3 := HAT.out i q1 q2
    have q4 : i < P.size := by omega
    have q5 : P[i]'q4 = 0 := Option.some.inj (by rw [← q3, getElem?_pos P i q4])
    go_simp
  have HZ : Hid (P.size = s) := hz
  have d1 : ((s : Int) != (s : Int)) = false := by simp
  have d2 : decide ((s : Int) < (TX.size : Int)) = false := decide_eq_false (by omega)
  have d2' : decide (s < TX.size) = false := decide_eq_false (by omega)
  clear hr hre hP hi h hz hfr HAT
  go_enter Try.func21, Try.ntmps21
  go_wp2_with fail
  refine HR.out.mono ?_
  rintro e w1 ⟨rfl, hb⟩
  have HA1 := Lib.hid (HA.out.later hb)
  have HB1 := Lib.hid hb
  have hz := HZ.out
  have hsl := HSL.out
  clear hb HR
  go_wp2_with fail
  refine (arslot_any B a s st S w1 HA1.out).mono ?_
  rintro e w2 ⟨rfl, rfl⟩
  go_wp2
  clear hz hsl
  go_loop [9] (fun i => ∃ k : Nat, TX.size ≤ k ∧ k ≤ s ∧ i = .int .i64 k) (fun i => s - (intOf i).toNat)
  case atStart => exact ⟨TX.size, Nat.le_refl _, hT, rfl⟩
  case round =>
    obtain ⟨k, hk1, hk2, rfl⟩ := hrel
    have hz := HZ.out
    by_cases hlt : k < s
    · have d3 : decide ((k : Int) < (s : Int)) = true := decide_eq_true (by omega)
      have wk : IntKind.i64.wrap ((k : Int) + 1) = (k : Int) + 1 := IntWalk.i64_in _ (by omega)
      have hix := HIX.out k hk1 hlt
      go_wp2
      go_round
      case rel => exact ⟨k + 1, by omega, by omega, by go_num⟩
      case measure => simp [intOf]; omega
    · obtain rfl : k = s := by omega
      have d3 : decide ((k : Int) < (k : Int)) = false := decide_eq_false (by omega)
      go_wp2
      go_ret
      exact ⟨rfl, HB1.out⟩
end Go.Proofs.Ytbnbhhmgfogjeaa
