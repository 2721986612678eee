/- How texts stand, as the program and the document tell it. -/
import Derived.Test.YtoinjnocopejjaaMA
import Derived.Test.YtoinjnocopejjaaTL2
import Derived.Test.YtoinjnocopejjaaSl
import Derived.WalkKit
import Derived.ProofKit
import Derived.LoopTactic
import Derived.Below
import Derived.BigQuiet
import Derived.Deep.QuietTactic
import Derived.WalkSpells
import Derived.WalkLawsBesides
import Derived.Lib.Hide
import Derived.Lib.Bytealg
import Derived.Lib.Strings
import Derived.Deep.WholeRow
import Derived.Laws.IdiomStrings
import Derived.Deep.RegionWith
import Derived.RegionTactic
import Derived.Deep.DeepMust
import Derived.Outline
namespace Go.Proofs.Ytoinjnocopejjaa
open Go.ChangeShapes Go.WideShapes Go.ChangeAt Go.RowKit
set_option linter.unusedVariables false
set_option maxRecDepth 100000 in
set_option maxHeartbeats 4000000 in
theorem cmp37 (a b : ByteArray) (w : World) : Calls Try.prog 109 #[.string a, .string b] w fun e w' => e = .returned (.int .i64 (Lib.compareBytes a.data.toList b.data.toList)) ∧ w = w' := by
  go_enter Try.func109, Try.ntmps109
  go_wp2
  rw [run_callFunc_extern Try.func126 (by kernel_rfl) (by kernel_rfl) (by kernel_rfl) (e := Extern.BytealgCompare.compare) (by kernel_rfl), Lib.run_compareString]
  simp only [Result.andThen]
  rw [Oper.upon_value]
  go_wp2
  go_ret
  exact ⟨rfl, rfl⟩
set_option maxRecDepth 100000 in
set_option maxHeartbeats 4000000 in
theorem cmp34 (a b : ByteArray) (w : World) : Calls Try.prog 95 #[.string a, .string b] w fun e w' => e = .returned (.int .i64 (Lib.compareBytes a.data.toList b.data.toList)) ∧ w = w' := by
  go_enter Try.func95, Try.ntmps95
  go_wp2_with (go_at_call 109; refine (cmp37 _ _ _).mono ?_; rintro e w' ⟨rfl, rfl⟩)
  go_ret
  exact ⟨rfl, rfl⟩
set_option maxRecDepth 100000 in
set_option maxHeartbeats 4000000 in
theorem cmp (a b : ByteArray) (w : World) : Calls Try.prog 66 #[.string a, .string b] w fun e w' => e = .returned (.int .i64 (Lib.compareBytes a.data.toList b.data.toList)) ∧ w = w' := by
  go_enter Try.func66, Try.ntmps66
  go_wp2_with (go_at_call 95; refine (cmp34 _ _ _).mono ?_; rintro e w' ⟨rfl, rfl⟩)
  go_ret
  exact ⟨rfl, rfl⟩
theorem bl_len (a : ByteArray) : (bl a).length = a.size := by simp [bl]
theorem bl_at (a : ByteArray) (k : Nat) (h : k < a.size) : a[k] = (bl a).getD k 0 := by
  rw [List.getD_eq_getElem?_getD, List.getElem?_eq_getElem (by rw [bl_len]; exact h)]; rfl
theorem index_nat (a : ByteArray) (j : Nat) (W : World) (h : j < a.size) : (Instr.index 9 (.string a) (.int .i64 (j : Int))).run Try.prog W = .ok (.int .u8 (a[j].toNat : Int)) W := by
  rw [run_index_string W 9 a .i64 _ Try.underlying9]
  simp [h]
theorem drew2 (w : World) (a b : Nat) : ∃ d, (w.drewN a).drewN b = w.drewN d := ⟨a + b, by simp⟩
theorem drew3 (w : World) (a b c : Nat) : ∃ d, ((w.drewN a).drewN b).drewN c = w.drewN d := ⟨a + b + c, by simp⟩
theorem u8_int_ne {x y : UInt8} (h : x ≠ y) : ((x.toNat : Int) == (y.toNat : Int)) = false := by
  rw [beq_eq_false_iff_ne]; intro e; exact h (UInt8.toNat_inj.1 (by omega))
theorem u8_lt_int (x y : UInt8) : (x < y) ↔ ((x.toNat : Int) < (y.toNat : Int)) := by rw [UInt8.lt_iff_toNat_lt]; omega
set_option maxHeartbeats 1000000 in
theorem rcmp_any (a b : ByteArray) (w : World) (ha : a.size ≤ maxLen) (hb : b.size ≤ maxLen) : Calls Try.prog 97 #[.string a, .string b] w fun e w' => e = .returned (.int .i64 (Lib.compareBytes (bl a) (bl b))) ∧ ∃ d, w' = w.drewN d := by
  unfold maxLen at ha hb
  go_enter Try.func97, Try.ntmps97
  go_wp2
  go_loopw [5] (fun i wr => ∃ k : Nat, k ≤ a.size ∧ k ≤ b.size ∧ i = .int .i64 k ∧ (∀ j, j < k → (bl a).getD j 0 = (bl b).getD j 0) ∧ ∃ d, wr = w.drewN d) (fun i _ => a.size - (intOf i).toNat)
  case atStart => exact ⟨0, by omega, by omega, rfl, fun j hj => by omega, 0, rfl⟩
  case round =>
    obtain ⟨k, hk, hk', rfl, hall, d, rfl⟩ := hrel
    have Hall := Lib.hid hall
    clear hall
    by_cases h12 : k < a.size ∧ k < b.size
    · obtain ⟨h1, h2⟩ := h12
      have A := Lib.hid (bl_at a k h1)
      have B := Lib.hid (bl_at b k h2)
      have q1 : (k : Int) < (a.size : Int) := by omega
      have q2 : (k : Int) < (b.size : Int) := by omega
      by_cases hlt : (a[k].toNat : Int) < (b[k].toNat : Int)
      · have hlt' : (bl a).getD k 0 < (bl b).getD k 0 := by rw [← A.out, ← B.out]; exact (u8_lt_int _ _).2 hlt
        have R : Hid (Lib.compareBytes (bl a) (bl b) = -1) := (compare_at (bl a) (bl b) k Hall.out (by rw [bl_len]; omega) (by rw [bl_len]; omega) (by intro e; rw [e] at hlt'; exact UInt8.lt_irrefl _ hlt')).trans (if_pos hlt')
        clear hlt'
        go_wp2
        go_quiet (fail)
        go_wp2
        go_ret
        exact ⟨ret_int (by rw [R.out]), d + nq, by first | rfl | simp⟩
      · by_cases hgt : (b[k].toNat : Int) < (a[k].toNat : Int)
        · have hgt' : ¬ (bl a).getD k 0 < (bl b).getD k 0 := by rw [← A.out, ← B.out]; intro h; exact hlt ((u8_lt_int _ _).1 h)
          have R : Hid (Lib.compareBytes (bl a) (bl b) = 1) := (compare_at (bl a) (bl b) k Hall.out (by rw [bl_len]; omega) (by rw [bl_len]; omega) (by rw [← A.out, ← B.out]; intro e; rw [e] at hgt; omega)).trans (if_neg hgt')
          clear hgt'
          go_wp2
          go_quiet (fail)
          go_wp2
          go_quiet (fail)
          go_wp2
          go_ret
          exact ⟨ret_int (by rw [R.out]), by first | exact drew3 _ _ _ _ | exact drew2 _ _ _ | exact ⟨_, rfl⟩⟩
        · have Hall2 : Hid (∀ j, j < k + 1 → (bl a).getD j 0 = (bl b).getD j 0) := fun j hj => by
            by_cases e : j = k
            · subst e; rw [← A.out, ← B.out]; exact UInt8.toNat_inj.1 (by omega)
            · exact Hall.out j (by omega)
          go_wp2
          go_quiet (fail)
          go_wp2
          go_quiet (fail)
          go_wp2
          go_roundw
          case rel => exact ⟨k + 1, by omega, by omega, by go_num, Hall2.out, by first | exact drew3 _ _ _ _ | exact drew2 _ _ _ | exact ⟨_, rfl⟩⟩
          case measure => simp [intOf]; omega
    · have R := Lib.hid (compare_end (bl a) (bl b) k Hall.out (by rw [bl_len, bl_len]; omega))
      rw [bl_len, bl_len] at R
      have X : ∀ r : Int, r = (if a.size < b.size then -1 else if b.size < a.size then 1 else 0) → Ending.returned (.int .i64 r) = .returned (.int .i64 (Lib.compareBytes (bl a) (bl b))) := fun r h => by rw [R.out, h]
      have HX := Lib.hid X
      clear X
      by_cases s1 : a.size < b.size
      · have q1 : (a.size : Int) ≤ (k : Int) := by omega
        clear h12
        go_wp2
        go_ret
        exact ⟨HX.out _ (by rw [if_pos s1]), d, rfl⟩
      · by_cases s2 : b.size < a.size
        · have q1 : (k : Int) < (a.size : Int) := by omega
          have q2 : (b.size : Int) ≤ (k : Int) := by omega
          clear h12
          go_wp2
          go_ret
          exact ⟨HX.out _ (by rw [if_neg s1, if_pos s2]), d, rfl⟩
        · have q1 : (a.size : Int) ≤ (k : Int) := by omega
          clear h12
          go_wp2
          go_ret
          exact ⟨HX.out _ (by rw [if_neg s1, if_neg s2]), d, rfl⟩
theorem tl (a : ByteArray) : a.toList = bl a := ByteArray.toList_eq a
/-- a world of the same memory -/
structure SameW (w w' : World) : Prop where
  heap : w'.heap = w.heap
  os : w'.os = w.os
  tape : w'.tape = w.tape
  output : w'.output = w.output
theorem SameW.refl (w : World) : SameW w w := ⟨rfl, rfl, rfl, rfl⟩
theorem SameW.trans {a b c : World} (h : SameW a b) (k : SameW b c) : SameW a c := ⟨k.heap.trans h.heap, k.os.trans h.os, k.tape.trans h.tape, k.output.trans h.output⟩
theorem SameW.below {w w' a : World} {B : Nat} (h : SameW w w') (b : Below B a w) : Below B a w' :=
  b.trans ⟨h.os, h.tape, h.output, by rw [h.heap]; exact Nat.le_refl _, fun k _ => by rw [h.heap]⟩
theorem SameW.drewN (w : World) (d : Nat) : SameW w (w.drewN d) := ⟨rfl, rfl, rfl, rfl⟩
theorem cmp_co (a b : ByteArray) (w : World) : Calls Try.prog 66 #[.string a, .string b] w fun e w' => e = .returned (.int .i64 (co a b)) ∧ w = w' := cmp a b w
theorem rcmp_co (a b : ByteArray) (w : World) (ha : a.size ≤ maxLen) (hb : b.size ≤ maxLen) : Calls Try.prog 97 #[.string a, .string b] w fun e w' => e = .returned (.int .i64 (co a b)) ∧ SameW w w' := by
  refine (rcmp_any a b w ha hb).mono ?_
  rintro e w' ⟨rfl, d, rfl⟩
  exact ⟨rfl, SameW.drewN w d⟩
theorem wi_1 {k f e : ByteArray} (h : ¬ 0 ≤ co k f) : wi k f e = false := by
  unfold wi; rw [decide_eq_false h]; rfl
theorem wi_2 {k f e : ByteArray} (h : 0 ≤ co k f) (h2 : e.toList = []) : wi k f e = true := by
  unfold wi; rw [decide_eq_true h, decide_eq_true (show bl e = [] by rw [← tl]; exact h2)]; rfl
theorem wi_3 {k f e : ByteArray} (h : 0 ≤ co k f) (h2 : ¬ e.toList = []) : wi k f e = decide (co k e < 0) := by
  unfold wi; rw [decide_eq_true h, decide_eq_false (show ¬ bl e = [] by rw [← tl]; exact h2)]; rfl
set_option maxHeartbeats 1000000 in
theorem within_any (k f e : ByteArray) (w : World) : Calls Try.prog 81 #[.string k, .string f, .string e] w fun x w' => x = .returned (.bool (wi k f e)) ∧ w = w' := by
  by_cases c1 : 0 ≤ co k f
  · by_cases c2 : e.toList = []
    · have R := Lib.hid (wi_2 c1 c2)
      have c3 : e.toList.isEmpty = true := by rw [c2]; rfl
      go_enter Try.func81, Try.ntmps81
      go_wp2_with (go_at_call 66; refine (cmp_co _ _ _).mono ?_; rintro x w1 ⟨rfl, rfl⟩)
      go_ret
      exact ⟨by rw [R.out]; rfl, rfl⟩
    · have R := Lib.hid (wi_3 c1 c2)
      have C3 : Hid (e.toList.isEmpty = false) := by show _ = _; rw [List.isEmpty_eq_false_iff]; exact c2
      have HX : Hid (∀ b : Bool, b = decide (co k e < 0) → Ending.returned (.bool b) = .returned (.bool (wi k f e))) := fun b h => by rw [R.out, h]
      go_enter Try.func81, Try.ntmps81
      go_wp2_with fail
      refine (cmp_co _ _ _).mono ?_
      rintro x w1 ⟨rfl, rfl⟩
      go_wp2_with fail
      refine (cmp_co _ _ _).mono ?_
      rintro x w1 ⟨rfl, rfl⟩
      go_wp2_with fail
      go_ret
      exact ⟨HX.out _ (by rw [C3.out]; rfl), rfl⟩
  · have R := Lib.hid (wi_1 (e := e) c1)
    go_enter Try.func81, Try.ntmps81
    go_wp2_with (go_at_call 66; refine (cmp_co _ _ _).mono ?_; rintro x w1 ⟨rfl, rfl⟩)
    go_ret
    exact ⟨by rw [R.out]; rfl, rfl⟩
theorem co_neg (a b : ByteArray) : co b a = - co a b := cb_neg _ _
set_option maxHeartbeats 1000000 in
theorem rwithin_any (k f e : ByteArray) (w : World) (hk : k.size ≤ maxLen) (hf : f.size ≤ maxLen) (he : e.size ≤ maxLen) : Calls Try.prog 71 #[.string k, .string f, .string e] w fun x w' => x = .returned (.bool (wi k f e)) ∧ SameW w w' := by
  have hn := co_neg k f
  by_cases c1 : 0 ≤ co k f
  · have d1 : co f k ≤ 0 := by omega
    by_cases c2 : e.toList = []
    · have R := Lib.hid (wi_2 c1 c2)
      have c3 : e.toList.isEmpty = true := by rw [c2]; rfl
      clear hn c1
      go_enter Try.func71, Try.ntmps71
      go_wp2_with fail
      refine (rcmp_co _ _ _ hf hk).mono ?_
      rintro x w1 ⟨rfl, hs⟩
      go_wp2_with fail
      go_ret
      exact ⟨by rw [R.out]; rfl, hs⟩
    · have R := Lib.hid (wi_3 c1 c2)
      have C3 : Hid (e.toList.isEmpty = false) := by show _ = _; rw [List.isEmpty_eq_false_iff]; exact c2
      have HX : Hid (∀ b : Bool, b = decide (co k e < 0) → Ending.returned (.bool b) = .returned (.bool (wi k f e))) := fun b h => by rw [R.out, h]
      clear hn c1
      go_enter Try.func71, Try.ntmps71
      go_wp2_with fail
      refine (rcmp_co _ _ _ hf hk).mono ?_
      rintro x w1 ⟨rfl, hs⟩
      go_wp2_with fail
      refine (rcmp_co _ _ _ hk he).mono ?_
      rintro x w1 ⟨rfl, hs'⟩
      go_wp2_with fail
      go_ret
      exact ⟨HX.out _ (by rw [C3.out]; rfl), hs.trans hs'⟩
  · have R := Lib.hid (wi_1 (e := e) c1)
    have d1 : ¬ co f k ≤ 0 := by omega
    clear hn c1
    go_enter Try.func71, Try.ntmps71
    go_wp2_with fail
    refine (rcmp_co _ _ _ hf hk).mono ?_
    rintro x w1 ⟨rfl, hs⟩
    go_wp2_with fail
    go_ret
    exact ⟨by rw [R.out]; rfl, hs⟩
end Go.Proofs.Ytoinjnocopejjaa
