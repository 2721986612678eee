/- Package delta: the delta of two values that are not too large. -/
import Derived.Test.YthghaagmpneemaaQ
namespace Go.Proofs.Ythghaagmpneemaa
open Go.ChangeShapes Go.WideShapes Go.ChangeAt Go.RowKit
set_option linter.unusedVariables false
def str (l : List UInt8) : ByteArray := ⟨l.toArray⟩
theorem below_drewN {B : Nat} {a w : World} (h : Below B a w) (n : Nat) : Below B a (w.drewN n) := h.trans ⟨rfl, rfl, rfl, Nat.le_refl _, fun _ _ => rfl⟩
theorem str_cat (x y : List UInt8) : str x ++ str y = str (x ++ y) := by unfold str; rw [ByteArray.mk_append_mk]
theorem run_cat (W : World) (x y : List UInt8) (h : x.length + y.length ≤ 9223372036854775807) : (Op.stringOp .add (str x) (str y)).run Try.prog W = .ok (.string (str (x ++ y))) W := by
  rw [run_string_add_if, if_neg (by unfold str; simp [ByteArray.size]; omega), str_cat]

set_option maxRecDepth 100000 in
set_option maxHeartbeats 1000000 in
theorem tell_le (a b : ByteArray) (w : World) (ha : a.size ≤ 256) (hb : b.size ≤ 256) (hc : a.size ≤ b.size) :
    Calls Try.prog 16 #[.string a, .string b] w fun e w' => e = .returned (.string (str (mk (bl a) (bl b)))) ∧ Below w.heap.size w w' := by
  have HP : Hid (cnt (fstB (bl a) (bl b)) a.size = pre (bl a) (bl b)) := by unfold pre; rw [bl_len, bl_len]; show _ = _; congr 1; omega
  have HS : Hid (cnt (lstB (bl a) (bl b)) (a.size - pre (bl a) (bl b)) = suf (bl a) (bl b)) := by unfold suf; rw [bl_len, bl_len]; show _ = _; congr 1; omega
  have hp := pre_le (bl a) (bl b)
  have hs := both_le (bl a) (bl b)
  rw [bl_len, bl_len] at hp hs
  have HF : Hid (∃ q t, pre (bl a) (bl b) = q ∧ suf (bl a) (bl b) = t ∧ mk (bl a) (bl b) = two q ++ two t ++ ((bl b).drop q).take (b.size - t - q)) := ⟨_, _, rfl, rfl, by unfold mk mid; rw [bl_len]⟩
  obtain ⟨p, s, hpp, hss, hmk⟩ := HF.out
  rw [hpp] at HP HS hp hs
  rw [hss] at HS hs
  have Hmk := Lib.hid hmk
  clear hpp hss hmk HF
  have hma : a.size ≤ a.size := by omega
  have hmb : a.size ≤ b.size := by omega
  go_enter Try.func16, Try.ntmps16
  go_wp2_with fail
  refine (alike_first a b a.size _ hma hmb (by unfold maxLen; omega) (by unfold maxLen; omega)).mono ?_
  rintro e _ ⟨rfl, rfl⟩
  rw [HP.out]
  go_wp2_with fail
  rw [show ((a.size : Int) - (p : Int)) = ((a.size - p : Nat) : Int) from by omega]
  refine (alike_last a b (a.size - p) _ (by omega) (by omega) (by unfold maxLen; omega) (by unfold maxLen; omega)).mono ?_
  rintro e _ ⟨rfl, rfl⟩
  rw [HS.out]
  have hr0 := Lib.hid (row_zeros w 46)
  have hb0 := Lib.hid ((Below.refl w.heap.size w).alloc (Nat.le_refl _) (.cells #[.int .u8 0, .int .u8 0, .int .u8 0, .int .u8 0] 46))
  go_wp2_with fail
  refine (Put16_any _ _ _ _ _ _ _ hr0.out (by omega) (by omega)).mono ?_
  rintro e w1 ⟨rfl, hr1, hg1⟩
  have Hb1 := Lib.hid (below_grown hb0.out hg1 (by simp) (Nat.le_refl _))
  have Hr1 := Lib.hid hr1
  clear hr1 hg1 hr0 hb0
  go_wp2_with fail
  refine (Put16_any _ _ _ _ _ _ _ Hr1.out (by omega) (by omega)).mono ?_
  rintro e w2 ⟨rfl, hr2, hg2⟩
  have Hb2 := Lib.hid (below_grown Hb1.out hg2 Hb1.out.size (Nat.le_refl _))
  rw [put_two p s (by omega) (by omega)] at hr2
  have Hr2 := Lib.hid hr2
  clear hr2 hg2 Hr1 Hb1
  obtain ⟨X1, hX1⟩ : ∃ X, X = str (two p ++ two s) := ⟨_, rfl⟩
  obtain ⟨X2, hX2⟩ : ∃ X, X = str (((bl b).drop p).take (b.size - s - p)) := ⟨_, rfl⟩
  have HX1 := Lib.hid hX1
  have HX2 := Lib.hid hX2
  clear hX1 hX2
  have hcv : ∀ nq, (convert 23 9 (.slice (some ⟨w.heap.size, 0, none⟩) 4 4)).run Try.prog (w2.drewN nq) = .ok (.string X1) (w2.drewN nq) := fun nq => by
    rw [HX1.out]
    exact conv_back w.heap.size (two p ++ two s) 4 4 w2 Hr2.out.reads (by omega) _ (fun a => by simp)
  have hw1 : IntKind.i64.wrap ((b.size : Int) - (s : Int)) = (b.size : Int) - (s : Int) := IntWalk.i64_in _ (by omega)
  have hsl : ∀ W, (Instr.slice 9 (.string b) (some (.int .i64 (p : Int))) (some (.int .i64 ((b.size : Int) - (s : Int)))) none).run Try.prog W = .ok (.string X2) W := fun W => by
    rw [HX2.out, run_slice_string_if W 9 b .i64 .i64 _ _ Try.underlying9, if_pos ⟨by omega, by omega⟩, if_pos ⟨by omega, by omega⟩, extract_str]
    unfold str
    congr 5; omega
  have hcat : ∀ W, (Op.stringOp .add X1 X2).run Try.prog W = .ok (.string (str (mk (bl a) (bl b)))) W := fun W => by
    rw [Hmk.out, HX1.out, HX2.out]
    exact run_cat W _ _ (by simp [two]; omega)
  go_wp2_with fail
  go_quiet (fail)
  clear hw1 hsl hcv hcat
  go_wp2_with fail
  go_ret
  exact ⟨rfl, below_drewN Hb2.out _⟩

set_option maxRecDepth 100000 in
set_option maxHeartbeats 1000000 in
theorem tell_ge (a b : ByteArray) (w : World) (ha : a.size ≤ 256) (hb : b.size ≤ 256) (hc : b.size ≤ a.size ∧ ¬ a.size ≤ b.size) :
    Calls Try.prog 16 #[.string a, .string b] w fun e w' => e = .returned (.string (str (mk (bl a) (bl b)))) ∧ Below w.heap.size w w' := by
  have HP : Hid (cnt (fstB (bl a) (bl b)) b.size = pre (bl a) (bl b)) := by unfold pre; rw [bl_len, bl_len]; show _ = _; congr 1; omega
  have HS : Hid (cnt (lstB (bl a) (bl b)) (b.size - pre (bl a) (bl b)) = suf (bl a) (bl b)) := by unfold suf; rw [bl_len, bl_len]; show _ = _; congr 1; omega
  have hp := pre_le (bl a) (bl b)
  have hs := both_le (bl a) (bl b)
  rw [bl_len, bl_len] at hp hs
  have HF : Hid (∃ q t, pre (bl a) (bl b) = q ∧ suf (bl a) (bl b) = t ∧ mk (bl a) (bl b) = two q ++ two t ++ ((bl b).drop q).take (b.size - t - q)) := ⟨_, _, rfl, rfl, by unfold mk mid; rw [bl_len]⟩
  obtain ⟨p, s, hpp, hss, hmk⟩ := HF.out
  rw [hpp] at HP HS hp hs
  rw [hss] at HS hs
  have Hmk := Lib.hid hmk
  clear hpp hss hmk HF
  have hma : b.size ≤ a.size := by omega
  have hmb : b.size ≤ b.size := by omega
  go_enter Try.func16, Try.ntmps16
  go_wp2_with fail
  refine (alike_first a b b.size _ hma hmb (by unfold maxLen; omega) (by unfold maxLen; omega)).mono ?_
  rintro e _ ⟨rfl, rfl⟩
  rw [HP.out]
  go_wp2_with fail
  rw [show ((b.size : Int) - (p : Int)) = ((b.size - p : Nat) : Int) from by omega]
  refine (alike_last a b (b.size - p) _ (by omega) (by omega) (by unfold maxLen; omega) (by unfold maxLen; omega)).mono ?_
  rintro e _ ⟨rfl, rfl⟩
  rw [HS.out]
  have hr0 := Lib.hid (row_zeros w 46)
  have hb0 := Lib.hid ((Below.refl w.heap.size w).alloc (Nat.le_refl _) (.cells #[.int .u8 0, .int .u8 0, .int .u8 0, .int .u8 0] 46))
  go_wp2_with fail
  refine (Put16_any _ _ _ _ _ _ _ hr0.out (by omega) (by omega)).mono ?_
  rintro e w1 ⟨rfl, hr1, hg1⟩
  have Hb1 := Lib.hid (below_grown hb0.out hg1 (by simp) (Nat.le_refl _))
  have Hr1 := Lib.hid hr1
  clear hr1 hg1 hr0 hb0
  go_wp2_with fail
  refine (Put16_any _ _ _ _ _ _ _ Hr1.out (by omega) (by omega)).mono ?_
  rintro e w2 ⟨rfl, hr2, hg2⟩
  have Hb2 := Lib.hid (below_grown Hb1.out hg2 Hb1.out.size (Nat.le_refl _))
  rw [put_two p s (by omega) (by omega)] at hr2
  have Hr2 := Lib.hid hr2
  clear hr2 hg2 Hr1 Hb1
  obtain ⟨X1, hX1⟩ : ∃ X, X = str (two p ++ two s) := ⟨_, rfl⟩
  obtain ⟨X2, hX2⟩ : ∃ X, X = str (((bl b).drop p).take (b.size - s - p)) := ⟨_, rfl⟩
  have HX1 := Lib.hid hX1
  have HX2 := Lib.hid hX2
  clear hX1 hX2
  have hcv : ∀ nq, (convert 23 9 (.slice (some ⟨w.heap.size, 0, none⟩) 4 4)).run Try.prog (w2.drewN nq) = .ok (.string X1) (w2.drewN nq) := fun nq => by
    rw [HX1.out]
    exact conv_back w.heap.size (two p ++ two s) 4 4 w2 Hr2.out.reads (by omega) _ (fun a => by simp)
  have hw1 : IntKind.i64.wrap ((b.size : Int) - (s : Int)) = (b.size : Int) - (s : Int) := IntWalk.i64_in _ (by omega)
  have hsl : ∀ W, (Instr.slice 9 (.string b) (some (.int .i64 (p : Int))) (some (.int .i64 ((b.size : Int) - (s : Int)))) none).run Try.prog W = .ok (.string X2) W := fun W => by
    rw [HX2.out, run_slice_string_if W 9 b .i64 .i64 _ _ Try.underlying9, if_pos ⟨by omega, by omega⟩, if_pos ⟨by omega, by omega⟩, extract_str]
    unfold str
    congr 5; omega
  have hcat : ∀ W, (Op.stringOp .add X1 X2).run Try.prog W = .ok (.string (str (mk (bl a) (bl b)))) W := fun W => by
    rw [Hmk.out, HX1.out, HX2.out]
    exact run_cat W _ _ (by simp [two]; omega)
  go_wp2_with fail
  go_quiet (fail)
  clear hw1 hsl hcv hcat
  go_wp2_with fail
  go_ret
  exact ⟨rfl, below_drewN Hb2.out _⟩

theorem tell_any (a b : ByteArray) (w : World) (ha : a.size ≤ 256) (hb : b.size ≤ 256) :
    Calls Try.prog 16 #[.string a, .string b] w fun e w' => e = .returned (.string (str (mk (bl a) (bl b)))) ∧ Below w.heap.size w w' := by
  by_cases h : a.size ≤ b.size
  · exact tell_le a b w ha hb h
  · exact tell_ge a b w ha hb ⟨by omega, h⟩
set_option maxHeartbeats 400000 in
theorem make_yes (a b : ByteArray) (w : World) (ha : a.size ≤ 256) (hb : b.size ≤ 256) :
    Calls Try.prog 9 #[.string a, .string b] w fun e w' => e = .returned (.tuple #[.string (str (mk (bl a) (bl b))), .int .i64 0]) ∧ Below w.heap.size w w' := by
  go_enter Try.func9, Try.ntmps9
  go_wp2_with fail
  refine (tell_any a b _ ha hb).mono ?_
  rintro e w1 ⟨rfl, hb1⟩
  have Hb1 := Lib.hid hb1
  clear hb1
  go_wp2_with fail
  go_ret2
  exact ⟨rfl, Hb1.out⟩
set_option maxHeartbeats 400000 in
theorem make_no (a b : ByteArray) (w : World) (h : ¬ (a.size ≤ 256 ∧ b.size ≤ 256)) :
    Calls Try.prog 9 #[.string a, .string b] w fun e w' => e = .returned (.tuple #[.string ⟨#[]⟩, .int .i64 40]) ∧ w = w' := by
  by_cases ha : a.size ≤ 256
  · have hb : 256 < b.size := by omega
    clear h
    go_enter Try.func9, Try.ntmps9
    go_wp2_with fail
    go_ret2
    exact ⟨rfl, rfl⟩
  · have hb : 256 < a.size := by omega
    clear h ha
    go_enter Try.func9, Try.ntmps9
    go_wp2_with fail
    go_ret2
    exact ⟨rfl, rfl⟩
end Go.Proofs.Ythghaagmpneemaa
