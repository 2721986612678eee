/- The event that comes next. -/
import Derived.Test.YtgbcncfgpdlmiaaB
namespace Go.Proofs.Ytgbcncfgpdlmiaa
open Go.ChangeShapes Go.WideShapes Go.ChangeAt Go.RowKit Go.Maps
set_option linter.unusedVariables false
set_option linter.unusedSimpArgs false

theorem built40 (a t c : Int) : Try.prog.built 40 [(0, .int .u8 a), (1, .int .i64 t), (2, .int .i64 c)] = some #[.int .u8 a, .int .i64 t, .int .i64 c, .int .i64 0, .bool false, .string { data := #[] }, .slice none 0 0] := by kernel_rfl
def NxEnd (n : Nat) (t : Int) (w : World) (e : Ending) (w' : World) : Prop := e = .returned (.agg #[.int .u8 (1 + (n % 3 : Nat)), .int .i64 t, .int .i64 (n / 3 : Nat), .int .i64 0, .bool false, .string { data := #[] }, .slice none 0 0]) ∧ Below w.heap.size w w'
set_option maxRecDepth 100000 in
set_option maxHeartbeats 4000000 in
theorem next_any (q o : Nat) (n : Nat) (t : Int) (w : World) (h0 : 0 ≤ t) (h1 : t < 6) (hn : n ≤ 1000000000) (hc : w.cell? ⟨q, o + t.toNat, none⟩ = some (.int .i64 (n : Nat))) : Calls Try.prog 33 #[.pointer (some ⟨q, o, none⟩), .int .i64 t] w (NxEnd n t w) := by
  have hq := lt_of_cell hc
  have hb2 : Below w.heap.size w ((w.alloc (.cells #[.int .u8 0, .int .i64 0, .int .i64 0, .int .i64 0, .bool false, .string { data := #[] }, .slice none 0 0] 40)).alloc (.cells #[.int .u8 1, .int .u8 2, .int .u8 3] 91)) := ((Below.refl _ _).alloc (Nat.le_refl _) _).alloc (by simp) _
  have hc2 : ((w.alloc (.cells #[.int .u8 0, .int .i64 0, .int .i64 0, .int .i64 0, .bool false, .string { data := #[] }, .slice none 0 0] 40)).alloc (.cells #[.int .u8 1, .int .u8 2, .int .u8 3] 91)).cell? ⟨q, o + t.toNat, none⟩ = some (.int .i64 (n : Nat)) := (hb2.cell (p := ⟨q, o + t.toNat, none⟩) hq).trans hc
  have i1 : ∀ W, (Instr.indexAt 70 (.pointer (some ⟨q, o, none⟩)) (.int .i64 t)).run Try.prog W = .ok (.pointer (some ⟨q, o + t.toNat, none⟩)) W := fun W => by
    go_simp
  have HBK : Hid (Blk ((w.alloc (.cells #[.int .u8 0, .int .i64 0, .int .i64 0, .int .i64 0, .bool false, .string { data := #[] }, .slice none 0 0] 40)).alloc (.cells #[.int .u8 1, .int .u8 2, .int .u8 3] 91)) w.heap.size #[.int .u8 0, .int .i64 0, .int .i64 0, .int .i64 0, .bool false, .string { data := #[] }, .slice none 0 0] 40) := (Blk.new w _ 40).alloc _
  have HB2 := Lib.hid hb2
  have wq : Int.tdiv (n : Int) 3 = ((n / 3 : Nat) : Int) := by rw [Int.tdiv_eq_ediv_of_nonneg (by omega)]; omega
  have hr : n % 3 = 0 ∨ n % 3 = 1 ∨ n % 3 = 2 := by omega
  have wn : IntKind.i64.wrap ((n / 3 : Nat) : Int) = ((n / 3 : Nat) : Int) := IntWalk.i64_in _ (by omega)
  obtain ⟨nd, hnd⟩ : ∃ nd : Int, ((n / 3 : Nat) : Int) = nd := ⟨_, rfl⟩
  rw [hnd] at wq wn
  have HND := Lib.hid hnd
  clear hb2 hc hnd
  rcases hr with hr | hr | hr
  · have w1 : Int.tmod (n : Int) 3 = 0 := by rw [Int.tmod_eq_emod_of_nonneg (by omega)]; omega
    have HV : Hid (1 + ((n % 3 : Nat) : Int) = 1) := by show _ = _; omega
    have HBL : Hid (Blk ((w.alloc (.cells #[.int .u8 1, .int .i64 t, .int .i64 nd, .int .i64 0, .bool false, .string { data := #[] }, .slice none 0 0] 40)).alloc (.cells #[.int .u8 1, .int .u8 2, .int .u8 3] 91)) w.heap.size #[.int .u8 1, .int .i64 t, .int .i64 nd, .int .i64 0, .bool false, .string { data := #[] }, .slice none 0 0] 40) := (Blk.new w _ 40).alloc _
    have HB3 : Hid (Below w.heap.size w ((w.alloc (.cells #[.int .u8 1, .int .i64 t, .int .i64 nd, .int .i64 0, .bool false, .string { data := #[] }, .slice none 0 0] 40)).alloc (.cells #[.int .u8 1, .int .u8 2, .int .u8 3] 91))) := ((Below.refl _ _).alloc (Nat.le_refl _) _).alloc (by simp) _
    have hbt := built40 1 t nd
    clear hr
    go_enter Try.func33, Try.ntmps33
    go_wp2_with (first
      | (refine wpl_build rfl 40 _ rfl _ hbt ?_)
      | fail)
    refine bodyPost_ret (results_cell_row rfl _ _ w.heap.size 40 _ (0, 0) _ rfl HBL.out Try.underlying40 rfl (by kernel_rfl)) rfl ?_
    refine ⟨?_, HB3.out⟩
    rw [HND.out, HV.out]
  · have w1 : Int.tmod (n : Int) 3 = 1 := by rw [Int.tmod_eq_emod_of_nonneg (by omega)]; omega
    have HV : Hid (1 + ((n % 3 : Nat) : Int) = 2) := by show _ = _; omega
    have HBL : Hid (Blk ((w.alloc (.cells #[.int .u8 2, .int .i64 t, .int .i64 nd, .int .i64 0, .bool false, .string { data := #[] }, .slice none 0 0] 40)).alloc (.cells #[.int .u8 1, .int .u8 2, .int .u8 3] 91)) w.heap.size #[.int .u8 2, .int .i64 t, .int .i64 nd, .int .i64 0, .bool false, .string { data := #[] }, .slice none 0 0] 40) := (Blk.new w _ 40).alloc _
    have HB3 : Hid (Below w.heap.size w ((w.alloc (.cells #[.int .u8 2, .int .i64 t, .int .i64 nd, .int .i64 0, .bool false, .string { data := #[] }, .slice none 0 0] 40)).alloc (.cells #[.int .u8 1, .int .u8 2, .int .u8 3] 91))) := ((Below.refl _ _).alloc (Nat.le_refl _) _).alloc (by simp) _
    have hbt := built40 2 t nd
    clear hr
    go_enter Try.func33, Try.ntmps33
    go_wp2_with (first
      | (refine wpl_build rfl 40 _ rfl _ hbt ?_)
      | fail)
    refine bodyPost_ret (results_cell_row rfl _ _ w.heap.size 40 _ (0, 0) _ rfl HBL.out Try.underlying40 rfl (by kernel_rfl)) rfl ?_
    refine ⟨?_, HB3.out⟩
    rw [HND.out, HV.out]
  · have w1 : Int.tmod (n : Int) 3 = 2 := by rw [Int.tmod_eq_emod_of_nonneg (by omega)]; omega
    have HV : Hid (1 + ((n % 3 : Nat) : Int) = 3) := by show _ = _; omega
    have HBL : Hid (Blk ((w.alloc (.cells #[.int .u8 3, .int .i64 t, .int .i64 nd, .int .i64 0, .bool false, .string { data := #[] }, .slice none 0 0] 40)).alloc (.cells #[.int .u8 1, .int .u8 2, .int .u8 3] 91)) w.heap.size #[.int .u8 3, .int .i64 t, .int .i64 nd, .int .i64 0, .bool false, .string { data := #[] }, .slice none 0 0] 40) := (Blk.new w _ 40).alloc _
    have HB3 : Hid (Below w.heap.size w ((w.alloc (.cells #[.int .u8 3, .int .i64 t, .int .i64 nd, .int .i64 0, .bool false, .string { data := #[] }, .slice none 0 0] 40)).alloc (.cells #[.int .u8 1, .int .u8 2, .int .u8 3] 91))) := ((Below.refl _ _).alloc (Nat.le_refl _) _).alloc (by simp) _
    have hbt := built40 3 t nd
    clear hr
    go_enter Try.func33, Try.ntmps33
    go_wp2_with (first
      | (refine wpl_build rfl 40 _ rfl _ hbt ?_)
      | fail)
    refine bodyPost_ret (results_cell_row rfl _ _ w.heap.size 40 _ (0, 0) _ rfl HBL.out Try.underlying40 rfl (by kernel_rfl)) rfl ?_
    refine ⟨?_, HB3.out⟩
    rw [HND.out, HV.out]
end Go.Proofs.Ytgbcncfgpdlmiaa
