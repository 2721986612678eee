/- Key, Bound. -/
import Derived.Test.YtkgdmdcnhbaidaaDoorTX
namespace Go.Proofs.YtkgdmdcnhbaidaaDoor
open Go.ChangeShapes Go.WideShapes Go.ChangeAt Go.RowKit
set_option linter.unusedVariables false
set_option linter.unusedSimpArgs false

set_option maxHeartbeats 1000000 in
theorem key_any (c : Conf) (s : ByteArray) (w : World) (hs : s.size ≤ maxLen) : Calls Tryd.prog 48 #[c.val, .string s] w fun e w' => e = .returned (.bool (lenB (mayB c) s 1 c.kl)) ∧ Below w.heap.size w w' := by
  have hval : Hid (c.val = .agg #[.int .i64 c.ta, .int .i64 c.ac, .int .i64 c.ke, .int .i64 c.de, .int .i64 c.ts, .int .i64 c.kl, .int .i64 c.vl, .int .i64 c.fa]) := rfl
  have hm := Lib.hid (fun w => lengths_any c w)
  rw [hval.out] at hm
  rw [hval.out]
  have HK : Hid ((w.alloc (.cells #[.int .i64 c.ta, .int .i64 c.ac, .int .i64 c.ke, .int .i64 c.de, .int .i64 c.ts, .int .i64 c.kl, .int .i64 c.vl, .int .i64 c.fa] 52)).cell? ⟨w.heap.size, 5, none⟩ = some (.int .i64 c.kl)) := by
    show _ = _
    rw [cell_of_row _ _ 5 _ 52 (0, 0) (heap_alloc_new w _)]; rfl
  go_enter Tryd.func48, Tryd.ntmps48
  go_wp2_with fail
  go_region_with (first | (go_at_call 58; refine (hm.out _).mono ?_; rintro e w1 ⟨g, rfl, hg, hc, hb⟩; have hk : w1.cell? ⟨w.heap.size, 5, none⟩ = some (.int .i64 c.kl) := (hb.cell (p := ⟨w.heap.size, 5, none⟩) (by simp)).trans HK.out) | (go_at_call 69; refine (closure_any (mayB c) _ _ _ _ _ hc hs).mono ?_; rintro e w2 ⟨rfl, rfl⟩))
  all_goals
    go_wp2
    go_ret
    refine ⟨rfl, Below.trans ?_ (Below.mono hb ?_)⟩
    · repeat (first | exact (Below.refl _ _).alloc (Nat.le_refl _) _ | apply Below.drew)
    · simp
set_option maxHeartbeats 1000000 in
theorem bound_any (c : Conf) (s : ByteArray) (w : World) (hs : s.size ≤ maxLen) : Calls Tryd.prog 49 #[c.val, .string s] w fun e w' => e = .returned (.bool (lenB (mayB c) s 0 c.kl)) ∧ Below w.heap.size w w' := by
  have hval : Hid (c.val = .agg #[.int .i64 c.ta, .int .i64 c.ac, .int .i64 c.ke, .int .i64 c.de, .int .i64 c.ts, .int .i64 c.kl, .int .i64 c.vl, .int .i64 c.fa]) := rfl
  have hm := Lib.hid (fun w => lengths_any c w)
  rw [hval.out] at hm
  rw [hval.out]
  have HK : Hid ((w.alloc (.cells #[.int .i64 c.ta, .int .i64 c.ac, .int .i64 c.ke, .int .i64 c.de, .int .i64 c.ts, .int .i64 c.kl, .int .i64 c.vl, .int .i64 c.fa] 52)).cell? ⟨w.heap.size, 5, none⟩ = some (.int .i64 c.kl)) := by
    show _ = _
    rw [cell_of_row _ _ 5 _ 52 (0, 0) (heap_alloc_new w _)]; rfl
  go_enter Tryd.func49, Tryd.ntmps49
  go_wp2_with fail
  go_region_with (first | (go_at_call 58; refine (hm.out _).mono ?_; rintro e w1 ⟨g, rfl, hg, hc, hb⟩; have hk : w1.cell? ⟨w.heap.size, 5, none⟩ = some (.int .i64 c.kl) := (hb.cell (p := ⟨w.heap.size, 5, none⟩) (by simp)).trans HK.out) | (go_at_call 69; refine (closure_any (mayB c) _ _ _ _ _ hc hs).mono ?_; rintro e w2 ⟨rfl, rfl⟩))
  all_goals
    go_wp2
    go_ret
    refine ⟨rfl, Below.trans ?_ (Below.mono hb ?_)⟩
    · repeat (first | exact (Below.refl _ _).alloc (Nat.le_refl _) _ | apply Below.drew)
    · simp
end Go.Proofs.YtkgdmdcnhbaidaaDoor
