/- TX, TY in one. -/
import Derived.Test.YtoinjnocopejjaaMA
import Derived.Test.YtoinjnocopejjaaSl
import Derived.WalkKit
import Derived.ProofKit
import Derived.LoopTactic
import Derived.Below
import Derived.BigQuiet
import Derived.Deep.QuietTactic
import Derived.WalkSpells
import Derived.WalkLawsBesides
import Derived.Lib.Hide
import Derived.Lib.Bytealg
import Derived.Lib.Strings
import Derived.Deep.WholeRow
import Derived.Laws.IdiomStrings
import Derived.Deep.RegionWith
import Derived.RegionTactic
import Derived.Deep.DeepMust
import Derived.Outline
/- The functions of package text: what each returns. -/
namespace Go.Proofs.Ytoinjnocopejjaa
open Go.ChangeShapes Go.WideShapes Go.ChangeAt Go.RowKit


/-- the row of what is asked of a config -/
def Conf.row (c : Conf) : Array Value := #[.int .i64 c.ta, .int .i64 1, .int .i64 6, .int .i64 c.ac, .int .i64 1, .int .i64 8, .int .i64 c.ke, .int .i64 1, .int .i64 64, .int .i64 c.de, .int .i64 2, .int .i64 8,
  .int .i64 c.ts, .int .i64 1, .int .i64 1048576, .int .i64 c.kl, .int .i64 1, .int .i64 64, .int .i64 c.vl, .int .i64 0, .int .i64 256, .int .i64 c.fa, .int .i64 3, .int .i64 8]
def zrow : Array Value := #[.int .i64 0, .int .i64 0, .int .i64 0, .int .i64 0, .int .i64 0, .int .i64 0, .int .i64 0, .int .i64 0, .int .i64 0, .int .i64 0, .int .i64 0, .int .i64 0,
  .int .i64 0, .int .i64 0, .int .i64 0, .int .i64 0, .int .i64 0, .int .i64 0, .int .i64 0, .int .i64 0, .int .i64 0, .int .i64 0, .int .i64 0, .int .i64 0]
theorem setRow_last (w : World) (o : Obj) (c c' : Array Value) (t : TypeId) : ((w.alloc o).alloc (.cells c t)).setRow (w.heap.size + 1) c' = (w.alloc o).alloc (.cells c' t) := by
  have h := World.setRow_alloc_new (w.alloc o) c c' t
  rwa [show (w.alloc o).heap.size = w.heap.size + 1 from by simp] at h
theorem Conf.at0 (c : Conf) (w : World) : (Instr.index 145 (.agg c.row) (.int .i64 0)).run Try.prog w = .ok (.agg #[.int .i64 c.ta, .int .i64 1, .int .i64 6]) w := by kernel_rfl
theorem Conf.at1 (c : Conf) (w : World) : (Instr.index 145 (.agg c.row) (.int .i64 1)).run Try.prog w = .ok (.agg #[.int .i64 c.ac, .int .i64 1, .int .i64 8]) w := by kernel_rfl
theorem Conf.at2 (c : Conf) (w : World) : (Instr.index 145 (.agg c.row) (.int .i64 2)).run Try.prog w = .ok (.agg #[.int .i64 c.ke, .int .i64 1, .int .i64 64]) w := by kernel_rfl
theorem Conf.at3 (c : Conf) (w : World) : (Instr.index 145 (.agg c.row) (.int .i64 3)).run Try.prog w = .ok (.agg #[.int .i64 c.de, .int .i64 2, .int .i64 8]) w := by kernel_rfl
theorem Conf.at4 (c : Conf) (w : World) : (Instr.index 145 (.agg c.row) (.int .i64 4)).run Try.prog w = .ok (.agg #[.int .i64 c.ts, .int .i64 1, .int .i64 1048576]) w := by kernel_rfl
theorem Conf.at5 (c : Conf) (w : World) : (Instr.index 145 (.agg c.row) (.int .i64 5)).run Try.prog w = .ok (.agg #[.int .i64 c.kl, .int .i64 1, .int .i64 64]) w := by kernel_rfl
theorem Conf.at6 (c : Conf) (w : World) : (Instr.index 145 (.agg c.row) (.int .i64 6)).run Try.prog w = .ok (.agg #[.int .i64 c.vl, .int .i64 0, .int .i64 256]) w := by kernel_rfl
theorem Conf.at7 (c : Conf) (w : World) : (Instr.index 145 (.agg c.row) (.int .i64 7)).run Try.prog w = .ok (.agg #[.int .i64 c.fa, .int .i64 3, .int .i64 8]) w := by kernel_rfl
theorem Conf.at_ (c : Conf) (k : Nat) (hk : k < 8) (w : World) : (Instr.index 145 (.agg c.row) (.int .i64 (k : Int))).run Try.prog w = .ok (.agg #[.int .i64 (c.num k), .int .i64 (lo k), .int .i64 (hi k)]) w :=
  match k, hk with
  | 0, _ => c.at0 w
  | 1, _ => c.at1 w
  | 2, _ => c.at2 w
  | 3, _ => c.at3 w
  | 4, _ => c.at4 w
  | 5, _ => c.at5 w
  | 6, _ => c.at6 w
  | 7, _ => c.at7 w
set_option maxHeartbeats 1000000 in
theorem tx_may_any (c : Conf) (w : World) : Calls Try.prog 51 #[c.val] w fun e w' => e = .returned (.bool (mayB c)) ∧ Below w.heap.size w w' := by
  have hidx := c.at_
  have hg := heap_alloc2_new w (.cells #[.int .i64 c.ta, .int .i64 c.ac, .int .i64 c.ke, .int .i64 c.de, .int .i64 c.ts, .int .i64 c.kl, .int .i64 c.vl, .int .i64 c.fa] 45) (.cells c.row 145)
  have hz := heap_alloc2_new w (.cells #[.int .i64 c.ta, .int .i64 c.ac, .int .i64 c.ke, .int .i64 c.de, .int .i64 c.ts, .int .i64 c.kl, .int .i64 c.vl, .int .i64 c.fa] 45) (.cells zrow 145)
  have hb0 : Below w.heap.size w ((w.alloc (.cells #[.int .i64 c.ta, .int .i64 c.ac, .int .i64 c.ke, .int .i64 c.de, .int .i64 c.ts, .int .i64 c.kl, .int .i64 c.vl, .int .i64 c.fa] 45)).alloc (.cells c.row 145)) :=
    ((Below.refl _ _).alloc (Nat.le_refl _) _).alloc (by simp) _
  have hnum : ∀ k, c.num k = (match k with | 0 => c.ta | 1 => c.ac | 2 => c.ke | 3 => c.de | 4 => c.ts | 5 => c.kl | 6 => c.vl | _ => c.fa) := fun _ => rfl
  have Hidx := Lib.hid hidx
  have Hg := Lib.hid hg
  have Hz := Lib.hid hz
  have Hb := Lib.hid hb0
  clear hg hz hidx hb0 hnum
  have hval : Hid (c.val = .agg #[.int .i64 c.ta, .int .i64 c.ac, .int .i64 c.ke, .int .i64 c.de, .int .i64 c.ts, .int .i64 c.kl, .int .i64 c.vl, .int .i64 c.fa]) := rfl
  rw [hval.out]
  go_enter Try.func51, Try.ntmps51
  go_wp2_with (first | (refine wpList_store_row rfl 145 (.tmp 3) (.tmp 30) rfl (w.heap.size + 1) (Conf.row c) rfl rfl 145 zrow Hz.out (by kernel_rfl) rfl (by kernel_rfl) ?_; rw [setRow_last]) | (refine wpList_load_row rfl 145 (.tmp 3) rfl (w.heap.size + 1) rfl _ _ _ _ Hg.out Try.underlying145 rfl (by kernel_rfl) ?_))
  go_loopw [32] (fun i wr => ∃ k : Nat, k ≤ 8 ∧ i = .int .i64 k ∧ (∀ j, j < k → lo j ≤ c.num j ∧ c.num j ≤ hi j) ∧ Below w.heap.size w wr) (fun i _ => 8 - (intOf i).toNat)
  case atStart => exact ⟨0, by omega, rfl, fun j hj => by omega, Hb.out⟩
  case round =>
    obtain ⟨k, hk, rfl, hall, hb⟩ := hrel
    have Hall := Lib.hid hall
    have Hb2 := Lib.hid hb
    clear hall hb Hb Hg Hz
    by_cases hlt : k < 8
    · have hix := fun w => Hidx.out k hlt w
      obtain ⟨x, hx⟩ : ∃ x, c.num k = x := ⟨_, rfl⟩
      obtain ⟨l, hl⟩ : ∃ x, lo k = x := ⟨_, rfl⟩
      obtain ⟨m, hm⟩ : ∃ x, hi k = x := ⟨_, rfl⟩
      rw [hx, hl, hm] at hix
      have Hx := Lib.hid hx
      have Hl := Lib.hid hl
      have Hm := Lib.hid hm
      clear hx hl hm
      by_cases c1 : x < l
      · have HF : Hid (mayB c = false) := mayB_no hlt (by rw [Hx.out, Hl.out]; exact .inl c1)
        go_wp2
        go_ret
        exact ⟨ret_bool HF.out.symm, Hb2.out.alloc Hb2.out.size _⟩
      · by_cases c2 : m < x
        · have HF : Hid (mayB c = false) := mayB_no hlt (by rw [Hx.out, Hm.out]; exact .inr c2)
          go_wp2
          go_ret
          exact ⟨ret_bool HF.out.symm, Hb2.out.alloc Hb2.out.size _⟩
        · go_wp2
          go_roundw
          case rel =>
            refine ⟨k + 1, by omega, by go_num, fun j hj => ?_, Hb2.out.alloc Hb2.out.size _⟩
            by_cases e : j = k
            · subst e; rw [Hx.out, Hl.out, Hm.out]; omega
            · exact Hall.out j (by omega)
          case measure => simp [intOf]; omega
    · obtain rfl : k = 8 := by omega
      have HF := Lib.hid (mayB_yes Hall.out)
      go_wp2
      go_ret
      exact ⟨ret_bool HF.out.symm, Hb2.out⟩
set_option maxHeartbeats 1000000 in
theorem lengths_any (c : Conf) (w : World) : Calls Try.prog 105 #[c.val] w fun e w' => ∃ g, e = .returned (.func (Fn.func 115) #[] #[.pointer (some ⟨g, 0, none⟩)]) ∧ w.heap.size ≤ g ∧ w'.cell? ⟨g, 0, none⟩ = some (.bool (mayB c)) ∧ Below w.heap.size w w' := by
  have hval : Hid (c.val = .agg #[.int .i64 c.ta, .int .i64 c.ac, .int .i64 c.ke, .int .i64 c.de, .int .i64 c.ts, .int .i64 c.kl, .int .i64 c.vl, .int .i64 c.fa]) := rfl
  have hm := Lib.hid (fun w => tx_may_any c w)
  rw [hval.out] at hm
  rw [hval.out]
  go_enter Try.func105, Try.ntmps105
  go_wp2_with fail
  refine (hm.out _).mono ?_
  rintro e w1 ⟨rfl, hb⟩
  go_wp2_with fail
  go_ret
  have hb1 : Below w.heap.size w w1 := ((Below.refl _ _).alloc (Nat.le_refl _) _).trans (hb.mono (by simp))
  exact ⟨w1.heap.size, rfl, hb1.size, by rw [cell_of_row _ _ 0 #[.bool (mayB c)] 4 (0, 0) (heap_alloc_new w1 _)]; rfl, hb1.alloc hb1.size _⟩
set_option maxHeartbeats 1000000 in
theorem closure_any (b : Bool) (g : Nat) (s : ByteArray) (l m : Int) (w : World) (hc : w.cell? ⟨g, 0, none⟩ = some (.bool b)) (_hs : s.size ≤ maxLen) : Calls Try.prog 115 #[.string s, .int .i64 l, .int .i64 m, .pointer (some ⟨g, 0, none⟩)] w fun e w' => e = .returned (.bool (lenB b s l m)) ∧ w = w' := by
  have H : ∀ d : Bool, d = lenB b s l m → Ending.returned (.bool d) = .returned (.bool (lenB b s l m)) := fun b h => by rw [h]
  unfold maxLen at _hs
  cases b
  · go_enter Try.func115, Try.ntmps115
    go_wp2
    go_ret
    exact ⟨H _ rfl, rfl⟩
  · by_cases c1 : l ≤ s.size
    · go_enter Try.func115, Try.ntmps115
      go_wp2
      go_ret
      refine ⟨H _ ?_, rfl⟩
      unfold lenB
      rw [Bool.true_and, decide_eq_decide]; omega
    · go_enter Try.func115, Try.ntmps115
      go_wp2
      go_ret
      refine ⟨H _ ?_, rfl⟩
      unfold lenB
      rw [Bool.true_and, eq_comm, decide_eq_false_iff_not]; omega
set_option maxHeartbeats 1000000 in
theorem value_any (c : Conf) (s : ByteArray) (w : World) (hs : s.size ≤ maxLen) : Calls Try.prog 90 #[c.val, .string s] w fun e w' => e = .returned (.bool (lenB (mayB c) s 0 c.vl)) ∧ Below w.heap.size w w' := by
  have hval : Hid (c.val = .agg #[.int .i64 c.ta, .int .i64 c.ac, .int .i64 c.ke, .int .i64 c.de, .int .i64 c.ts, .int .i64 c.kl, .int .i64 c.vl, .int .i64 c.fa]) := rfl
  have hm := Lib.hid (fun w => lengths_any c w)
  rw [hval.out] at hm
  rw [hval.out]
  have HK : Hid ((w.alloc (.cells #[.int .i64 c.ta, .int .i64 c.ac, .int .i64 c.ke, .int .i64 c.de, .int .i64 c.ts, .int .i64 c.kl, .int .i64 c.vl, .int .i64 c.fa] 45)).cell? ⟨w.heap.size, 6, none⟩ = some (.int .i64 c.vl)) := by
    show _ = _
    rw [cell_of_row _ _ 6 _ 45 (0, 0) (heap_alloc_new w _)]; rfl
  go_enter Try.func90, Try.ntmps90
  go_wp2_with fail
  go_region_with (first | (go_at_call 105; refine (hm.out _).mono ?_; rintro e w1 ⟨g, rfl, hg, hc, hb⟩; have hk : w1.cell? ⟨w.heap.size, 6, none⟩ = some (.int .i64 c.vl) := (hb.cell (p := ⟨w.heap.size, 6, none⟩) (by simp)).trans HK.out) | (go_at_call 115; refine (closure_any (mayB c) _ _ _ _ _ hc hs).mono ?_; rintro e w2 ⟨rfl, rfl⟩))
  all_goals
    go_wp2
    go_ret
    refine ⟨rfl, Below.trans ?_ (Below.mono hb ?_)⟩
    · repeat (first | exact (Below.refl _ _).alloc (Nat.le_refl _) _ | apply Below.drew)
    · simp
end Go.Proofs.Ytoinjnocopejjaa

/- Key, Bound. -/
namespace Go.Proofs.Ytoinjnocopejjaa
open Go.ChangeShapes Go.WideShapes Go.ChangeAt Go.RowKit
set_option linter.unusedVariables false
set_option linter.unusedSimpArgs false

set_option maxHeartbeats 1000000 in
theorem key_any (c : Conf) (s : ByteArray) (w : World) (hs : s.size ≤ maxLen) : Calls Try.prog 89 #[c.val, .string s] w fun e w' => e = .returned (.bool (lenB (mayB c) s 1 c.kl)) ∧ Below w.heap.size w w' := by
  have hval : Hid (c.val = .agg #[.int .i64 c.ta, .int .i64 c.ac, .int .i64 c.ke, .int .i64 c.de, .int .i64 c.ts, .int .i64 c.kl, .int .i64 c.vl, .int .i64 c.fa]) := rfl
  have hm := Lib.hid (fun w => lengths_any c w)
  rw [hval.out] at hm
  rw [hval.out]
  have HK : Hid ((w.alloc (.cells #[.int .i64 c.ta, .int .i64 c.ac, .int .i64 c.ke, .int .i64 c.de, .int .i64 c.ts, .int .i64 c.kl, .int .i64 c.vl, .int .i64 c.fa] 45)).cell? ⟨w.heap.size, 5, none⟩ = some (.int .i64 c.kl)) := by
    show _ = _
    rw [cell_of_row _ _ 5 _ 45 (0, 0) (heap_alloc_new w _)]; rfl
  go_enter Try.func89, Try.ntmps89
  go_wp2_with fail
  go_region_with (first | (go_at_call 105; refine (hm.out _).mono ?_; rintro e w1 ⟨g, rfl, hg, hc, hb⟩; have hk : w1.cell? ⟨w.heap.size, 5, none⟩ = some (.int .i64 c.kl) := (hb.cell (p := ⟨w.heap.size, 5, none⟩) (by simp)).trans HK.out) | (go_at_call 115; refine (closure_any (mayB c) _ _ _ _ _ hc hs).mono ?_; rintro e w2 ⟨rfl, rfl⟩))
  all_goals
    go_wp2
    go_ret
    refine ⟨rfl, Below.trans ?_ (Below.mono hb ?_)⟩
    · repeat (first | exact (Below.refl _ _).alloc (Nat.le_refl _) _ | apply Below.drew)
    · simp
set_option maxHeartbeats 1000000 in
theorem bound_any (c : Conf) (s : ByteArray) (w : World) (hs : s.size ≤ maxLen) : Calls Try.prog 91 #[c.val, .string s] w fun e w' => e = .returned (.bool (lenB (mayB c) s 0 c.kl)) ∧ Below w.heap.size w w' := by
  have hval : Hid (c.val = .agg #[.int .i64 c.ta, .int .i64 c.ac, .int .i64 c.ke, .int .i64 c.de, .int .i64 c.ts, .int .i64 c.kl, .int .i64 c.vl, .int .i64 c.fa]) := rfl
  have hm := Lib.hid (fun w => lengths_any c w)
  rw [hval.out] at hm
  rw [hval.out]
  have HK : Hid ((w.alloc (.cells #[.int .i64 c.ta, .int .i64 c.ac, .int .i64 c.ke, .int .i64 c.de, .int .i64 c.ts, .int .i64 c.kl, .int .i64 c.vl, .int .i64 c.fa] 45)).cell? ⟨w.heap.size, 5, none⟩ = some (.int .i64 c.kl)) := by
    show _ = _
    rw [cell_of_row _ _ 5 _ 45 (0, 0) (heap_alloc_new w _)]; rfl
  go_enter Try.func91, Try.ntmps91
  go_wp2_with fail
  go_region_with (first | (go_at_call 105; refine (hm.out _).mono ?_; rintro e w1 ⟨g, rfl, hg, hc, hb⟩; have hk : w1.cell? ⟨w.heap.size, 5, none⟩ = some (.int .i64 c.kl) := (hb.cell (p := ⟨w.heap.size, 5, none⟩) (by simp)).trans HK.out) | (go_at_call 115; refine (closure_any (mayB c) _ _ _ _ _ hc hs).mono ?_; rintro e w2 ⟨rfl, rfl⟩))
  all_goals
    go_wp2
    go_ret
    refine ⟨rfl, Below.trans ?_ (Below.mono hb ?_)⟩
    · repeat (first | exact (Below.refl _ _).alloc (Nat.le_refl _) _ | apply Below.drew)
    · simp
end Go.Proofs.Ytoinjnocopejjaa
