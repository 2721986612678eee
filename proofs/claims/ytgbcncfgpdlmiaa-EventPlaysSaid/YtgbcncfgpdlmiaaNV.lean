/- Nobody's recorder; what is under way. -/
import Derived.Test.YtgbcncfgpdlmiaaWO
namespace Go.Proofs.Ytgbcncfgpdlmiaa
open Go.ChangeShapes Go.WideShapes Go.ChangeAt Go.RowKit Go.Maps
set_option linter.unusedVariables false
set_option linter.unusedSimpArgs false

set_option maxRecDepth 100000 in
set_option maxHeartbeats 4000000 in
theorem add_nil (wh t er : Int) (fo : Bool) (va : ByteArray) (A : Option Addr) (n c : Nat) (w : World) : Calls Try.prog 34 #[.pointer none, .int .u8 wh, .int .i64 t, .agg #[.int .i64 er, .bool fo, .string va, .slice A n c]] w fun e w' => e = .returned (.int .i64 2) ∧ Below w.heap.size w w' := by
  have HB : Hid (Below w.heap.size w (w.alloc (.cells #[.int .i64 er, .bool fo, .string va, .slice A n c] 31))) := (Below.refl _ _).alloc (Nat.le_refl _) _
  go_enter Try.func34, Try.ntmps34
  go_wp2
  go_ret
  exact ⟨rfl, HB.out⟩
set_option maxRecDepth 100000 in
set_option maxHeartbeats 4000000 in
theorem inv_nil (t : Int) (w : World) : Calls Try.prog 12 #[.pointer none, .int .i64 t] w fun e w' => e = .returned (.int .i64 2) ∧ Below w.heap.size w w' := by
  have hbt := built31
  go_enter Try.func12, Try.ntmps12
  go_wp2_with (first
    | (refine wpl_build rfl 31 _ rfl _ hbt ?_)
    | fail)
  refine (add_nil 1 t 0 false _ none 0 0 w).mono ?_
  rintro e w1 ⟨rfl, hb⟩
  have HB := Lib.hid hb
  clear hb
  go_wp2
  go_ret
  exact ⟨rfl, HB.out⟩
set_option maxRecDepth 100000 in
set_option maxHeartbeats 4000000 in
theorem mark_nil (t : Int) (w : World) : Calls Try.prog 13 #[.pointer none, .int .i64 t] w fun e w' => e = .returned (.int .i64 2) ∧ Below w.heap.size w w' := by
  have hbt := built31
  go_enter Try.func13, Try.ntmps13
  go_wp2_with (first
    | (refine wpl_build rfl 31 _ rfl _ hbt ?_)
    | fail)
  refine (add_nil 2 t 0 false _ none 0 0 w).mono ?_
  rintro e w1 ⟨rfl, hb⟩
  have HB := Lib.hid hb
  clear hb
  go_wp2
  go_ret
  exact ⟨rfl, HB.out⟩
set_option maxRecDepth 100000 in
set_option maxHeartbeats 4000000 in
theorem ret_nil (t er : Int) (fo : Bool) (va : ByteArray) (A : Option Addr) (n c : Nat) (w : World) : Calls Try.prog 14 #[.pointer none, .int .i64 t, .agg #[.int .i64 er, .bool fo, .string va, .slice A n c]] w fun e w' => e = .returned (.int .i64 2) ∧ Below w.heap.size w w' := by
  have HB : Hid (Below w.heap.size w (w.alloc (.cells #[.int .i64 er, .bool fo, .string va, .slice A n c] 31))) := (Below.refl _ _).alloc (Nat.le_refl _) _
  go_enter Try.func14, Try.ntmps14
  go_wp2_with fail
  refine (add_nil 3 t er fo va A n c _).mono ?_
  rintro e w1 ⟨rfl, hb⟩
  have HB1 := Lib.hid (stepB HB.out hb)
  clear hb
  go_wp2
  go_ret
  exact ⟨rfl, HB1.out⟩
set_option maxRecDepth 100000 in
set_option maxHeartbeats 4000000 in
theorem events_nil (w : World) : Calls Try.prog 15 #[.pointer none] w fun e w' => e = .returned (.slice none 0 0) ∧ Below w.heap.size w w' := by
  go_enter Try.func15, Try.ntmps15
  go_wp2
  go_ret
  exact ⟨rfl, Below.refl _ _⟩
set_option maxRecDepth 100000 in
set_option maxHeartbeats 4000000 in
theorem copy_nil (w : World) : Calls Try.prog 16 #[.pointer none] w fun e w' => e = .returned (.pointer none) ∧ Below w.heap.size w w' := by
  go_enter Try.func16, Try.ntmps16
  go_wp2
  go_ret
  exact ⟨rfl, Below.refl _ _⟩
set_option maxRecDepth 100000 in
set_option maxHeartbeats 4000000 in
theorem under_nil (t : Int) (w : World) : Calls Try.prog 10 #[.pointer none, .int .i64 t] w fun e w' => e = .returned (.tuple #[.int .i64 0, .bool false, .bool false]) ∧ Below w.heap.size w w' := by
  go_enter Try.func10, Try.ntmps10
  go_wp2
  go_ret3
  exact ⟨rfl, Below.refl _ _⟩
/-- what is under way of a task -/
def undV (tasks : Int) (L : List Ev) (t : Int) : Int × Bool × Bool := if t < 0 ∨ tasks ≤ t then (0, false, false) else if cnt L t % 3 = 0 then (0, false, false) else (((cnt L t / 3 : Nat) : Int), decide (cnt L t % 3 = 2), true)
def unV (x : Int × Bool × Bool) : Value := .tuple #[.int .i64 x.1, .bool x.2.1, .bool x.2.2]
set_option maxRecDepth 100000 in
set_option maxHeartbeats 4000000 in
theorem under_any (B p : Nat) (tasks : Int) (v : Value) (Rs : List RE) (w : World) (h : RcAt w B p tasks v Rs) (h6 : tasks ≤ 6) (hl : Rs.length ≤ 100000) (t : Int) : Calls Try.prog 10 #[.pointer (some ⟨p, 0, none⟩), .int .i64 t] w fun e w' => e = .returned (unV (undV tasks (Rs.map Prod.fst) t)) ∧ Below w.heap.size w w' := by
  have c0 := h.blk.cell 0
  simp only [recc, List.cons_append, List.getElem?_toArray, List.getElem?_cons_zero] at c0
  by_cases h0 : t < 0
  · have e1 : undV tasks (Rs.map Prod.fst) t = (0, false, false) := if_pos (.inl h0)
    rw [e1]
    have d1 : decide (t < 0) = true := decide_eq_true h0
    clear h e1 h0
    go_enter Try.func10, Try.ntmps10
    go_wp2
    go_ret3
    exact ⟨rfl, Below.refl _ _⟩
  by_cases h1 : tasks ≤ t
  · have e1 : undV tasks (Rs.map Prod.fst) t = (0, false, false) := if_pos (.inr h1)
    rw [e1]
    have d1 : decide (t < 0) = false := decide_eq_false h0
    have d2 : decide (tasks ≤ t) = true := decide_eq_true h1
    clear h e1 h0 h1
    go_enter Try.func10, Try.ntmps10
    go_wp2
    go_ret3
    exact ⟨rfl, Below.refl _ _⟩
  obtain ⟨k, rfl⟩ : ∃ k : Nat, t = (k : Int) := ⟨t.toNat, by omega⟩
  have hk : k < 6 := by omega
  obtain ⟨n, hn⟩ : ∃ n, cnt (Rs.map Prod.fst) (k : Int) = n := ⟨_, rfl⟩
  have hnl : n ≤ 100000 := by
    rw [← hn]
    have := cnt_le (Rs.map Prod.fst) (k : Int)
    rw [List.length_map] at this
    omega
  have HNX : Hid (Calls Try.prog 33 #[.pointer (some ⟨p, 1, none⟩), .int .i64 (k : Int)] w (NxEnd n (k : Int) w)) := by
    refine next_any p 1 n (k : Int) w (by omega) (by omega) (by omega) ?_
    have h2 := h.blk.cell (1 + k)
    rw [List.getElem?_toArray, recc_at hk, hn] at h2
    rw [Int.toNat_natCast]
    exact h2
  have hu : undV tasks (Rs.map Prod.fst) (k : Int) = if n % 3 = 0 then (0, false, false) else (((n / 3 : Nat) : Int), decide (n % 3 = 2), true) := by
    unfold undV
    rw [if_neg (by omega), hn]
  obtain ⟨r, hr⟩ : ∃ r, undV tasks (Rs.map Prod.fst) (k : Int) = r := ⟨_, rfl⟩
  rw [hr] at hu ⊢
  have d1 : decide ((k : Int) < 0) = false := decide_eq_false h0
  have d2 : decide (tasks ≤ (k : Int)) = false := decide_eq_false h1
  clear h h0 h1 hn hl hr
  go_enter Try.func10, Try.ntmps10
  go_wp2_with fail
  refine HNX.out.mono ?_
  rintro e w1 ⟨rfl, hb⟩
  obtain ⟨m, hm⟩ : ∃ m, n % 3 = m := ⟨_, rfl⟩
  have hm3 : m < 3 := by omega
  rw [hm] at hu ⊢
  have HR := Lib.hid hu
  clear hu
  have HB1 := Lib.hid hb
  have HB2 : Hid (Below w.heap.size w (w1.alloc (.cells #[.int .u8 (1 + (m : Nat)), .int .i64 (k : Int), .int .i64 (n / 3 : Nat), .int .i64 0, .bool false, .string { data := #[] }, .slice none 0 0] 40))) := hb.alloc hb.size _
  clear hb hm HNX d1 d2 c0
  match m, hm3 with
  | 0, _ =>
    go_wp2
    go_ret3
    exact ⟨by rw [show r = (0, false, false) from HR.out]; rfl, HB2.out⟩
  | 1, _ =>
    go_wp2
    go_quiet (fail)
    go_wp2
    go_ret3
    exact ⟨by rw [show r = (((n / 3 : Nat) : Int), false, true) from HR.out]; rfl, below_drewN HB2.out _⟩
  | 2, _ =>
    go_wp2
    go_quiet (fail)
    go_wp2
    go_ret3
    exact ⟨by rw [show r = (((n / 3 : Nat) : Int), true, true) from HR.out]; rfl, below_drewN HB2.out _⟩
end Go.Proofs.Ytgbcncfgpdlmiaa
