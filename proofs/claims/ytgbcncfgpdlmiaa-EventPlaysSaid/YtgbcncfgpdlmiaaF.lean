/- New, Invoke, Mark, Return. -/
import Derived.Test.YtgbcncfgpdlmiaaE
namespace Go.Proofs.Ytgbcncfgpdlmiaa
open Go.ChangeShapes Go.WideShapes Go.ChangeAt Go.RowKit Go.Maps
set_option linter.unusedVariables false
set_option linter.unusedSimpArgs false

theorem built31 : Try.prog.built 31 [] = some #[.int .i64 0, .bool false, .string { data := #[] }, .slice none 0 0] := by kernel_rfl
theorem built72 (t : Int) : Try.prog.built 72 [(0, .int .i64 t)] = some #[.int .i64 t, .int .i64 0, .int .i64 0, .int .i64 0, .int .i64 0, .int .i64 0, .int .i64 0, .slice none 0 0] := by kernel_rfl
set_option maxRecDepth 100000 in
set_option maxHeartbeats 4000000 in
theorem may_any (x : Int) (w : World) : Calls Try.prog 37 #[.int .i64 x] w fun e w' => e = .returned (.bool (decide (1 ≤ x ∧ x ≤ 6))) ∧ w = w' := by
  by_cases h1 : 1 ≤ x
  · by_cases h2 : x ≤ 6
    · have d1 : decide (1 ≤ x) = true := decide_eq_true h1
      have d2 : decide (x ≤ 6) = true := decide_eq_true h2
      have HV : Hid (decide (1 ≤ x ∧ x ≤ 6) = true) := decide_eq_true ⟨h1, h2⟩
      rw [HV.out]
      clear h1 h2
      go_enter Try.func37, Try.ntmps37
      go_wp2
      go_ret
      exact ⟨rfl, rfl⟩
    · have d1 : decide (1 ≤ x) = true := decide_eq_true h1
      have d2 : decide (x ≤ 6) = false := decide_eq_false h2
      have HV : Hid (decide (1 ≤ x ∧ x ≤ 6) = false) := decide_eq_false (fun h => h2 h.2)
      rw [HV.out]
      clear h1 h2
      go_enter Try.func37, Try.ntmps37
      go_wp2
      go_ret
      exact ⟨rfl, rfl⟩
  · have d1 : decide (1 ≤ x) = false := decide_eq_false h1
    have HV : Hid (decide (1 ≤ x ∧ x ≤ 6) = false) := decide_eq_false (fun h => h1 h.1)
    rw [HV.out]
    clear h1
    go_enter Try.func37, Try.ntmps37
    go_wp2
    go_ret
    exact ⟨rfl, rfl⟩
set_option maxRecDepth 100000 in
set_option maxHeartbeats 4000000 in
theorem new_no (x : Int) (w : World) (hx : ¬ (1 ≤ x ∧ x ≤ 6)) : Calls Try.prog 17 #[.int .i64 x] w fun e w' => e = .returned (.tuple #[.pointer none, .int .i64 1]) ∧ w = w' := by
  have HM := Lib.hid (may_any x w)
  rw [decide_eq_false hx] at HM
  clear hx
  go_enter Try.func17, Try.ntmps17
  go_wp2_with fail
  refine HM.out.mono ?_
  rintro e w1 ⟨rfl, rfl⟩
  go_wp2
  go_ret2
  exact ⟨rfl, rfl⟩
def NwEnd (tasks : Int) (w : World) (e : Ending) (w' : World) : Prop := ∃ p, e = .returned (.tuple #[.pointer (some ⟨p, 0, none⟩), .int .i64 0]) ∧ RcAt w' w.heap.size p tasks (.slice none 0 0) [] ∧ Below w.heap.size w w'
set_option maxRecDepth 100000 in
set_option maxHeartbeats 4000000 in
theorem new_any (tasks : Int) (w : World) (h1 : 1 ≤ tasks) (h6 : tasks ≤ 6) : Calls Try.prog 17 #[.int .i64 tasks] w (NwEnd tasks w) := by
  have HM := Lib.hid (may_any tasks w)
  rw [decide_eq_true ⟨h1, h6⟩] at HM
  have hbt := built72 tasks
  have hb : Below w.heap.size w (w.alloc (.cells #[.int .i64 tasks, .int .i64 0, .int .i64 0, .int .i64 0, .int .i64 0, .int .i64 0, .int .i64 0, .slice none 0 0] 72)) := (Below.refl _ _).alloc (Nat.le_refl _) _
  have HR : Hid (RcAt (w.alloc (.cells #[.int .i64 tasks, .int .i64 0, .int .i64 0, .int .i64 0, .int .i64 0, .int .i64 0, .int .i64 0, .slice none 0 0] 72)) w.heap.size w.heap.size tasks (.slice none 0 0) []) := ⟨Nat.le_refl _, Blk.new _ _ _, EvO.nil _ _⟩
  have HB := Lib.hid hb
  clear hb h1 h6
  go_enter Try.func17, Try.ntmps17
  go_wp2_with fail
  refine HM.out.mono ?_
  rintro e w1 ⟨rfl, rfl⟩
  go_wp2_with (first
    | (refine wpl_build rfl 72 _ rfl _ hbt ?_)
    | fail)
  go_ret2
  exact ⟨_, rfl, HR.out, HB.out⟩
set_option maxRecDepth 100000 in
set_option maxHeartbeats 4000000 in
theorem invoke_any (B p : Nat) (tasks : Int) (v : Value) (Rs : List RE) (w : World) (h : RcAt w B p tasks v Rs) (hB : B ≤ w.heap.size) (h6 : tasks ≤ 6) (t : Int) (hl : Rs.length ≤ 100000) : Calls Try.prog 12 #[.pointer (some ⟨p, 0, none⟩), .int .i64 t] w (AdEnd B p tasks v Rs 1 t an0 w) := by
  have HA := Lib.hid (add_any B p tasks v Rs w h hB h6 1 t 0 false { data := #[] } [] none 0 0 (fun W _ => PO.empty W) (by omega) hl)
  have hbt := built31
  clear h
  go_enter Try.func12, Try.ntmps12
  go_wp2_with (first
    | (refine wpl_build rfl 31 _ rfl _ hbt ?_)
    | fail)
  refine HA.out.mono ?_
  rintro e w1 ⟨rfl, hh⟩
  have HH := Lib.hid hh
  clear hh
  go_wp2
  go_ret
  exact ⟨rfl, HH.out⟩
set_option maxRecDepth 100000 in
set_option maxHeartbeats 4000000 in
theorem mark_any (B p : Nat) (tasks : Int) (v : Value) (Rs : List RE) (w : World) (h : RcAt w B p tasks v Rs) (hB : B ≤ w.heap.size) (h6 : tasks ≤ 6) (t : Int) (hl : Rs.length ≤ 100000) : Calls Try.prog 13 #[.pointer (some ⟨p, 0, none⟩), .int .i64 t] w (AdEnd B p tasks v Rs 2 t an0 w) := by
  have HA := Lib.hid (add_any B p tasks v Rs w h hB h6 2 t 0 false { data := #[] } [] none 0 0 (fun W _ => PO.empty W) (by omega) hl)
  have hbt := built31
  clear h
  go_enter Try.func13, Try.ntmps13
  go_wp2_with (first
    | (refine wpl_build rfl 31 _ rfl _ hbt ?_)
    | fail)
  refine HA.out.mono ?_
  rintro e w1 ⟨rfl, hh⟩
  have HH := Lib.hid hh
  clear hh
  go_wp2
  go_ret
  exact ⟨rfl, HH.out⟩
set_option maxRecDepth 100000 in
set_option maxHeartbeats 4000000 in
theorem return_any (B p : Nat) (tasks : Int) (v : Value) (Rs : List RE) (w : World) (h : RcAt w B p tasks v Rs) (hB : B ≤ w.heap.size) (h6 : tasks ≤ 6) (t er : Int) (fo : Bool) (va : ByteArray) (ps : List Pr) (A : Option Addr) (n c : Nat) (hp : ∀ W, FrR w W p v → PO W (A, n, c) ps) (hn : n ≤ 100000) (hl : Rs.length ≤ 100000) :
    Calls Try.prog 14 #[.pointer (some ⟨p, 0, none⟩), .int .i64 t, .agg #[.int .i64 er, .bool fo, .string va, .slice A n c]] w (AdEnd B p tasks v Rs 3 t (er, fo, va, ps) w) := by
  have hb : Below w.heap.size w (w.alloc (.cells #[.int .i64 er, .bool fo, .string va, .slice A n c] 31)) := (Below.refl _ _).alloc (Nat.le_refl _) _
  have HB := Lib.hid hb
  have HA := Lib.hid (add_any B p tasks v Rs (w.alloc (.cells #[.int .i64 er, .bool fo, .string va, .slice A n c] 31)) (h.later hb) (Nat.le_trans hB hb.size) h6 3 t er fo va ps A n c (fun W hf => hp W ((FrR.of_below hb).trans hf Nw.refl)) hn hl)
  clear h hb hp
  go_enter Try.func14, Try.ntmps14
  go_wp2_with fail
  refine HA.out.mono ?_
  rintro e w1 ⟨rfl, v', Rs', h1, h2, h3, h4⟩
  have HH : Hid (∃ v' Rs', RcAt w1 B p tasks v' Rs' ∧ Rs'.map Prod.fst = addL tasks (Rs.map Prod.fst) 3 t (er, fo, va, ps) ∧ FrR w w1 p v ∧ Nw w v v') := ⟨v', Rs', h1, h2, (FrR.of_below HB.out).trans h3 Nw.refl, fun k e => (h4 k e).imp id (fun e => Nat.le_trans HB.out.size e)⟩
  clear h1 h2 h3 h4
  go_wp2
  go_ret
  exact ⟨rfl, HH.out⟩
end Go.Proofs.Ytgbcncfgpdlmiaa
