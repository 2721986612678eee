/- Package view's Of. -/
import Derived.Test.YthicofdbcldpaaaE
import Derived.Test.YthicofdbcldpaaaS
import Derived.Lib.OwnBridge
import Derived.Laws.CopyOwn
import Derived.Laws.MakeOwn
namespace Go.Proofs.Ythicofdbcldpaaa
open Go.ChangeShapes Go.WideShapes Go.ChangeAt Go.RowKit Go.Shelf Go.Sort Go.Lib
set_option linter.unusedVariables false
theorem drop_low {own high x : Int} (h : x < 1) : dropB own high x = true := by unfold dropB; rw [decide_eq_true h]; rfl
theorem drop_high {own high x : Int} (h : ¬ x < 1) (h2 : high ≤ x) : dropB own high x = true := by unfold dropB; rw [decide_eq_true h2]; simp
theorem drop_own {own high x : Int} (h : ¬ x < 1) (h2 : ¬ high ≤ x) : dropB own high x = (x == own) := by
  unfold dropB; rw [decide_eq_false h, decide_eq_false h2]; simp [BEq.beq]
set_option maxHeartbeats 1000000 in
theorem drops_any (own high x : Int) (B0 B1 : Nat) (W : World) (h0 : W.cell? ⟨B0, 0, none⟩ = some (.int .i64 own)) (h1 : W.cell? ⟨B1, 0, none⟩ = some (.int .i64 high)) :
    FnGives Try.prog 21 #[.pointer (some ⟨B1, 0, none⟩), .pointer (some ⟨B0, 0, none⟩)] #[.int .i64 x] (.bool (dropB own high x)) W := by
  show Calls Try.prog 21 #[.int .i64 x, .pointer (some ⟨B1, 0, none⟩), .pointer (some ⟨B0, 0, none⟩)] W _
  by_cases c1 : x < 1
  · rw [drop_low c1]
    have d1 : decide (x < 1) = true := decide_eq_true c1
    go_enter Try.func21, Try.ntmps21
    go_wp2
    go_ret
    exact ⟨rfl, 0, rfl⟩
  · have d1 : decide (x < 1) = false := decide_eq_false c1
    by_cases c2 : high ≤ x
    · rw [drop_high c1 c2]
      have d2 : decide (high ≤ x) = true := decide_eq_true c2
      go_enter Try.func21, Try.ntmps21
      go_wp2
      go_ret
      exact ⟨rfl, 0, rfl⟩
    · rw [drop_own c1 c2]
      have d2 : decide (high ≤ x) = false := decide_eq_false c2
      generalize hz : (x == own) = z
      go_enter Try.func21, Try.ntmps21
      go_wp2
      go_ret
      exact ⟨rfl, 0, rfl⟩
theorem drops_at (own high : Int) (B0 B1 : Nat) (w : World) (hB0 : B0 < w.heap.size) (hB1 : B1 < w.heap.size) (h0 : w.cell? ⟨B0, 0, none⟩ = some (.int .i64 own)) (h1 : w.cell? ⟨B1, 0, none⟩ = some (.int .i64 high)) :
    PredAt Try.prog 21 #[.pointer (some ⟨B1, 0, none⟩), .pointer (some ⟨B0, 0, none⟩)] (Value.int .i64) (dropB own high) w :=
  fun W x hb => drops_any own high x B0 B1 W ((hb.cell (p := ⟨B0, 0, none⟩) hB0).trans h0) ((hb.cell (p := ⟨B1, 0, none⟩) hB1).trans h1)
theorem drops_over (own high : Int) (B0 B1 blk off size : Nat) (w : World) (hB0 : B0 < w.heap.size) (hB1 : B1 < w.heap.size) (n0 : B0 ≠ blk) (n1 : B1 ≠ blk) (h0 : w.cell? ⟨B0, 0, none⟩ = some (.int .i64 own)) (h1 : w.cell? ⟨B1, 0, none⟩ = some (.int .i64 high)) :
    PredOver Try.prog 21 #[.pointer (some ⟨B1, 0, none⟩), .pointer (some ⟨B0, 0, none⟩)] (Value.int .i64) (dropB own high) blk off size w :=
  fun n os dk x _ => drops_any own high x B0 B1 _ (by
    unfold sortWorld
    rw [cell?_grow _ _ _ (by show B0 < (putRow _ _ _ _ _).heap.size; rw [size_putRow]; exact hB0), cell?_putRow_other _ _ blk off _ _ (Or.inl n0)]
    exact h0) (by
    unfold sortWorld
    rw [cell?_grow _ _ _ (by show B1 < (putRow _ _ _ _ _).heap.size; rw [size_putRow]; exact hB1), cell?_putRow_other _ _ blk off _ _ (Or.inl n1)]
    exact h1)
/-- a slice that the call made, and what it holds -/
def Own (W : World) (B g cap : Nat) (xs : List Int) : Prop := W.ownsRow B 3 1 (.slice (some ⟨g, 0, none⟩) xs.length cap) xs.length (xs.map (Value.int .i64))
theorem Own.lt {W : World} {B g cap : Nat} {xs : List Int} (h : Own W B g cap xs) : B ≤ g ∧ g < W.heap.size := World.ownsRow.lt h g rfl
theorem Own.ints {W : World} {B g cap : Nat} {xs : List Int} (h : Own W B g cap xs) : Ints W.heap.size W (some ⟨g, 0, none⟩) xs.length xs :=
  ⟨rfl, fun _ => ⟨g, 0, rfl, h.lt.2, fun j hj => by
    have := World.ownsRow.cellAt h j (by omega)
    rw [Nat.zero_add, this, List.getElem?_map, List.getD_eq_getElem?_getD, List.getElem?_eq_getElem hj]; rfl⟩⟩
theorem Own.later {W W' : World} {B g cap : Nat} {xs : List Int} (h : Own W B g cap xs) (hb : Below W.heap.size W W') : Own W' B g cap xs :=
  World.ownsRow.kept h (row := none) ⟨hb.os, hb.tape, hb.output, hb.size, fun k hk _ => hb.block k hk⟩ (by simp [Value.ownBlock])
theorem Own.mono {W : World} {B B' g cap : Nat} {xs : List Int} (h : Own W B g cap xs) (hb : B' ≤ B) : Own W B' g cap xs := by
  obtain ⟨h1, h2⟩ := h
  refine ⟨h1, ?_⟩
  rcases h2 with h2 | ⟨g', cap', cur, e, hB, rest⟩
  · exact .inl h2
  · exact .inr ⟨g', cap', cur, e, Nat.le_trans hb hB, rest⟩
theorem below_of_grownN {w w' : World} (h : w.grownBy w' none) : Below w.heap.size w w' := (Below.refl _ w).grown h (Nat.le_refl _) (fun j e => by cases e)
theorem v3info : (Try.prog.info? 3).map (fun i => (i.zero, i.size, i.bytes)) = some (some (.int .i64 0), 1, 8) := by kernel_rfl
end Go.Proofs.Ythicofdbcldpaaa
