/- Nobody's latches; names in their row. -/
import Derived.Test.YtgjponobiplipaaQ2
namespace Go.Proofs.Ytgjponobiplipaa
open Go.ChangeShapes Go.WideShapes Go.ChangeAt Go.RowKit Go.Maps
set_option linter.unusedVariables false
set_option linter.unusedSimpArgs false

set_option maxRecDepth 100000 in
set_option maxHeartbeats 4000000 in
theorem owner_nil (w : World) : Calls Try.prog 9 #[.pointer none, .agg #[.int .u8 0, .int .u64 0]] w fun x w' => x = .returned (.tuple #[.int .i64 0, .bool false]) ∧ Below w.heap.size w w' := by
  go_enter Try.func9, Try.ntmps9
  go_wp2
  go_ret2
  exact ⟨rfl, by first | exact Below.refl _ _ | exact (Below.refl _ _).alloc (Nat.le_refl _) _⟩
set_option maxRecDepth 100000 in
set_option maxHeartbeats 4000000 in
theorem try_nil (w : World) : Calls Try.prog 11 #[.pointer none, .agg #[.int .u8 0, .int .u64 0], .int .i64 0] w fun x w' => x = .returned (.bool false) ∧ Below w.heap.size w w' := by
  go_enter Try.func11, Try.ntmps11
  go_wp2
  go_ret
  exact ⟨rfl, by first | exact Below.refl _ _ | exact (Below.refl _ _).alloc (Nat.le_refl _) _⟩
set_option maxRecDepth 100000 in
set_option maxHeartbeats 4000000 in
theorem drop_nil (w : World) : Calls Try.prog 12 #[.pointer none, .agg #[.int .u8 0, .int .u64 0], .int .i64 0] w fun x w' => x = .returned (.bool false) ∧ Below w.heap.size w w' := by
  have hb0 : Below w.heap.size w (w.alloc (.cells #[.int .u8 0, .int .u64 0] 27)) := (Below.refl _ _).alloc (Nat.le_refl _) _
  have HB := Lib.hid hb0
  have hX := Blk.new w #[.int .u8 0, .int .u64 0] 27
  have x0 := hX.cell 0
  have x1 := hX.cell 1
  simp only [List.getElem?_toArray, List.getElem?_cons_zero, List.getElem?_cons_succ] at x0 x1
  clear hb0 hX
  go_enter Try.func12, Try.ntmps12
  go_wp2_with fail
  refine (owner_nil _).mono ?_
  rintro x w1 ⟨rfl, hb⟩
  have HB1 := Lib.hid (stepB HB.out hb)
  clear hb HB x0 x1
  go_wp2
  go_ret
  exact ⟨rfl, HB1.out⟩
set_option maxRecDepth 100000 in
set_option maxHeartbeats 4000000 in
theorem held_nil (w : World) : Calls Try.prog 13 #[.pointer none, .int .i64 0] w fun x w' => x = .returned (.slice none 0 0) ∧ Below w.heap.size w w' := by
  go_enter Try.func13, Try.ntmps13
  go_wp2
  go_ret
  exact ⟨rfl, by first | exact Below.refl _ _ | exact (Below.refl _ _).alloc (Nat.le_refl _) _⟩
set_option maxRecDepth 100000 in
set_option maxHeartbeats 4000000 in
theorem all_nil (w : World) : Calls Try.prog 14 #[.pointer none] w fun x w' => x = .returned (.int .i64 0) ∧ Below w.heap.size w w' := by
  go_enter Try.func14, Try.ntmps14
  go_wp2
  go_ret
  exact ⟨rfl, by first | exact Below.refl _ _ | exact (Below.refl _ _).alloc (Nat.le_refl _) _⟩
set_option maxRecDepth 100000 in
set_option maxHeartbeats 4000000 in
theorem copy_nil (w : World) : Calls Try.prog 15 #[.pointer none] w fun x w' => x = .returned (.pointer none) ∧ Below w.heap.size w w' := by
  go_enter Try.func15, Try.ntmps15
  go_wp2
  go_ret
  exact ⟨rfl, by first | exact Below.refl _ _ | exact (Below.refl _ _).alloc (Nat.le_refl _) _⟩
abbrev all6L : List Int := [(4722366482869645213695 : Int), (18446744073709551618 : Int), (36893488147419103233 : Int), (18446744073709551615 : Int), (0 : Int), (18446744073709551874 : Int)]
theorem all6_lit (w6 : World) : NSl (w6.alloc (.cells #[.int .u8 255, .int .u64 18446744073709551615, .int .u8 1, .int .u64 2, .int .u8 2, .int .u64 1, .int .u8 0, .int .u64 18446744073709551615, .int .u8 0, .int .u64 0, .int .u8 1, .int .u64 258] 27)) w6.heap.size (some ⟨w6.heap.size, 0, none⟩) all6L := fun _ => by
  have hB := Blk.new w6 #[.int .u8 255, .int .u64 18446744073709551615, .int .u8 1, .int .u64 2, .int .u8 2, .int .u64 1, .int .u8 0, .int .u64 18446744073709551615, .int .u8 0, .int .u64 0, .int .u8 1, .int .u64 258] 27
  refine ⟨_, rfl, Nat.le_refl _, hB.lt, fun j hj => ?_⟩
  have hj2 : j = 0 ∨ j = 1 ∨ j = 2 ∨ j = 3 ∨ j = 4 ∨ j = 5 := by simp at hj; omega
  rcases hj2 with rfl | rfl | rfl | rfl | rfl | rfl
  · exact ⟨hB.cell _, hB.cell _, hB.frozen _, hB.frozen _⟩
  · exact ⟨hB.cell _, hB.cell _, hB.frozen _, hB.frozen _⟩
  · exact ⟨hB.cell _, hB.cell _, hB.frozen _, hB.frozen _⟩
  · exact ⟨hB.cell _, hB.cell _, hB.frozen _, hB.frozen _⟩
  · exact ⟨hB.cell _, hB.cell _, hB.frozen _, hB.frozen _⟩
  · exact ⟨hB.cell _, hB.cell _, hB.frozen _, hB.frozen _⟩
abbrev srt6L : List Int := [(0 : Int), (18446744073709551615 : Int), (18446744073709551618 : Int), (18446744073709551874 : Int), (36893488147419103233 : Int), (4722366482869645213695 : Int)]
theorem srt6_lit (w6 : World) : NSl (w6.alloc (.cells #[.int .u8 0, .int .u64 0, .int .u8 0, .int .u64 18446744073709551615, .int .u8 1, .int .u64 2, .int .u8 1, .int .u64 258, .int .u8 2, .int .u64 1, .int .u8 255, .int .u64 18446744073709551615] 37)) w6.heap.size (some ⟨w6.heap.size, 0, none⟩) srt6L := fun _ => by
  have hB := Blk.new w6 #[.int .u8 0, .int .u64 0, .int .u8 0, .int .u64 18446744073709551615, .int .u8 1, .int .u64 2, .int .u8 1, .int .u64 258, .int .u8 2, .int .u64 1, .int .u8 255, .int .u64 18446744073709551615] 37
  refine ⟨_, rfl, Nat.le_refl _, hB.lt, fun j hj => ?_⟩
  have hj2 : j = 0 ∨ j = 1 ∨ j = 2 ∨ j = 3 ∨ j = 4 ∨ j = 5 := by simp at hj; omega
  rcases hj2 with rfl | rfl | rfl | rfl | rfl | rfl
  · exact ⟨hB.cell _, hB.cell _, hB.frozen _, hB.frozen _⟩
  · exact ⟨hB.cell _, hB.cell _, hB.frozen _, hB.frozen _⟩
  · exact ⟨hB.cell _, hB.cell _, hB.frozen _, hB.frozen _⟩
  · exact ⟨hB.cell _, hB.cell _, hB.frozen _, hB.frozen _⟩
  · exact ⟨hB.cell _, hB.cell _, hB.frozen _, hB.frozen _⟩
  · exact ⟨hB.cell _, hB.cell _, hB.frozen _, hB.frozen _⟩
theorem NSl.other {W W' : World} {B B' p b : Nat} {A : Option Addr} {L : List Int} {C : List Ct} (h : NSl W B A L) (o : LaAt W B' p b C) (hg : W.grownBy W' (some b)) : NSl W' B A L := fun hL => by
  obtain ⟨g, hA, hB, hlt, hc⟩ := h hL
  have hne : g ≠ b := fun e => by
    obtain ⟨es, clock, hm, _⟩ := o.own.2
    have hx := (hc 0 hL).1
    rw [e] at hx
    simp [World.cell?, hm] at hx
  have e := hg.block g hlt (fun e => hne (Option.some.inj e))
  refine ⟨g, hA, hB, Nat.lt_of_lt_of_le hlt hg.size, fun j hj => ?_⟩
  obtain ⟨c1, c2, c3, c4⟩ := hc j hj
  exact ⟨(World.cell?_of_block (a := ⟨g, j * 2, none⟩) e).trans c1, (World.cell?_of_block (a := ⟨g, j * 2 + 1, none⟩) e).trans c2, (World.frozen?_of_block (a := ⟨g, j * 2, none⟩) e).trans c3, (World.frozen?_of_block (a := ⟨g, j * 2 + 1, none⟩) e).trans c4⟩
/-- what is held behind k names -/
def cK : Nat → List Ct
  | 0 => []
  | k + 1 => tryS (cK k) (all6L.getD k 0) (-5)
theorem cK_step : ∀ k, k < 6 → tryB (cK k) (all6L.getD k 0) (-5) = true ∧ tryB (cK (k + 1)) (all6L.getD k 0) 5 = false ∧ tryS (cK (k + 1)) (all6L.getD k 0) 5 = cK (k + 1) ∧ (cK (k + 1)).length = k + 1 ∧ (cK k).length = k := by decide +kernel
theorem cK_rg : ∀ k, k < 6 → rg (all6L.getD k 0) := by
  have h : ∀ k, k < 6 → 0 ≤ all6L.getD k 0 ∧ all6L.getD k 0 < 4722366482869645213696 := by decide +kernel
  exact h
theorem cK_held : heldC (cK 6) (-5) = srt6L ∧ heldC (cK 6) 5 = [] ∧ (cK 6).length = 6 := by decide +kernel
end Go.Proofs.Ytgjponobiplipaa
