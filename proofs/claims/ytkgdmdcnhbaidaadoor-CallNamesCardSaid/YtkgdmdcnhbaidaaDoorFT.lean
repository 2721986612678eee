/- fits: the bounds of a config. -/
import Derived.Test.YtkgdmdcnhbaidaaDoorR6
namespace Go.Proofs.YtkgdmdcnhbaidaaDoor
open Go.ChangeShapes Go.WideShapes Go.ChangeAt Go.RowKit
set_option linter.unusedVariables false
set_option linter.unusedSimpArgs false

def fitE (p : Cl × Int) : List Value := clE p.1 ++ [.int .i64 p.2]
theorem fitE_len (p : Cl × Int) : (fitE p).length = 8 := rfl
def fitD : List (Cl × Int) := [((2, 0, { data := #[97, 98] }, { data := #[] }, { data := #[108, 111, 110, 103] }, 0, 0), 0), ((2, 0, { data := #[] }, { data := #[] }, { data := #[] }, 0, 0), 32), ((3, 0, { data := #[97] }, { data := #[] }, { data := #[98] }, 0, 0), 0), ((3, 0, { data := #[97] }, { data := #[] }, { data := #[98, 98] }, 0, 0), 32), ((4, 0, { data := #[97, 98, 99] }, { data := #[] }, { data := #[] }, 0, 0), 32), ((5, 0, { data := #[97, 98] }, { data := #[97, 98] }, { data := #[] }, 128, 0), 0), ((5, 0, { data := #[97, 98, 99] }, { data := #[] }, { data := #[] }, 0, 0), 32), ((5, 0, { data := #[] }, { data := #[97, 98, 99] }, { data := #[] }, 0, 0), 32), ((5, 0, { data := #[] }, { data := #[] }, { data := #[] }, 129, 0), 32), ((5, 0, { data := #[] }, { data := #[] }, { data := #[] }, -1, 0), 32), ((1, 0, { data := #[97, 98, 99] }, { data := #[] }, { data := #[] }, 0, 0), 0), ((6, 0, { data := #[] }, { data := #[] }, { data := #[108, 111, 110, 103] }, 0, 0), 0), ((77, 0, { data := #[97, 98, 99] }, { data := #[] }, { data := #[] }, 0, 0), 0)]
def cfN : Conf := ⟨1, 1, 1, 2, 1, 2, 1, 2⟩
def fitOK (p : Cl × Int) : Bool := decide ((if fitC cfW p.1 then (0 : Int) else 32) = p.2) && ((!fitC cfN p.1) == (decide (2 ≤ p.1.1) && decide (p.1.1 ≤ 5))) && decide (p.1.1 ≤ 255) && decide (p.1.2.2.1.size ≤ 10) && decide (p.1.2.2.2.1.size ≤ 10) && decide (p.1.2.2.2.2.1.size ≤ 10)
theorem fitD_ok : fitD.all fitOK = true := by decide +kernel
set_option maxRecDepth 100000 in
theorem idx82 (g m c k : Nat) (i : Int) (hi : i = (k : Int)) (h : k < m) (W : World) : (Instr.indexAt 82 (.slice (some ⟨g, 0, none⟩) m c) (.int .i64 i)).run Tryd.prog W = .ok (.pointer (some ⟨g, k * 8, none⟩)) W := by
  subst hi
  have h1 : (0 : Int) ≤ (k : Int) ∧ (k : Int) < (m : Int) := by omega
  go_simp
set_option maxRecDepth 100000 in
set_option maxHeartbeats 16000000 in
theorem fits19 (w : World) (hg : Gl w) : Calls Tryd.prog 19 #[] w fun e w' => e = .returned (.bool true) ∧ Below w.heap.size w w' := by
  have b1 : Below w.heap.size w (w.alloc (.cells #[.int .i64 1, .int .i64 1, .int .i64 1, .int .i64 2, .int .i64 1, .int .i64 2, .int .i64 1, .int .i64 3] 52)) := (Below.refl _ _).alloc (Nat.le_refl _) _
  have b2 : Below (w.alloc (.cells #[.int .i64 1, .int .i64 1, .int .i64 1, .int .i64 2, .int .i64 1, .int .i64 2, .int .i64 1, .int .i64 3] 52)).heap.size (w.alloc (.cells #[.int .i64 1, .int .i64 1, .int .i64 1, .int .i64 2, .int .i64 1, .int .i64 2, .int .i64 1, .int .i64 3] 52)) ((w.alloc (.cells #[.int .i64 1, .int .i64 1, .int .i64 1, .int .i64 2, .int .i64 1, .int .i64 2, .int .i64 1, .int .i64 3] 52)).alloc (.cells #[.int .i64 1, .int .i64 1, .int .i64 1, .int .i64 2, .int .i64 1, .int .i64 2, .int .i64 1, .int .i64 2] 52)) := (Below.refl _ _).alloc (Nat.le_refl _) _
  have b3 : Below ((w.alloc (.cells #[.int .i64 1, .int .i64 1, .int .i64 1, .int .i64 2, .int .i64 1, .int .i64 2, .int .i64 1, .int .i64 3] 52)).alloc (.cells #[.int .i64 1, .int .i64 1, .int .i64 1, .int .i64 2, .int .i64 1, .int .i64 2, .int .i64 1, .int .i64 2] 52)).heap.size ((w.alloc (.cells #[.int .i64 1, .int .i64 1, .int .i64 1, .int .i64 2, .int .i64 1, .int .i64 2, .int .i64 1, .int .i64 3] 52)).alloc (.cells #[.int .i64 1, .int .i64 1, .int .i64 1, .int .i64 2, .int .i64 1, .int .i64 2, .int .i64 1, .int .i64 2] 52)) (((w.alloc (.cells #[.int .i64 1, .int .i64 1, .int .i64 1, .int .i64 2, .int .i64 1, .int .i64 2, .int .i64 1, .int .i64 3] 52)).alloc (.cells #[.int .i64 1, .int .i64 1, .int .i64 1, .int .i64 2, .int .i64 1, .int .i64 2, .int .i64 1, .int .i64 2] 52)).alloc (.cells #[.int .u8 2, .int .i64 0, .string { data := #[97, 98] }, .string { data := #[] }, .string { data := #[108, 111, 110, 103] }, .int .i64 0, .int .u8 0, .int .i64 0, .int .u8 2, .int .i64 0, .string { data := #[] }, .string { data := #[] }, .string { data := #[] }, .int .i64 0, .int .u8 0, .int .i64 32, .int .u8 3, .int .i64 0, .string { data := #[97] }, .string { data := #[] }, .string { data := #[98] }, .int .i64 0, .int .u8 0, .int .i64 0, .int .u8 3, .int .i64 0, .string { data := #[97] }, .string { data := #[] }, .string { data := #[98, 98] }, .int .i64 0, .int .u8 0, .int .i64 32, .int .u8 4, .int .i64 0, .string { data := #[97, 98, 99] }, .string { data := #[] }, .string { data := #[] }, .int .i64 0, .int .u8 0, .int .i64 32, .int .u8 5, .int .i64 0, .string { data := #[97, 98] }, .string { data := #[97, 98] }, .string { data := #[] }, .int .i64 128, .int .u8 0, .int .i64 0, .int .u8 5, .int .i64 0, .string { data := #[97, 98, 99] }, .string { data := #[] }, .string { data := #[] }, .int .i64 0, .int .u8 0, .int .i64 32, .int .u8 5, .int .i64 0, .string { data := #[] }, .string { data := #[97, 98, 99] }, .string { data := #[] }, .int .i64 0, .int .u8 0, .int .i64 32, .int .u8 5, .int .i64 0, .string { data := #[] }, .string { data := #[] }, .string { data := #[] }, .int .i64 129, .int .u8 0, .int .i64 32, .int .u8 5, .int .i64 0, .string { data := #[] }, .string { data := #[] }, .string { data := #[] }, .int .i64 (-1), .int .u8 0, .int .i64 32, .int .u8 1, .int .i64 0, .string { data := #[97, 98, 99] }, .string { data := #[] }, .string { data := #[] }, .int .i64 0, .int .u8 0, .int .i64 0, .int .u8 6, .int .i64 0, .string { data := #[] }, .string { data := #[] }, .string { data := #[108, 111, 110, 103] }, .int .i64 0, .int .u8 0, .int .i64 0, .int .u8 77, .int .i64 0, .string { data := #[97, 98, 99] }, .string { data := #[] }, .string { data := #[] }, .int .i64 0, .int .u8 0, .int .i64 0] 81)) := (Below.refl _ _).alloc (Nat.le_refl _) _
  have HC : Hid (Blk (((w.alloc (.cells #[.int .i64 1, .int .i64 1, .int .i64 1, .int .i64 2, .int .i64 1, .int .i64 2, .int .i64 1, .int .i64 3] 52)).alloc (.cells #[.int .i64 1, .int .i64 1, .int .i64 1, .int .i64 2, .int .i64 1, .int .i64 2, .int .i64 1, .int .i64 2] 52)).alloc (.cells #[.int .u8 2, .int .i64 0, .string { data := #[97, 98] }, .string { data := #[] }, .string { data := #[108, 111, 110, 103] }, .int .i64 0, .int .u8 0, .int .i64 0, .int .u8 2, .int .i64 0, .string { data := #[] }, .string { data := #[] }, .string { data := #[] }, .int .i64 0, .int .u8 0, .int .i64 32, .int .u8 3, .int .i64 0, .string { data := #[97] }, .string { data := #[] }, .string { data := #[98] }, .int .i64 0, .int .u8 0, .int .i64 0, .int .u8 3, .int .i64 0, .string { data := #[97] }, .string { data := #[] }, .string { data := #[98, 98] }, .int .i64 0, .int .u8 0, .int .i64 32, .int .u8 4, .int .i64 0, .string { data := #[97, 98, 99] }, .string { data := #[] }, .string { data := #[] }, .int .i64 0, .int .u8 0, .int .i64 32, .int .u8 5, .int .i64 0, .string { data := #[97, 98] }, .string { data := #[97, 98] }, .string { data := #[] }, .int .i64 128, .int .u8 0, .int .i64 0, .int .u8 5, .int .i64 0, .string { data := #[97, 98, 99] }, .string { data := #[] }, .string { data := #[] }, .int .i64 0, .int .u8 0, .int .i64 32, .int .u8 5, .int .i64 0, .string { data := #[] }, .string { data := #[97, 98, 99] }, .string { data := #[] }, .int .i64 0, .int .u8 0, .int .i64 32, .int .u8 5, .int .i64 0, .string { data := #[] }, .string { data := #[] }, .string { data := #[] }, .int .i64 129, .int .u8 0, .int .i64 32, .int .u8 5, .int .i64 0, .string { data := #[] }, .string { data := #[] }, .string { data := #[] }, .int .i64 (-1), .int .u8 0, .int .i64 32, .int .u8 1, .int .i64 0, .string { data := #[97, 98, 99] }, .string { data := #[] }, .string { data := #[] }, .int .i64 0, .int .u8 0, .int .i64 0, .int .u8 6, .int .i64 0, .string { data := #[] }, .string { data := #[] }, .string { data := #[108, 111, 110, 103] }, .int .i64 0, .int .u8 0, .int .i64 0, .int .u8 77, .int .i64 0, .string { data := #[97, 98, 99] }, .string { data := #[] }, .string { data := #[] }, .int .i64 0, .int .u8 0, .int .i64 0] 81)) w.heap.size #[.int .i64 1, .int .i64 1, .int .i64 1, .int .i64 2, .int .i64 1, .int .i64 2, .int .i64 1, .int .i64 3] 52) := ((Blk.new _ _ _).later b2).later b3
  have HN : Hid (Blk (((w.alloc (.cells #[.int .i64 1, .int .i64 1, .int .i64 1, .int .i64 2, .int .i64 1, .int .i64 2, .int .i64 1, .int .i64 3] 52)).alloc (.cells #[.int .i64 1, .int .i64 1, .int .i64 1, .int .i64 2, .int .i64 1, .int .i64 2, .int .i64 1, .int .i64 2] 52)).alloc (.cells #[.int .u8 2, .int .i64 0, .string { data := #[97, 98] }, .string { data := #[] }, .string { data := #[108, 111, 110, 103] }, .int .i64 0, .int .u8 0, .int .i64 0, .int .u8 2, .int .i64 0, .string { data := #[] }, .string { data := #[] }, .string { data := #[] }, .int .i64 0, .int .u8 0, .int .i64 32, .int .u8 3, .int .i64 0, .string { data := #[97] }, .string { data := #[] }, .string { data := #[98] }, .int .i64 0, .int .u8 0, .int .i64 0, .int .u8 3, .int .i64 0, .string { data := #[97] }, .string { data := #[] }, .string { data := #[98, 98] }, .int .i64 0, .int .u8 0, .int .i64 32, .int .u8 4, .int .i64 0, .string { data := #[97, 98, 99] }, .string { data := #[] }, .string { data := #[] }, .int .i64 0, .int .u8 0, .int .i64 32, .int .u8 5, .int .i64 0, .string { data := #[97, 98] }, .string { data := #[97, 98] }, .string { data := #[] }, .int .i64 128, .int .u8 0, .int .i64 0, .int .u8 5, .int .i64 0, .string { data := #[97, 98, 99] }, .string { data := #[] }, .string { data := #[] }, .int .i64 0, .int .u8 0, .int .i64 32, .int .u8 5, .int .i64 0, .string { data := #[] }, .string { data := #[97, 98, 99] }, .string { data := #[] }, .int .i64 0, .int .u8 0, .int .i64 32, .int .u8 5, .int .i64 0, .string { data := #[] }, .string { data := #[] }, .string { data := #[] }, .int .i64 129, .int .u8 0, .int .i64 32, .int .u8 5, .int .i64 0, .string { data := #[] }, .string { data := #[] }, .string { data := #[] }, .int .i64 (-1), .int .u8 0, .int .i64 32, .int .u8 1, .int .i64 0, .string { data := #[97, 98, 99] }, .string { data := #[] }, .string { data := #[] }, .int .i64 0, .int .u8 0, .int .i64 0, .int .u8 6, .int .i64 0, .string { data := #[] }, .string { data := #[] }, .string { data := #[108, 111, 110, 103] }, .int .i64 0, .int .u8 0, .int .i64 0, .int .u8 77, .int .i64 0, .string { data := #[97, 98, 99] }, .string { data := #[] }, .string { data := #[] }, .int .i64 0, .int .u8 0, .int .i64 0] 81)) (w.heap.size + 1) #[.int .i64 1, .int .i64 1, .int .i64 1, .int .i64 2, .int .i64 1, .int .i64 2, .int .i64 1, .int .i64 2] 52) := (Blk.new2 _ _ 52 (by simp)).later b3
  have HL : Hid (RSl fitE 8 (((w.alloc (.cells #[.int .i64 1, .int .i64 1, .int .i64 1, .int .i64 2, .int .i64 1, .int .i64 2, .int .i64 1, .int .i64 3] 52)).alloc (.cells #[.int .i64 1, .int .i64 1, .int .i64 1, .int .i64 2, .int .i64 1, .int .i64 2, .int .i64 1, .int .i64 2] 52)).alloc (.cells #[.int .u8 2, .int .i64 0, .string { data := #[97, 98] }, .string { data := #[] }, .string { data := #[108, 111, 110, 103] }, .int .i64 0, .int .u8 0, .int .i64 0, .int .u8 2, .int .i64 0, .string { data := #[] }, .string { data := #[] }, .string { data := #[] }, .int .i64 0, .int .u8 0, .int .i64 32, .int .u8 3, .int .i64 0, .string { data := #[97] }, .string { data := #[] }, .string { data := #[98] }, .int .i64 0, .int .u8 0, .int .i64 0, .int .u8 3, .int .i64 0, .string { data := #[97] }, .string { data := #[] }, .string { data := #[98, 98] }, .int .i64 0, .int .u8 0, .int .i64 32, .int .u8 4, .int .i64 0, .string { data := #[97, 98, 99] }, .string { data := #[] }, .string { data := #[] }, .int .i64 0, .int .u8 0, .int .i64 32, .int .u8 5, .int .i64 0, .string { data := #[97, 98] }, .string { data := #[97, 98] }, .string { data := #[] }, .int .i64 128, .int .u8 0, .int .i64 0, .int .u8 5, .int .i64 0, .string { data := #[97, 98, 99] }, .string { data := #[] }, .string { data := #[] }, .int .i64 0, .int .u8 0, .int .i64 32, .int .u8 5, .int .i64 0, .string { data := #[] }, .string { data := #[97, 98, 99] }, .string { data := #[] }, .int .i64 0, .int .u8 0, .int .i64 32, .int .u8 5, .int .i64 0, .string { data := #[] }, .string { data := #[] }, .string { data := #[] }, .int .i64 129, .int .u8 0, .int .i64 32, .int .u8 5, .int .i64 0, .string { data := #[] }, .string { data := #[] }, .string { data := #[] }, .int .i64 (-1), .int .u8 0, .int .i64 32, .int .u8 1, .int .i64 0, .string { data := #[97, 98, 99] }, .string { data := #[] }, .string { data := #[] }, .int .i64 0, .int .u8 0, .int .i64 0, .int .u8 6, .int .i64 0, .string { data := #[] }, .string { data := #[] }, .string { data := #[108, 111, 110, 103] }, .int .i64 0, .int .u8 0, .int .i64 0, .int .u8 77, .int .i64 0, .string { data := #[97, 98, 99] }, .string { data := #[] }, .string { data := #[] }, .int .i64 0, .int .u8 0, .int .i64 0] 81)) (some ⟨w.heap.size + 1 + 1, 0, none⟩) 13 fitD) := Blk.rslL (enc := fitE) (L := fitD) fitE_len (Blk.new2 _ _ 81 (by simp))
  have HB := Lib.hid (stepB (stepB b1 b2) b3)
  have HG := Lib.hid (hg.later HB.out)
  clear hg b1 b2 b3
  go_enter Tryd.func19, Tryd.ntmps19
  go_upto_block 0 with (fail)
  generalize (((w.alloc (.cells #[.int .i64 1, .int .i64 1, .int .i64 1, .int .i64 2, .int .i64 1, .int .i64 2, .int .i64 1, .int .i64 3] 52)).alloc (.cells #[.int .i64 1, .int .i64 1, .int .i64 1, .int .i64 2, .int .i64 1, .int .i64 2, .int .i64 1, .int .i64 2] 52)).alloc (.cells #[.int .u8 2, .int .i64 0, .string { data := #[97, 98] }, .string { data := #[] }, .string { data := #[108, 111, 110, 103] }, .int .i64 0, .int .u8 0, .int .i64 0, .int .u8 2, .int .i64 0, .string { data := #[] }, .string { data := #[] }, .string { data := #[] }, .int .i64 0, .int .u8 0, .int .i64 32, .int .u8 3, .int .i64 0, .string { data := #[97] }, .string { data := #[] }, .string { data := #[98] }, .int .i64 0, .int .u8 0, .int .i64 0, .int .u8 3, .int .i64 0, .string { data := #[97] }, .string { data := #[] }, .string { data := #[98, 98] }, .int .i64 0, .int .u8 0, .int .i64 32, .int .u8 4, .int .i64 0, .string { data := #[97, 98, 99] }, .string { data := #[] }, .string { data := #[] }, .int .i64 0, .int .u8 0, .int .i64 32, .int .u8 5, .int .i64 0, .string { data := #[97, 98] }, .string { data := #[97, 98] }, .string { data := #[] }, .int .i64 128, .int .u8 0, .int .i64 0, .int .u8 5, .int .i64 0, .string { data := #[97, 98, 99] }, .string { data := #[] }, .string { data := #[] }, .int .i64 0, .int .u8 0, .int .i64 32, .int .u8 5, .int .i64 0, .string { data := #[] }, .string { data := #[97, 98, 99] }, .string { data := #[] }, .int .i64 0, .int .u8 0, .int .i64 32, .int .u8 5, .int .i64 0, .string { data := #[] }, .string { data := #[] }, .string { data := #[] }, .int .i64 129, .int .u8 0, .int .i64 32, .int .u8 5, .int .i64 0, .string { data := #[] }, .string { data := #[] }, .string { data := #[] }, .int .i64 (-1), .int .u8 0, .int .i64 32, .int .u8 1, .int .i64 0, .string { data := #[97, 98, 99] }, .string { data := #[] }, .string { data := #[] }, .int .i64 0, .int .u8 0, .int .i64 0, .int .u8 6, .int .i64 0, .string { data := #[] }, .string { data := #[] }, .string { data := #[108, 111, 110, 103] }, .int .i64 0, .int .u8 0, .int .i64 0, .int .u8 77, .int .i64 0, .string { data := #[97, 98, 99] }, .string { data := #[] }, .string { data := #[] }, .int .i64 0, .int .u8 0, .int .i64 0] 81)) = w3 at *
  obtain ⟨p1, hp1⟩ : ∃ x, w.heap.size = x := ⟨_, rfl⟩
  obtain ⟨p2, hp2⟩ : ∃ x, p1 + 1 = x := ⟨_, rfl⟩
  obtain ⟨p3, hp3⟩ : ∃ x, p2 + 1 = x := ⟨_, rfl⟩
  have HP1 := Lib.hid hp1
  rw [hp1] at HC
  rw [hp1, hp2] at HN
  rw [hp1, hp2, hp3] at HL
  rw [hp1]
  try rw [hp2]
  try rw [hp3]
  clear hp1 hp2 hp3
  generalize (Value.agg #[.int .u8 2, .int .i64 0, .string { data := #[97, 98] }, .string { data := #[] }, .string { data := #[108, 111, 110, 103] }, .int .i64 0, .int .u8 0, .int .i64 0]) = va0 at *
  generalize (Value.agg #[.int .u8 2, .int .i64 0, .string { data := #[97, 98] }, .string { data := #[] }, .string { data := #[108, 111, 110, 103] }, .int .i64 0, .int .u8 0]) = vb0 at *
  generalize (Value.agg #[.int .u8 2, .int .i64 0, .string { data := #[] }, .string { data := #[] }, .string { data := #[] }, .int .i64 0, .int .u8 0, .int .i64 32]) = va1 at *
  generalize (Value.agg #[.int .u8 2, .int .i64 0, .string { data := #[] }, .string { data := #[] }, .string { data := #[] }, .int .i64 0, .int .u8 0]) = vb1 at *
  generalize (Value.agg #[.int .u8 3, .int .i64 0, .string { data := #[97] }, .string { data := #[] }, .string { data := #[98] }, .int .i64 0, .int .u8 0, .int .i64 0]) = va2 at *
  generalize (Value.agg #[.int .u8 3, .int .i64 0, .string { data := #[97] }, .string { data := #[] }, .string { data := #[98] }, .int .i64 0, .int .u8 0]) = vb2 at *
  generalize (Value.agg #[.int .u8 3, .int .i64 0, .string { data := #[97] }, .string { data := #[] }, .string { data := #[98, 98] }, .int .i64 0, .int .u8 0, .int .i64 32]) = va3 at *
  generalize (Value.agg #[.int .u8 3, .int .i64 0, .string { data := #[97] }, .string { data := #[] }, .string { data := #[98, 98] }, .int .i64 0, .int .u8 0]) = vb3 at *
  generalize (Value.agg #[.int .u8 4, .int .i64 0, .string { data := #[97, 98, 99] }, .string { data := #[] }, .string { data := #[] }, .int .i64 0, .int .u8 0, .int .i64 32]) = va4 at *
  generalize (Value.agg #[.int .u8 4, .int .i64 0, .string { data := #[97, 98, 99] }, .string { data := #[] }, .string { data := #[] }, .int .i64 0, .int .u8 0]) = vb4 at *
  generalize (Value.agg #[.int .u8 5, .int .i64 0, .string { data := #[97, 98] }, .string { data := #[97, 98] }, .string { data := #[] }, .int .i64 128, .int .u8 0, .int .i64 0]) = va5 at *
  generalize (Value.agg #[.int .u8 5, .int .i64 0, .string { data := #[97, 98] }, .string { data := #[97, 98] }, .string { data := #[] }, .int .i64 128, .int .u8 0]) = vb5 at *
  generalize (Value.agg #[.int .u8 5, .int .i64 0, .string { data := #[97, 98, 99] }, .string { data := #[] }, .string { data := #[] }, .int .i64 0, .int .u8 0, .int .i64 32]) = va6 at *
  generalize (Value.agg #[.int .u8 5, .int .i64 0, .string { data := #[97, 98, 99] }, .string { data := #[] }, .string { data := #[] }, .int .i64 0, .int .u8 0]) = vb6 at *
  generalize (Value.agg #[.int .u8 5, .int .i64 0, .string { data := #[] }, .string { data := #[97, 98, 99] }, .string { data := #[] }, .int .i64 0, .int .u8 0, .int .i64 32]) = va7 at *
  generalize (Value.agg #[.int .u8 5, .int .i64 0, .string { data := #[] }, .string { data := #[97, 98, 99] }, .string { data := #[] }, .int .i64 0, .int .u8 0]) = vb7 at *
  generalize (Value.agg #[.int .u8 5, .int .i64 0, .string { data := #[] }, .string { data := #[] }, .string { data := #[] }, .int .i64 129, .int .u8 0, .int .i64 32]) = va8 at *
  generalize (Value.agg #[.int .u8 5, .int .i64 0, .string { data := #[] }, .string { data := #[] }, .string { data := #[] }, .int .i64 129, .int .u8 0]) = vb8 at *
  generalize (Value.agg #[.int .u8 5, .int .i64 0, .string { data := #[] }, .string { data := #[] }, .string { data := #[] }, .int .i64 (-1), .int .u8 0, .int .i64 32]) = va9 at *
  generalize (Value.agg #[.int .u8 5, .int .i64 0, .string { data := #[] }, .string { data := #[] }, .string { data := #[] }, .int .i64 (-1), .int .u8 0]) = vb9 at *
  generalize (Value.agg #[.int .u8 1, .int .i64 0, .string { data := #[97, 98, 99] }, .string { data := #[] }, .string { data := #[] }, .int .i64 0, .int .u8 0, .int .i64 0]) = va10 at *
  generalize (Value.agg #[.int .u8 1, .int .i64 0, .string { data := #[97, 98, 99] }, .string { data := #[] }, .string { data := #[] }, .int .i64 0, .int .u8 0]) = vb10 at *
  generalize (Value.agg #[.int .u8 6, .int .i64 0, .string { data := #[] }, .string { data := #[] }, .string { data := #[108, 111, 110, 103] }, .int .i64 0, .int .u8 0, .int .i64 0]) = va11 at *
  generalize (Value.agg #[.int .u8 6, .int .i64 0, .string { data := #[] }, .string { data := #[] }, .string { data := #[108, 111, 110, 103] }, .int .i64 0, .int .u8 0]) = vb11 at *
  generalize (Value.agg #[.int .u8 77, .int .i64 0, .string { data := #[97, 98, 99] }, .string { data := #[] }, .string { data := #[] }, .int .i64 0, .int .u8 0, .int .i64 0]) = va12 at *
  generalize (Value.agg #[.int .u8 77, .int .i64 0, .string { data := #[97, 98, 99] }, .string { data := #[] }, .string { data := #[] }, .int .i64 0, .int .u8 0]) = vb12 at *
  go_wp2
  go_loopw [37] (fun i wr => ∃ (k : Nat), k ≤ 13 ∧ i = .int .i64 k ∧ Below w3.heap.size w3 wr) (fun i _ => 13 - (intOf i).toNat)
  case atStart => exact ⟨0, Nat.zero_le _, rfl, Below.refl _ _⟩
  case round =>
    obtain ⟨k, hk, rfl, hb⟩ := hrel
    have HB1 := Lib.hid hb
    clear hb
    by_cases hlt : k < 13
    · have d2 : decide ((k : Int) < 13) = true := decide_eq_true (by omega)
      have wk : IntKind.i64.wrap ((k : Int) + 1) = (k : Int) + 1 := IntWalk.i64_in _ (by omega)
      have i1 := idx82 p3 13 13 k (k : Int) rfl hlt
      obtain ⟨g, off, hAA, hgl, hc⟩ := (HL.out.later HB1.out).2 (by omega)
      cases hAA
      have hrk : fitD[k]? = some (fitD[k]'(by show k < 13; exact hlt)) := List.getElem?_eq_getElem _
      have hok := List.all_eq_true.1 fitD_ok _ (List.mem_of_getElem? hrk)
      generalize fitD[k]'(by show k < 13; exact hlt) = r at *
      obtain ⟨⟨kn, tx, ke, en, va, li, eg⟩, ev⟩ := r
      have z0 := hc k _ hrk 0 (by decide)
      have z1 := hc k _ hrk 1 (by decide)
      have z2 := hc k _ hrk 2 (by decide)
      have z3 := hc k _ hrk 3 (by decide)
      have z4 := hc k _ hrk 4 (by decide)
      have z5 := hc k _ hrk 5 (by decide)
      have z6 := hc k _ hrk 6 (by decide)
      have z7 := hc k _ hrk 7 (by decide)
      simp only [fitE, clE, List.cons_append, List.nil_append, List.getElem?_cons_zero, List.getElem?_cons_succ, Nat.add_zero, Nat.zero_add] at z0 z1 z2 z3 z4 z5 z6 z7
      have HOK := Lib.hid hok
      clear hc hgl hrk hok
      have hby : Below wr.heap.size wr (wr.alloc (.cells #[.int .u8 (kn : Int), .int .i64 tx, .string ke, .string en, .string va, .int .i64 li, .int .u8 (eg : Int), .int .i64 ev] 81)) := (Below.refl _ _).alloc (Nat.le_refl _) _
      have HQ : Hid (Blk (wr.alloc (.cells #[.int .u8 (kn : Int), .int .i64 tx, .string ke, .string en, .string va, .int .i64 li, .int .u8 (eg : Int), .int .i64 ev] 81)) wr.heap.size #[.int .u8 (kn : Int), .int .i64 tx, .string ke, .string en, .string va, .int .i64 li, .int .u8 (eg : Int), .int .i64 ev] 81) := Blk.new _ _ _
      have HB2 := Lib.hid (stepB HB1.out hby)
      clear hby
      go_upto_region 7 with (fail)
      clear z0 z1 z2 z3 z4 z5 z6 z7 i1
      generalize wr.alloc (.cells #[.int .u8 (kn : Int), .int .i64 tx, .string ke, .string en, .string va, .int .i64 li, .int .u8 (eg : Int), .int .i64 ev] 81) = w4 at *
      obtain ⟨q, hq⟩ : ∃ x, wr.heap.size = x := ⟨_, rfl⟩
      rw [hq] at HQ ⊢
      clear hq
      obtain ⟨bk, hbk⟩ : ∃ b, fitC cfN (kn, tx, ke, en, va, li, eg) = b := ⟨_, rfl⟩
      have HFIT : Hid ((∀ V, Gl V → Calls Tryd.prog 25 #[.agg #[.int .i64 1, .int .i64 1, .int .i64 1, .int .i64 2, .int .i64 1, .int .i64 2, .int .i64 1, .int .i64 3], .agg #[.int .u8 (kn : Int), .int .i64 tx, .string ke, .string en, .string va, .int .i64 li, .int .u8 (eg : Int)]] V fun e w' => e = .returned (.int .i64 ev) ∧ Below V.heap.size V w') ∧ (∀ V, Gl V → Calls Tryd.prog 25 #[.agg #[.int .i64 1, .int .i64 1, .int .i64 1, .int .i64 2, .int .i64 1, .int .i64 2, .int .i64 1, .int .i64 2], .agg #[.int .u8 (kn : Int), .int .i64 tx, .string ke, .string en, .string va, .int .i64 li, .int .u8 (eg : Int)]] V fun e w' => e = .returned (.int .i64 (if bk then 0 else 32)) ∧ Below V.heap.size V w') ∧ (!bk) = (decide (2 ≤ kn) && decide (kn ≤ 5))) := Lib.hid (by
        have h := HOK.out
        unfold fitOK at h
        simp only [Bool.and_eq_true, decide_eq_true_eq, beq_iff_eq] at h
        obtain ⟨⟨⟨⟨⟨h1, h2⟩, h3⟩, h4⟩, h5⟩, h6⟩ := h
        have hm : (10 : Nat) ≤ maxLen := by unfold maxLen; decide
        refine ⟨fun V hV => ?_, fun V hV => ?_, ?_⟩
        · have h := fits_any cfW kn tx ke en va li eg V h3 (by omega) (by omega) (by omega) hV
          rw [h1] at h
          exact h
        · have h := fits_any cfN kn tx ke en va li eg V h3 (by omega) (by omega) (by omega) hV
          rw [hbk] at h
          exact h
        · rw [← hbk]
          exact h2)
      have HC2 := Lib.hid (HC.out.later HB2.out)
      have HN2 := Lib.hid (HN.out.later HB2.out)
      have HG2 := Lib.hid (HG.out.later HB2.out)
      have HKE : Hid (bk = !(decide (2 ≤ kn) && decide (kn ≤ 5))) := Lib.hid (by rw [← HFIT.out.2.2]; simp)
      clear hbk HOK
      have y0 := HN2.out.cell 0
      have y1 := HN2.out.cell 1
      have y2 := HN2.out.cell 2
      have y3 := HN2.out.cell 3
      have y4 := HN2.out.cell 4
      have y5 := HN2.out.cell 5
      have y6 := HN2.out.cell 6
      have y7 := HN2.out.cell 7
      simp only [List.getElem?_toArray, List.getElem?_cons_zero, List.getElem?_cons_succ] at y0 y1 y2 y3 y4 y5 y6 y7
      have z0 := HQ.out.cell 0
      have z1 := HQ.out.cell 1
      have z2 := HQ.out.cell 2
      have z3 := HQ.out.cell 3
      have z4 := HQ.out.cell 4
      have z5 := HQ.out.cell 5
      have z6 := HQ.out.cell 6
      have z7 := HQ.out.cell 7
      simp only [List.getElem?_toArray, List.getElem?_cons_zero, List.getElem?_cons_succ] at z0 z1 z2 z3 z4 z5 z6 z7
      have HCL_ := Lib.hid (HFIT.out.2.1 w4 HG2.out)
      go_wp2_with fail
      refine HCL_.out.mono ?_
      rintro e w5 ⟨rfl, hb⟩
      replace HC2 := Lib.hid (HC2.out.later hb)
      replace HN2 := Lib.hid (HN2.out.later hb)
      replace HG2 := Lib.hid (HG2.out.later hb)
      replace HQ := Lib.hid (HQ.out.later hb)
      replace HB2 := Lib.hid (stepB HB2.out hb)
      clear hb HCL_
      clear y0 y1 y2 y3 y4 y5 y6 y7
      clear z0 z1 z2 z3 z4 z5 z6 z7
      go_upto_region 8 with (fail)
      have HF1 : Hid (∀ V, Gl V → Calls Tryd.prog 25 #[.agg #[.int .i64 1, .int .i64 1, .int .i64 1, .int .i64 2, .int .i64 1, .int .i64 2, .int .i64 1, .int .i64 3], .agg #[.int .u8 (kn : Int), .int .i64 tx, .string ke, .string en, .string va, .int .i64 li, .int .u8 (eg : Int)]] V fun e w' => e = .returned (.int .i64 ev) ∧ Below V.heap.size V w') := Lib.hid HFIT.out.1
      clear HFIT
      cases hb1 : decide (2 ≤ kn) with
      | false =>
        rw [hb1] at HKE
        have q1 : decide ((2 : Int) ≤ (kn : Int)) = false := by rw [← hb1, Bool.eq_iff_iff, decide_eq_true_eq, decide_eq_true_eq]; omega
        obtain rfl : bk = true := HKE.out
        clear hb1
        refine wp_region_noPanic ?_
        obtain ⟨W0, rfl⟩ : ∃ W0 : World, W0 = w5 := ⟨_, rfl⟩
        refine wp_region_held_drew (S := fun W => Below W0.heap.size W0 W) (by kernel_rfl) (Below.drew (Below.refl _ _)) (fun hHeld => ?_)
        have HH := Lib.hid hHeld
        refine wpAnyH_take (i := 0) (oi := { dst := some 45, op := Op.load 52 (Operand.tmp 1), type := 52, pos := "outright.go:74", after := #[], guard := none }) (v := ?_) rfl (by kernel_rfl) (by kernel_rfl) (by kernel_rfl) (fun _ _ _ h => h) (Or.inl ⟨by rfl, ?_⟩) (by assumption) ?_
        rotate_left
        · intro W hSw
          have k0 := (HC2.out.later hSw).cell 0
          have k1 := (HC2.out.later hSw).cell 1
          have k2 := (HC2.out.later hSw).cell 2
          have k3 := (HC2.out.later hSw).cell 3
          have k4 := (HC2.out.later hSw).cell 4
          have k5 := (HC2.out.later hSw).cell 5
          have k6 := (HC2.out.later hSw).cell 6
          have k7 := (HC2.out.later hSw).cell 7
          simp only [List.getElem?_toArray, List.getElem?_cons_zero, List.getElem?_cons_succ] at k0 k1 k2 k3 k4 k5 k6 k7
          go_simp
          try with_reducible rfl
        simp only [Act.put, List.setIfInBounds_toArray, List.set_cons_zero, List.set_cons_succ]
        refine wpAnyH_take (i := 1) (oi := { dst := some 46, op := Op.fieldAddr 81 (Operand.tmp 4) 0, type := 0, pos := "outright.go:74", after := #[], guard := none }) (v := ?_) rfl (by kernel_rfl) (by kernel_rfl) (by kernel_rfl) (fun _ _ _ h => h) (Or.inl ⟨by rfl, ?_⟩) (by assumption) ?_
        rotate_left
        · intro W hSw
          clear hSw
          go_simp
          try with_reducible rfl
        simp only [Act.put, List.setIfInBounds_toArray, List.set_cons_zero, List.set_cons_succ]
        refine wpAnyH_take (i := 2) (oi := { dst := some 47, op := Op.load 24 (Operand.tmp 46), type := 24, pos := "outright.go:74", after := #[{ on := 1, ground := Ground.data }], guard := none }) (v := ?_) rfl (by kernel_rfl) (by kernel_rfl) (by kernel_rfl) (fun _ _ _ h => h) (Or.inl ⟨by rfl, ?_⟩) (by assumption) ?_
        rotate_left
        · intro W hSw
          have k0 := (HQ.out.later hSw).cell 0
          have k1 := (HQ.out.later hSw).cell 1
          have k2 := (HQ.out.later hSw).cell 2
          have k3 := (HQ.out.later hSw).cell 3
          have k4 := (HQ.out.later hSw).cell 4
          have k5 := (HQ.out.later hSw).cell 5
          have k6 := (HQ.out.later hSw).cell 6
          have k7 := (HQ.out.later hSw).cell 7
          simp only [List.getElem?_toArray, List.getElem?_cons_zero, List.getElem?_cons_succ] at k0 k1 k2 k3 k4 k5 k6 k7
          go_simp
          try with_reducible rfl
        simp only [Act.put, List.setIfInBounds_toArray, List.set_cons_zero, List.set_cons_succ]
        refine wpAnyH_take (i := 4) (oi := { dst := some 49, op := Op.fieldAddr 81 (Operand.tmp 4) 1, type := 0, pos := "outright.go:74", after := #[], guard := none }) (v := ?_) rfl (by kernel_rfl) (by kernel_rfl) (by kernel_rfl) (fun _ _ _ h => h) (Or.inl ⟨by rfl, ?_⟩) (by assumption) ?_
        rotate_left
        · intro W hSw
          clear hSw
          go_simp
          try with_reducible rfl
        simp only [Act.put, List.setIfInBounds_toArray, List.set_cons_zero, List.set_cons_succ]
        refine wpAnyH_take (i := 5) (oi := { dst := some 50, op := Op.load 26 (Operand.tmp 49), type := 26, pos := "outright.go:74", after := #[{ on := 4, ground := Ground.data }], guard := none }) (v := ?_) rfl (by kernel_rfl) (by kernel_rfl) (by kernel_rfl) (fun _ _ _ h => h) (Or.inl ⟨by rfl, ?_⟩) (by assumption) ?_
        rotate_left
        · intro W hSw
          have k0 := (HQ.out.later hSw).cell 0
          have k1 := (HQ.out.later hSw).cell 1
          have k2 := (HQ.out.later hSw).cell 2
          have k3 := (HQ.out.later hSw).cell 3
          have k4 := (HQ.out.later hSw).cell 4
          have k5 := (HQ.out.later hSw).cell 5
          have k6 := (HQ.out.later hSw).cell 6
          have k7 := (HQ.out.later hSw).cell 7
          simp only [List.getElem?_toArray, List.getElem?_cons_zero, List.getElem?_cons_succ] at k0 k1 k2 k3 k4 k5 k6 k7
          go_simp
          try with_reducible rfl
        simp only [Act.put, List.setIfInBounds_toArray, List.set_cons_zero, List.set_cons_succ]
        refine wpAnyH_ready (rs := [3]) (by kernel_rfl) (by simp) (AllReadyH.cons (o := { dst := some 48, op := Op.call { callee := Callee.value (Operand.func 25), args := #[Operand.tmp 45, Operand.tmp 47], argTypes := #[52, 24] }, type := 26, pos := "outright.go:74", after := #[{ on := 0, ground := Ground.data }, { on := 2, ground := Ground.data }], guard := none }) rfl (fun K hK => ?_) AllReadyH.nil)
        have HCL := Lib.hid (HF1.out _ (HG2.out.later HH.out))
        go_simp
        refine HCL.out.mono ?_
        rintro e Wa ⟨rfl, hb⟩
        replace HH := Lib.hid (stepB HH.out hb)
        clear hb HCL hHeld
        refine hK.out _ _ HH.out (fun hHeld => ?_)
        clear hK K
        refine wpAnyH_take (i := 6) (oi := { dst := some 51, op := Op.binOp BinOp.neq 26 (Operand.tmp 48) (Operand.tmp 50) 26, type := 4, pos := "outright.go:74", after := #[{ on := 3, ground := Ground.data }, { on := 5, ground := Ground.data }], guard := none }) (v := ?_) rfl (by kernel_rfl) (by kernel_rfl) (by kernel_rfl) (fun _ _ _ h => h) (Or.inl ⟨by rfl, ?_⟩) (by assumption) ?_
        rotate_left
        · intro W hSw
          clear hSw
          go_simp
          try with_reducible rfl
        simp only [Act.put, List.setIfInBounds_toArray, List.set_cons_zero, List.set_cons_succ]
        refine wpAnyH_take (i := 7) (oi := { dst := some 52, op := Op.move (Operand.tmp 51), type := 4, pos := "outright.go:74", after := #[{ on := 6, ground := Ground.data }, { on := 3, ground := Ground.chain }], guard := none }) (v := ?_) rfl (by kernel_rfl) (by kernel_rfl) (by kernel_rfl) (fun _ _ _ h => h) (Or.inl ⟨by rfl, ?_⟩) (by assumption) ?_
        rotate_left
        · intro W hSw
          clear hSw
          go_simp
          try with_reducible rfl
        simp only [Act.put, List.setIfInBounds_toArray, List.set_cons_zero, List.set_cons_succ]
        refine wpAnyH_take (i := 8) (oi := { dst := some 53, op := Op.move (Operand.tmp 5), type := 26, pos := "outright.go:74", after := #[{ on := 7, ground := Ground.guard }], guard := some (7, false) }) (v := ?_) rfl (by kernel_rfl) (by kernel_rfl) (by kernel_rfl) (fun _ _ _ h => h) (Or.inl ⟨by rfl, ?_⟩) (by assumption) ?_
        rotate_left
        · intro W hSw
          clear hSw
          go_simp
          try with_reducible rfl
        simp only [Act.put, List.setIfInBounds_toArray, List.set_cons_zero, List.set_cons_succ]
        refine wpAnyH_take (i := 9) (oi := { dst := some 54, op := Op.binOp BinOp.neq 26 (Operand.tmp 53) (Operand.const (Value.int IntKind.i64 0)) 26, type := 4, pos := "outright.go:74", after := #[{ on := 8, ground := Ground.data }, { on := 7, ground := Ground.guard }], guard := some (7, false) }) (v := ?_) rfl (by kernel_rfl) (by kernel_rfl) (by kernel_rfl) (fun _ _ _ h => h) (Or.inl ⟨by rfl, ?_⟩) (by assumption) ?_
        rotate_left
        · intro W hSw
          clear hSw
          go_simp
          try with_reducible rfl
        simp only [Act.put, List.setIfInBounds_toArray, List.set_cons_zero, List.set_cons_succ]
        refine wpAnyH_take (i := 10) (oi := { dst := some 55, op := Op.fieldAddr 81 (Operand.tmp 4) 0, type := 0, pos := "outright.go:74", after := #[{ on := 7, ground := Ground.guard }], guard := some (7, false) }) (v := ?_) rfl (by kernel_rfl) (by kernel_rfl) (by kernel_rfl) (fun _ _ _ h => h) (Or.inl ⟨by rfl, ?_⟩) (by assumption) ?_
        rotate_left
        · intro W hSw
          clear hSw
          go_simp
          try with_reducible rfl
        simp only [Act.put, List.setIfInBounds_toArray, List.set_cons_zero, List.set_cons_succ]
        refine wpAnyH_take (i := 11) (oi := { dst := some 56, op := Op.fieldAddr 24 (Operand.tmp 55) 0, type := 0, pos := "outright.go:74", after := #[{ on := 10, ground := Ground.data }, { on := 7, ground := Ground.guard }], guard := some (7, false) }) (v := ?_) rfl (by kernel_rfl) (by kernel_rfl) (by kernel_rfl) (fun _ _ _ h => h) (Or.inl ⟨by rfl, ?_⟩) (by assumption) ?_
        rotate_left
        · intro W hSw
          clear hSw
          go_simp
          try with_reducible rfl
        simp only [Act.put, List.setIfInBounds_toArray, List.set_cons_zero, List.set_cons_succ]
        refine wpAnyH_take (i := 12) (oi := { dst := some 57, op := Op.load 5 (Operand.tmp 56), type := 5, pos := "outright.go:74", after := #[{ on := 11, ground := Ground.data }, { on := 7, ground := Ground.guard }], guard := some (7, false) }) (v := ?_) rfl (by kernel_rfl) (by kernel_rfl) (by kernel_rfl) (fun _ _ _ h => h) (Or.inl ⟨by rfl, ?_⟩) (by assumption) ?_
        rotate_left
        · intro W hSw
          have k0 := (HQ.out.later hSw).cell 0
          have k1 := (HQ.out.later hSw).cell 1
          have k2 := (HQ.out.later hSw).cell 2
          have k3 := (HQ.out.later hSw).cell 3
          have k4 := (HQ.out.later hSw).cell 4
          have k5 := (HQ.out.later hSw).cell 5
          have k6 := (HQ.out.later hSw).cell 6
          have k7 := (HQ.out.later hSw).cell 7
          simp only [List.getElem?_toArray, List.getElem?_cons_zero, List.getElem?_cons_succ] at k0 k1 k2 k3 k4 k5 k6 k7
          go_simp
          try with_reducible rfl
        simp only [Act.put, List.setIfInBounds_toArray, List.set_cons_zero, List.set_cons_succ]
        refine wpAnyH_take (i := 13) (oi := { dst := some 58, op := Op.binOp BinOp.geq 5 (Operand.tmp 57) (Operand.const (Value.int IntKind.u8 2)) 5, type := 4, pos := "outright.go:74", after := #[{ on := 12, ground := Ground.data }, { on := 7, ground := Ground.guard }], guard := some (7, false) }) (v := ?_) rfl (by kernel_rfl) (by kernel_rfl) (by kernel_rfl) (fun _ _ _ h => h) (Or.inl ⟨by rfl, ?_⟩) (by assumption) ?_
        rotate_left
        · intro W hSw
          clear hSw
          have qq := q1
          go_simp
          try with_reducible rfl
        simp only [Act.put, List.setIfInBounds_toArray, List.set_cons_zero, List.set_cons_succ]
        refine wpAnyH_take (i := 14) (oi := { dst := some 59, op := Op.move (Operand.tmp 58), type := 4, pos := "outright.go:74", after := #[{ on := 13, ground := Ground.data }, { on := 7, ground := Ground.chain }, { on := 7, ground := Ground.guard }], guard := some (7, false) }) (v := ?_) rfl (by kernel_rfl) (by kernel_rfl) (by kernel_rfl) (fun _ _ _ h => h) (Or.inl ⟨by rfl, ?_⟩) (by assumption) ?_
        rotate_left
        · intro W hSw
          clear hSw
          go_simp
          try with_reducible rfl
        simp only [Act.put, List.setIfInBounds_toArray, List.set_cons_zero, List.set_cons_succ]
        refine wpAnyH_take (i := 15) (oi := { dst := some 60, op := Op.fieldAddr 81 (Operand.tmp 4) 0, type := 0, pos := "outright.go:74", after := #[{ on := 14, ground := Ground.guard }], guard := some (14, true) }) (v := undef) rfl (by kernel_rfl) (by kernel_rfl) (by kernel_rfl) (fun _ _ _ h => h) (Or.inr ⟨by rfl, rfl⟩) (by assumption) ?_
        simp only [Act.put, List.setIfInBounds_toArray, List.set_cons_zero, List.set_cons_succ]
        refine wpAnyH_take (i := 16) (oi := { dst := some 61, op := Op.fieldAddr 24 (Operand.tmp 60) 0, type := 0, pos := "outright.go:74", after := #[{ on := 15, ground := Ground.data }, { on := 14, ground := Ground.guard }], guard := some (14, true) }) (v := undef) rfl (by kernel_rfl) (by kernel_rfl) (by kernel_rfl) (fun _ _ _ h => h) (Or.inr ⟨by rfl, rfl⟩) (by assumption) ?_
        simp only [Act.put, List.setIfInBounds_toArray, List.set_cons_zero, List.set_cons_succ]
        refine wpAnyH_take (i := 17) (oi := { dst := some 62, op := Op.load 5 (Operand.tmp 61), type := 5, pos := "outright.go:74", after := #[{ on := 16, ground := Ground.data }, { on := 14, ground := Ground.guard }], guard := some (14, true) }) (v := undef) rfl (by kernel_rfl) (by kernel_rfl) (by kernel_rfl) (fun _ _ _ h => h) (Or.inr ⟨by rfl, rfl⟩) (by assumption) ?_
        simp only [Act.put, List.setIfInBounds_toArray, List.set_cons_zero, List.set_cons_succ]
        refine wpAnyH_take (i := 18) (oi := { dst := some 63, op := Op.binOp BinOp.leq 5 (Operand.tmp 62) (Operand.const (Value.int IntKind.u8 5)) 5, type := 4, pos := "outright.go:74", after := #[{ on := 17, ground := Ground.data }, { on := 14, ground := Ground.guard }], guard := some (14, true) }) (v := undef) rfl (by kernel_rfl) (by kernel_rfl) (by kernel_rfl) (fun _ _ _ h => h) (Or.inr ⟨by rfl, rfl⟩) (by assumption) ?_
        simp only [Act.put, List.setIfInBounds_toArray, List.set_cons_zero, List.set_cons_succ]
        refine wpAnyH_take (i := 19) (oi := { dst := some 64, op := Op.pick (Operand.tmp 59) (Operand.tmp 63) (Operand.const (Value.bool false)), type := 4, pos := "outright.go:74", after := #[{ on := 14, ground := Ground.data }, { on := 18, ground := Ground.data }, { on := 7, ground := Ground.guard }], guard := some (7, false) }) (v := ?_) rfl (by kernel_rfl) (by kernel_rfl) (by kernel_rfl) (fun _ _ _ h => h) (Or.inl ⟨by rfl, ?_⟩) (by assumption) ?_
        rotate_left
        · intro W hSw
          clear hSw
          go_simp
          try with_reducible rfl
        simp only [Act.put, List.setIfInBounds_toArray, List.set_cons_zero, List.set_cons_succ]
        refine wpAnyH_take (i := 20) (oi := { dst := some 65, op := Op.binOp BinOp.neq 4 (Operand.tmp 54) (Operand.tmp 64) 4, type := 4, pos := "outright.go:74", after := #[{ on := 9, ground := Ground.data }, { on := 19, ground := Ground.data }, { on := 7, ground := Ground.guard }], guard := some (7, false) }) (v := ?_) rfl (by kernel_rfl) (by kernel_rfl) (by kernel_rfl) (fun _ _ _ h => h) (Or.inl ⟨by rfl, ?_⟩) (by assumption) ?_
        rotate_left
        · intro W hSw
          clear hSw
          go_simp
          try with_reducible rfl
        simp only [Act.put, List.setIfInBounds_toArray, List.set_cons_zero, List.set_cons_succ]
        refine wpAnyH_take (i := 21) (oi := { dst := some 66, op := Op.pick (Operand.tmp 52) (Operand.const (Value.bool true)) (Operand.tmp 65), type := 4, pos := "outright.go:74", after := #[{ on := 7, ground := Ground.data }, { on := 20, ground := Ground.data }], guard := none }) (v := ?_) rfl (by kernel_rfl) (by kernel_rfl) (by kernel_rfl) (fun _ _ _ h => h) (Or.inl ⟨by rfl, ?_⟩) (by assumption) ?_
        rotate_left
        · intro W hSw
          clear hSw
          go_simp
          try with_reducible rfl
        simp only [Act.put, List.setIfInBounds_toArray, List.set_cons_zero, List.set_cons_succ]
        refine wpAnyH_done (by kernel_rfl) (NoPanic.normal ?_) _
        have HF := Lib.hid (stepB HB2.out HH.out)
        clear hHeld HH HF1
        go_wp2
        go_roundw
        case rel => exact ⟨k + 1, by omega, by go_num, HF.out⟩
        case measure => simp [intOf]; omega
      | true =>
        rw [hb1] at HKE
        have q1 : decide ((2 : Int) ≤ (kn : Int)) = true := by rw [← hb1, Bool.eq_iff_iff, decide_eq_true_eq, decide_eq_true_eq]; omega
        cases hb2 : decide (kn ≤ 5) with
        | false =>
          rw [hb2] at HKE
          have q2 : decide ((kn : Int) ≤ 5) = false := by rw [← hb2, Bool.eq_iff_iff, decide_eq_true_eq, decide_eq_true_eq]; omega
          obtain rfl : bk = true := HKE.out
          clear hb1 hb2
          refine wp_region_noPanic ?_
          obtain ⟨W0, rfl⟩ : ∃ W0 : World, W0 = w5 := ⟨_, rfl⟩
          refine wp_region_held_drew (S := fun W => Below W0.heap.size W0 W) (by kernel_rfl) (Below.drew (Below.refl _ _)) (fun hHeld => ?_)
          have HH := Lib.hid hHeld
          refine wpAnyH_take (i := 0) (oi := { dst := some 45, op := Op.load 52 (Operand.tmp 1), type := 52, pos := "outright.go:74", after := #[], guard := none }) (v := ?_) rfl (by kernel_rfl) (by kernel_rfl) (by kernel_rfl) (fun _ _ _ h => h) (Or.inl ⟨by rfl, ?_⟩) (by assumption) ?_
          rotate_left
          · intro W hSw
            have k0 := (HC2.out.later hSw).cell 0
            have k1 := (HC2.out.later hSw).cell 1
            have k2 := (HC2.out.later hSw).cell 2
            have k3 := (HC2.out.later hSw).cell 3
            have k4 := (HC2.out.later hSw).cell 4
            have k5 := (HC2.out.later hSw).cell 5
            have k6 := (HC2.out.later hSw).cell 6
            have k7 := (HC2.out.later hSw).cell 7
            simp only [List.getElem?_toArray, List.getElem?_cons_zero, List.getElem?_cons_succ] at k0 k1 k2 k3 k4 k5 k6 k7
            go_simp
            try with_reducible rfl
          simp only [Act.put, List.setIfInBounds_toArray, List.set_cons_zero, List.set_cons_succ]
          refine wpAnyH_take (i := 1) (oi := { dst := some 46, op := Op.fieldAddr 81 (Operand.tmp 4) 0, type := 0, pos := "outright.go:74", after := #[], guard := none }) (v := ?_) rfl (by kernel_rfl) (by kernel_rfl) (by kernel_rfl) (fun _ _ _ h => h) (Or.inl ⟨by rfl, ?_⟩) (by assumption) ?_
          rotate_left
          · intro W hSw
            clear hSw
            go_simp
            try with_reducible rfl
          simp only [Act.put, List.setIfInBounds_toArray, List.set_cons_zero, List.set_cons_succ]
          refine wpAnyH_take (i := 2) (oi := { dst := some 47, op := Op.load 24 (Operand.tmp 46), type := 24, pos := "outright.go:74", after := #[{ on := 1, ground := Ground.data }], guard := none }) (v := ?_) rfl (by kernel_rfl) (by kernel_rfl) (by kernel_rfl) (fun _ _ _ h => h) (Or.inl ⟨by rfl, ?_⟩) (by assumption) ?_
          rotate_left
          · intro W hSw
            have k0 := (HQ.out.later hSw).cell 0
            have k1 := (HQ.out.later hSw).cell 1
            have k2 := (HQ.out.later hSw).cell 2
            have k3 := (HQ.out.later hSw).cell 3
            have k4 := (HQ.out.later hSw).cell 4
            have k5 := (HQ.out.later hSw).cell 5
            have k6 := (HQ.out.later hSw).cell 6
            have k7 := (HQ.out.later hSw).cell 7
            simp only [List.getElem?_toArray, List.getElem?_cons_zero, List.getElem?_cons_succ] at k0 k1 k2 k3 k4 k5 k6 k7
            go_simp
            try with_reducible rfl
          simp only [Act.put, List.setIfInBounds_toArray, List.set_cons_zero, List.set_cons_succ]
          refine wpAnyH_take (i := 4) (oi := { dst := some 49, op := Op.fieldAddr 81 (Operand.tmp 4) 1, type := 0, pos := "outright.go:74", after := #[], guard := none }) (v := ?_) rfl (by kernel_rfl) (by kernel_rfl) (by kernel_rfl) (fun _ _ _ h => h) (Or.inl ⟨by rfl, ?_⟩) (by assumption) ?_
          rotate_left
          · intro W hSw
            clear hSw
            go_simp
            try with_reducible rfl
          simp only [Act.put, List.setIfInBounds_toArray, List.set_cons_zero, List.set_cons_succ]
          refine wpAnyH_take (i := 5) (oi := { dst := some 50, op := Op.load 26 (Operand.tmp 49), type := 26, pos := "outright.go:74", after := #[{ on := 4, ground := Ground.data }], guard := none }) (v := ?_) rfl (by kernel_rfl) (by kernel_rfl) (by kernel_rfl) (fun _ _ _ h => h) (Or.inl ⟨by rfl, ?_⟩) (by assumption) ?_
          rotate_left
          · intro W hSw
            have k0 := (HQ.out.later hSw).cell 0
            have k1 := (HQ.out.later hSw).cell 1
            have k2 := (HQ.out.later hSw).cell 2
            have k3 := (HQ.out.later hSw).cell 3
            have k4 := (HQ.out.later hSw).cell 4
            have k5 := (HQ.out.later hSw).cell 5
            have k6 := (HQ.out.later hSw).cell 6
            have k7 := (HQ.out.later hSw).cell 7
            simp only [List.getElem?_toArray, List.getElem?_cons_zero, List.getElem?_cons_succ] at k0 k1 k2 k3 k4 k5 k6 k7
            go_simp
            try with_reducible rfl
          simp only [Act.put, List.setIfInBounds_toArray, List.set_cons_zero, List.set_cons_succ]
          refine wpAnyH_ready (rs := [3]) (by kernel_rfl) (by simp) (AllReadyH.cons (o := { dst := some 48, op := Op.call { callee := Callee.value (Operand.func 25), args := #[Operand.tmp 45, Operand.tmp 47], argTypes := #[52, 24] }, type := 26, pos := "outright.go:74", after := #[{ on := 0, ground := Ground.data }, { on := 2, ground := Ground.data }], guard := none }) rfl (fun K hK => ?_) AllReadyH.nil)
          have HCL := Lib.hid (HF1.out _ (HG2.out.later HH.out))
          go_simp
          refine HCL.out.mono ?_
          rintro e Wa ⟨rfl, hb⟩
          replace HH := Lib.hid (stepB HH.out hb)
          clear hb HCL hHeld
          refine hK.out _ _ HH.out (fun hHeld => ?_)
          clear hK K
          refine wpAnyH_take (i := 6) (oi := { dst := some 51, op := Op.binOp BinOp.neq 26 (Operand.tmp 48) (Operand.tmp 50) 26, type := 4, pos := "outright.go:74", after := #[{ on := 3, ground := Ground.data }, { on := 5, ground := Ground.data }], guard := none }) (v := ?_) rfl (by kernel_rfl) (by kernel_rfl) (by kernel_rfl) (fun _ _ _ h => h) (Or.inl ⟨by rfl, ?_⟩) (by assumption) ?_
          rotate_left
          · intro W hSw
            clear hSw
            go_simp
            try with_reducible rfl
          simp only [Act.put, List.setIfInBounds_toArray, List.set_cons_zero, List.set_cons_succ]
          refine wpAnyH_take (i := 7) (oi := { dst := some 52, op := Op.move (Operand.tmp 51), type := 4, pos := "outright.go:74", after := #[{ on := 6, ground := Ground.data }, { on := 3, ground := Ground.chain }], guard := none }) (v := ?_) rfl (by kernel_rfl) (by kernel_rfl) (by kernel_rfl) (fun _ _ _ h => h) (Or.inl ⟨by rfl, ?_⟩) (by assumption) ?_
          rotate_left
          · intro W hSw
            clear hSw
            go_simp
            try with_reducible rfl
          simp only [Act.put, List.setIfInBounds_toArray, List.set_cons_zero, List.set_cons_succ]
          refine wpAnyH_take (i := 8) (oi := { dst := some 53, op := Op.move (Operand.tmp 5), type := 26, pos := "outright.go:74", after := #[{ on := 7, ground := Ground.guard }], guard := some (7, false) }) (v := ?_) rfl (by kernel_rfl) (by kernel_rfl) (by kernel_rfl) (fun _ _ _ h => h) (Or.inl ⟨by rfl, ?_⟩) (by assumption) ?_
          rotate_left
          · intro W hSw
            clear hSw
            go_simp
            try with_reducible rfl
          simp only [Act.put, List.setIfInBounds_toArray, List.set_cons_zero, List.set_cons_succ]
          refine wpAnyH_take (i := 9) (oi := { dst := some 54, op := Op.binOp BinOp.neq 26 (Operand.tmp 53) (Operand.const (Value.int IntKind.i64 0)) 26, type := 4, pos := "outright.go:74", after := #[{ on := 8, ground := Ground.data }, { on := 7, ground := Ground.guard }], guard := some (7, false) }) (v := ?_) rfl (by kernel_rfl) (by kernel_rfl) (by kernel_rfl) (fun _ _ _ h => h) (Or.inl ⟨by rfl, ?_⟩) (by assumption) ?_
          rotate_left
          · intro W hSw
            clear hSw
            go_simp
            try with_reducible rfl
          simp only [Act.put, List.setIfInBounds_toArray, List.set_cons_zero, List.set_cons_succ]
          refine wpAnyH_take (i := 10) (oi := { dst := some 55, op := Op.fieldAddr 81 (Operand.tmp 4) 0, type := 0, pos := "outright.go:74", after := #[{ on := 7, ground := Ground.guard }], guard := some (7, false) }) (v := ?_) rfl (by kernel_rfl) (by kernel_rfl) (by kernel_rfl) (fun _ _ _ h => h) (Or.inl ⟨by rfl, ?_⟩) (by assumption) ?_
          rotate_left
          · intro W hSw
            clear hSw
            go_simp
            try with_reducible rfl
          simp only [Act.put, List.setIfInBounds_toArray, List.set_cons_zero, List.set_cons_succ]
          refine wpAnyH_take (i := 11) (oi := { dst := some 56, op := Op.fieldAddr 24 (Operand.tmp 55) 0, type := 0, pos := "outright.go:74", after := #[{ on := 10, ground := Ground.data }, { on := 7, ground := Ground.guard }], guard := some (7, false) }) (v := ?_) rfl (by kernel_rfl) (by kernel_rfl) (by kernel_rfl) (fun _ _ _ h => h) (Or.inl ⟨by rfl, ?_⟩) (by assumption) ?_
          rotate_left
          · intro W hSw
            clear hSw
            go_simp
            try with_reducible rfl
          simp only [Act.put, List.setIfInBounds_toArray, List.set_cons_zero, List.set_cons_succ]
          refine wpAnyH_take (i := 12) (oi := { dst := some 57, op := Op.load 5 (Operand.tmp 56), type := 5, pos := "outright.go:74", after := #[{ on := 11, ground := Ground.data }, { on := 7, ground := Ground.guard }], guard := some (7, false) }) (v := ?_) rfl (by kernel_rfl) (by kernel_rfl) (by kernel_rfl) (fun _ _ _ h => h) (Or.inl ⟨by rfl, ?_⟩) (by assumption) ?_
          rotate_left
          · intro W hSw
            have k0 := (HQ.out.later hSw).cell 0
            have k1 := (HQ.out.later hSw).cell 1
            have k2 := (HQ.out.later hSw).cell 2
            have k3 := (HQ.out.later hSw).cell 3
            have k4 := (HQ.out.later hSw).cell 4
            have k5 := (HQ.out.later hSw).cell 5
            have k6 := (HQ.out.later hSw).cell 6
            have k7 := (HQ.out.later hSw).cell 7
            simp only [List.getElem?_toArray, List.getElem?_cons_zero, List.getElem?_cons_succ] at k0 k1 k2 k3 k4 k5 k6 k7
            go_simp
            try with_reducible rfl
          simp only [Act.put, List.setIfInBounds_toArray, List.set_cons_zero, List.set_cons_succ]
          refine wpAnyH_take (i := 13) (oi := { dst := some 58, op := Op.binOp BinOp.geq 5 (Operand.tmp 57) (Operand.const (Value.int IntKind.u8 2)) 5, type := 4, pos := "outright.go:74", after := #[{ on := 12, ground := Ground.data }, { on := 7, ground := Ground.guard }], guard := some (7, false) }) (v := ?_) rfl (by kernel_rfl) (by kernel_rfl) (by kernel_rfl) (fun _ _ _ h => h) (Or.inl ⟨by rfl, ?_⟩) (by assumption) ?_
          rotate_left
          · intro W hSw
            clear hSw
            have qq := q1
            go_simp
            try with_reducible rfl
          simp only [Act.put, List.setIfInBounds_toArray, List.set_cons_zero, List.set_cons_succ]
          refine wpAnyH_take (i := 14) (oi := { dst := some 59, op := Op.move (Operand.tmp 58), type := 4, pos := "outright.go:74", after := #[{ on := 13, ground := Ground.data }, { on := 7, ground := Ground.chain }, { on := 7, ground := Ground.guard }], guard := some (7, false) }) (v := ?_) rfl (by kernel_rfl) (by kernel_rfl) (by kernel_rfl) (fun _ _ _ h => h) (Or.inl ⟨by rfl, ?_⟩) (by assumption) ?_
          rotate_left
          · intro W hSw
            clear hSw
            go_simp
            try with_reducible rfl
          simp only [Act.put, List.setIfInBounds_toArray, List.set_cons_zero, List.set_cons_succ]
          refine wpAnyH_take (i := 15) (oi := { dst := some 60, op := Op.fieldAddr 81 (Operand.tmp 4) 0, type := 0, pos := "outright.go:74", after := #[{ on := 14, ground := Ground.guard }], guard := some (14, true) }) (v := ?_) rfl (by kernel_rfl) (by kernel_rfl) (by kernel_rfl) (fun _ _ _ h => h) (Or.inl ⟨by rfl, ?_⟩) (by assumption) ?_
          rotate_left
          · intro W hSw
            clear hSw
            go_simp
            try with_reducible rfl
          simp only [Act.put, List.setIfInBounds_toArray, List.set_cons_zero, List.set_cons_succ]
          refine wpAnyH_take (i := 16) (oi := { dst := some 61, op := Op.fieldAddr 24 (Operand.tmp 60) 0, type := 0, pos := "outright.go:74", after := #[{ on := 15, ground := Ground.data }, { on := 14, ground := Ground.guard }], guard := some (14, true) }) (v := ?_) rfl (by kernel_rfl) (by kernel_rfl) (by kernel_rfl) (fun _ _ _ h => h) (Or.inl ⟨by rfl, ?_⟩) (by assumption) ?_
          rotate_left
          · intro W hSw
            clear hSw
            go_simp
            try with_reducible rfl
          simp only [Act.put, List.setIfInBounds_toArray, List.set_cons_zero, List.set_cons_succ]
          refine wpAnyH_take (i := 17) (oi := { dst := some 62, op := Op.load 5 (Operand.tmp 61), type := 5, pos := "outright.go:74", after := #[{ on := 16, ground := Ground.data }, { on := 14, ground := Ground.guard }], guard := some (14, true) }) (v := ?_) rfl (by kernel_rfl) (by kernel_rfl) (by kernel_rfl) (fun _ _ _ h => h) (Or.inl ⟨by rfl, ?_⟩) (by assumption) ?_
          rotate_left
          · intro W hSw
            have k0 := (HQ.out.later hSw).cell 0
            have k1 := (HQ.out.later hSw).cell 1
            have k2 := (HQ.out.later hSw).cell 2
            have k3 := (HQ.out.later hSw).cell 3
            have k4 := (HQ.out.later hSw).cell 4
            have k5 := (HQ.out.later hSw).cell 5
            have k6 := (HQ.out.later hSw).cell 6
            have k7 := (HQ.out.later hSw).cell 7
            simp only [List.getElem?_toArray, List.getElem?_cons_zero, List.getElem?_cons_succ] at k0 k1 k2 k3 k4 k5 k6 k7
            go_simp
            try with_reducible rfl
          simp only [Act.put, List.setIfInBounds_toArray, List.set_cons_zero, List.set_cons_succ]
          refine wpAnyH_take (i := 18) (oi := { dst := some 63, op := Op.binOp BinOp.leq 5 (Operand.tmp 62) (Operand.const (Value.int IntKind.u8 5)) 5, type := 4, pos := "outright.go:74", after := #[{ on := 17, ground := Ground.data }, { on := 14, ground := Ground.guard }], guard := some (14, true) }) (v := ?_) rfl (by kernel_rfl) (by kernel_rfl) (by kernel_rfl) (fun _ _ _ h => h) (Or.inl ⟨by rfl, ?_⟩) (by assumption) ?_
          rotate_left
          · intro W hSw
            clear hSw
            have qq := q2
            go_simp
            try with_reducible rfl
          simp only [Act.put, List.setIfInBounds_toArray, List.set_cons_zero, List.set_cons_succ]
          refine wpAnyH_take (i := 19) (oi := { dst := some 64, op := Op.pick (Operand.tmp 59) (Operand.tmp 63) (Operand.const (Value.bool false)), type := 4, pos := "outright.go:74", after := #[{ on := 14, ground := Ground.data }, { on := 18, ground := Ground.data }, { on := 7, ground := Ground.guard }], guard := some (7, false) }) (v := ?_) rfl (by kernel_rfl) (by kernel_rfl) (by kernel_rfl) (fun _ _ _ h => h) (Or.inl ⟨by rfl, ?_⟩) (by assumption) ?_
          rotate_left
          · intro W hSw
            clear hSw
            go_simp
            try with_reducible rfl
          simp only [Act.put, List.setIfInBounds_toArray, List.set_cons_zero, List.set_cons_succ]
          refine wpAnyH_take (i := 20) (oi := { dst := some 65, op := Op.binOp BinOp.neq 4 (Operand.tmp 54) (Operand.tmp 64) 4, type := 4, pos := "outright.go:74", after := #[{ on := 9, ground := Ground.data }, { on := 19, ground := Ground.data }, { on := 7, ground := Ground.guard }], guard := some (7, false) }) (v := ?_) rfl (by kernel_rfl) (by kernel_rfl) (by kernel_rfl) (fun _ _ _ h => h) (Or.inl ⟨by rfl, ?_⟩) (by assumption) ?_
          rotate_left
          · intro W hSw
            clear hSw
            go_simp
            try with_reducible rfl
          simp only [Act.put, List.setIfInBounds_toArray, List.set_cons_zero, List.set_cons_succ]
          refine wpAnyH_take (i := 21) (oi := { dst := some 66, op := Op.pick (Operand.tmp 52) (Operand.const (Value.bool true)) (Operand.tmp 65), type := 4, pos := "outright.go:74", after := #[{ on := 7, ground := Ground.data }, { on := 20, ground := Ground.data }], guard := none }) (v := ?_) rfl (by kernel_rfl) (by kernel_rfl) (by kernel_rfl) (fun _ _ _ h => h) (Or.inl ⟨by rfl, ?_⟩) (by assumption) ?_
          rotate_left
          · intro W hSw
            clear hSw
            go_simp
            try with_reducible rfl
          simp only [Act.put, List.setIfInBounds_toArray, List.set_cons_zero, List.set_cons_succ]
          refine wpAnyH_done (by kernel_rfl) (NoPanic.normal ?_) _
          have HF := Lib.hid (stepB HB2.out HH.out)
          clear hHeld HH HF1
          go_wp2
          go_roundw
          case rel => exact ⟨k + 1, by omega, by go_num, HF.out⟩
          case measure => simp [intOf]; omega
        | true =>
          rw [hb2] at HKE
          have q2 : decide ((kn : Int) ≤ 5) = true := by rw [← hb2, Bool.eq_iff_iff, decide_eq_true_eq, decide_eq_true_eq]; omega
          obtain rfl : bk = false := HKE.out
          clear hb1 hb2
          refine wp_region_noPanic ?_
          obtain ⟨W0, rfl⟩ : ∃ W0 : World, W0 = w5 := ⟨_, rfl⟩
          refine wp_region_held_drew (S := fun W => Below W0.heap.size W0 W) (by kernel_rfl) (Below.drew (Below.refl _ _)) (fun hHeld => ?_)
          have HH := Lib.hid hHeld
          refine wpAnyH_take (i := 0) (oi := { dst := some 45, op := Op.load 52 (Operand.tmp 1), type := 52, pos := "outright.go:74", after := #[], guard := none }) (v := ?_) rfl (by kernel_rfl) (by kernel_rfl) (by kernel_rfl) (fun _ _ _ h => h) (Or.inl ⟨by rfl, ?_⟩) (by assumption) ?_
          rotate_left
          · intro W hSw
            have k0 := (HC2.out.later hSw).cell 0
            have k1 := (HC2.out.later hSw).cell 1
            have k2 := (HC2.out.later hSw).cell 2
            have k3 := (HC2.out.later hSw).cell 3
            have k4 := (HC2.out.later hSw).cell 4
            have k5 := (HC2.out.later hSw).cell 5
            have k6 := (HC2.out.later hSw).cell 6
            have k7 := (HC2.out.later hSw).cell 7
            simp only [List.getElem?_toArray, List.getElem?_cons_zero, List.getElem?_cons_succ] at k0 k1 k2 k3 k4 k5 k6 k7
            go_simp
            try with_reducible rfl
          simp only [Act.put, List.setIfInBounds_toArray, List.set_cons_zero, List.set_cons_succ]
          refine wpAnyH_take (i := 1) (oi := { dst := some 46, op := Op.fieldAddr 81 (Operand.tmp 4) 0, type := 0, pos := "outright.go:74", after := #[], guard := none }) (v := ?_) rfl (by kernel_rfl) (by kernel_rfl) (by kernel_rfl) (fun _ _ _ h => h) (Or.inl ⟨by rfl, ?_⟩) (by assumption) ?_
          rotate_left
          · intro W hSw
            clear hSw
            go_simp
            try with_reducible rfl
          simp only [Act.put, List.setIfInBounds_toArray, List.set_cons_zero, List.set_cons_succ]
          refine wpAnyH_take (i := 2) (oi := { dst := some 47, op := Op.load 24 (Operand.tmp 46), type := 24, pos := "outright.go:74", after := #[{ on := 1, ground := Ground.data }], guard := none }) (v := ?_) rfl (by kernel_rfl) (by kernel_rfl) (by kernel_rfl) (fun _ _ _ h => h) (Or.inl ⟨by rfl, ?_⟩) (by assumption) ?_
          rotate_left
          · intro W hSw
            have k0 := (HQ.out.later hSw).cell 0
            have k1 := (HQ.out.later hSw).cell 1
            have k2 := (HQ.out.later hSw).cell 2
            have k3 := (HQ.out.later hSw).cell 3
            have k4 := (HQ.out.later hSw).cell 4
            have k5 := (HQ.out.later hSw).cell 5
            have k6 := (HQ.out.later hSw).cell 6
            have k7 := (HQ.out.later hSw).cell 7
            simp only [List.getElem?_toArray, List.getElem?_cons_zero, List.getElem?_cons_succ] at k0 k1 k2 k3 k4 k5 k6 k7
            go_simp
            try with_reducible rfl
          simp only [Act.put, List.setIfInBounds_toArray, List.set_cons_zero, List.set_cons_succ]
          refine wpAnyH_take (i := 4) (oi := { dst := some 49, op := Op.fieldAddr 81 (Operand.tmp 4) 1, type := 0, pos := "outright.go:74", after := #[], guard := none }) (v := ?_) rfl (by kernel_rfl) (by kernel_rfl) (by kernel_rfl) (fun _ _ _ h => h) (Or.inl ⟨by rfl, ?_⟩) (by assumption) ?_
          rotate_left
          · intro W hSw
            clear hSw
            go_simp
            try with_reducible rfl
          simp only [Act.put, List.setIfInBounds_toArray, List.set_cons_zero, List.set_cons_succ]
          refine wpAnyH_take (i := 5) (oi := { dst := some 50, op := Op.load 26 (Operand.tmp 49), type := 26, pos := "outright.go:74", after := #[{ on := 4, ground := Ground.data }], guard := none }) (v := ?_) rfl (by kernel_rfl) (by kernel_rfl) (by kernel_rfl) (fun _ _ _ h => h) (Or.inl ⟨by rfl, ?_⟩) (by assumption) ?_
          rotate_left
          · intro W hSw
            have k0 := (HQ.out.later hSw).cell 0
            have k1 := (HQ.out.later hSw).cell 1
            have k2 := (HQ.out.later hSw).cell 2
            have k3 := (HQ.out.later hSw).cell 3
            have k4 := (HQ.out.later hSw).cell 4
            have k5 := (HQ.out.later hSw).cell 5
            have k6 := (HQ.out.later hSw).cell 6
            have k7 := (HQ.out.later hSw).cell 7
            simp only [List.getElem?_toArray, List.getElem?_cons_zero, List.getElem?_cons_succ] at k0 k1 k2 k3 k4 k5 k6 k7
            go_simp
            try with_reducible rfl
          simp only [Act.put, List.setIfInBounds_toArray, List.set_cons_zero, List.set_cons_succ]
          refine wpAnyH_ready (rs := [3]) (by kernel_rfl) (by simp) (AllReadyH.cons (o := { dst := some 48, op := Op.call { callee := Callee.value (Operand.func 25), args := #[Operand.tmp 45, Operand.tmp 47], argTypes := #[52, 24] }, type := 26, pos := "outright.go:74", after := #[{ on := 0, ground := Ground.data }, { on := 2, ground := Ground.data }], guard := none }) rfl (fun K hK => ?_) AllReadyH.nil)
          have HCL := Lib.hid (HF1.out _ (HG2.out.later HH.out))
          go_simp
          refine HCL.out.mono ?_
          rintro e Wa ⟨rfl, hb⟩
          replace HH := Lib.hid (stepB HH.out hb)
          clear hb HCL hHeld
          refine hK.out _ _ HH.out (fun hHeld => ?_)
          clear hK K
          refine wpAnyH_take (i := 6) (oi := { dst := some 51, op := Op.binOp BinOp.neq 26 (Operand.tmp 48) (Operand.tmp 50) 26, type := 4, pos := "outright.go:74", after := #[{ on := 3, ground := Ground.data }, { on := 5, ground := Ground.data }], guard := none }) (v := ?_) rfl (by kernel_rfl) (by kernel_rfl) (by kernel_rfl) (fun _ _ _ h => h) (Or.inl ⟨by rfl, ?_⟩) (by assumption) ?_
          rotate_left
          · intro W hSw
            clear hSw
            go_simp
            try with_reducible rfl
          simp only [Act.put, List.setIfInBounds_toArray, List.set_cons_zero, List.set_cons_succ]
          refine wpAnyH_take (i := 7) (oi := { dst := some 52, op := Op.move (Operand.tmp 51), type := 4, pos := "outright.go:74", after := #[{ on := 6, ground := Ground.data }, { on := 3, ground := Ground.chain }], guard := none }) (v := ?_) rfl (by kernel_rfl) (by kernel_rfl) (by kernel_rfl) (fun _ _ _ h => h) (Or.inl ⟨by rfl, ?_⟩) (by assumption) ?_
          rotate_left
          · intro W hSw
            clear hSw
            go_simp
            try with_reducible rfl
          simp only [Act.put, List.setIfInBounds_toArray, List.set_cons_zero, List.set_cons_succ]
          refine wpAnyH_take (i := 8) (oi := { dst := some 53, op := Op.move (Operand.tmp 5), type := 26, pos := "outright.go:74", after := #[{ on := 7, ground := Ground.guard }], guard := some (7, false) }) (v := ?_) rfl (by kernel_rfl) (by kernel_rfl) (by kernel_rfl) (fun _ _ _ h => h) (Or.inl ⟨by rfl, ?_⟩) (by assumption) ?_
          rotate_left
          · intro W hSw
            clear hSw
            go_simp
            try with_reducible rfl
          simp only [Act.put, List.setIfInBounds_toArray, List.set_cons_zero, List.set_cons_succ]
          refine wpAnyH_take (i := 9) (oi := { dst := some 54, op := Op.binOp BinOp.neq 26 (Operand.tmp 53) (Operand.const (Value.int IntKind.i64 0)) 26, type := 4, pos := "outright.go:74", after := #[{ on := 8, ground := Ground.data }, { on := 7, ground := Ground.guard }], guard := some (7, false) }) (v := ?_) rfl (by kernel_rfl) (by kernel_rfl) (by kernel_rfl) (fun _ _ _ h => h) (Or.inl ⟨by rfl, ?_⟩) (by assumption) ?_
          rotate_left
          · intro W hSw
            clear hSw
            go_simp
            try with_reducible rfl
          simp only [Act.put, List.setIfInBounds_toArray, List.set_cons_zero, List.set_cons_succ]
          refine wpAnyH_take (i := 10) (oi := { dst := some 55, op := Op.fieldAddr 81 (Operand.tmp 4) 0, type := 0, pos := "outright.go:74", after := #[{ on := 7, ground := Ground.guard }], guard := some (7, false) }) (v := ?_) rfl (by kernel_rfl) (by kernel_rfl) (by kernel_rfl) (fun _ _ _ h => h) (Or.inl ⟨by rfl, ?_⟩) (by assumption) ?_
          rotate_left
          · intro W hSw
            clear hSw
            go_simp
            try with_reducible rfl
          simp only [Act.put, List.setIfInBounds_toArray, List.set_cons_zero, List.set_cons_succ]
          refine wpAnyH_take (i := 11) (oi := { dst := some 56, op := Op.fieldAddr 24 (Operand.tmp 55) 0, type := 0, pos := "outright.go:74", after := #[{ on := 10, ground := Ground.data }, { on := 7, ground := Ground.guard }], guard := some (7, false) }) (v := ?_) rfl (by kernel_rfl) (by kernel_rfl) (by kernel_rfl) (fun _ _ _ h => h) (Or.inl ⟨by rfl, ?_⟩) (by assumption) ?_
          rotate_left
          · intro W hSw
            clear hSw
            go_simp
            try with_reducible rfl
          simp only [Act.put, List.setIfInBounds_toArray, List.set_cons_zero, List.set_cons_succ]
          refine wpAnyH_take (i := 12) (oi := { dst := some 57, op := Op.load 5 (Operand.tmp 56), type := 5, pos := "outright.go:74", after := #[{ on := 11, ground := Ground.data }, { on := 7, ground := Ground.guard }], guard := some (7, false) }) (v := ?_) rfl (by kernel_rfl) (by kernel_rfl) (by kernel_rfl) (fun _ _ _ h => h) (Or.inl ⟨by rfl, ?_⟩) (by assumption) ?_
          rotate_left
          · intro W hSw
            have k0 := (HQ.out.later hSw).cell 0
            have k1 := (HQ.out.later hSw).cell 1
            have k2 := (HQ.out.later hSw).cell 2
            have k3 := (HQ.out.later hSw).cell 3
            have k4 := (HQ.out.later hSw).cell 4
            have k5 := (HQ.out.later hSw).cell 5
            have k6 := (HQ.out.later hSw).cell 6
            have k7 := (HQ.out.later hSw).cell 7
            simp only [List.getElem?_toArray, List.getElem?_cons_zero, List.getElem?_cons_succ] at k0 k1 k2 k3 k4 k5 k6 k7
            go_simp
            try with_reducible rfl
          simp only [Act.put, List.setIfInBounds_toArray, List.set_cons_zero, List.set_cons_succ]
          refine wpAnyH_take (i := 13) (oi := { dst := some 58, op := Op.binOp BinOp.geq 5 (Operand.tmp 57) (Operand.const (Value.int IntKind.u8 2)) 5, type := 4, pos := "outright.go:74", after := #[{ on := 12, ground := Ground.data }, { on := 7, ground := Ground.guard }], guard := some (7, false) }) (v := ?_) rfl (by kernel_rfl) (by kernel_rfl) (by kernel_rfl) (fun _ _ _ h => h) (Or.inl ⟨by rfl, ?_⟩) (by assumption) ?_
          rotate_left
          · intro W hSw
            clear hSw
            have qq := q1
            go_simp
            try with_reducible rfl
          simp only [Act.put, List.setIfInBounds_toArray, List.set_cons_zero, List.set_cons_succ]
          refine wpAnyH_take (i := 14) (oi := { dst := some 59, op := Op.move (Operand.tmp 58), type := 4, pos := "outright.go:74", after := #[{ on := 13, ground := Ground.data }, { on := 7, ground := Ground.chain }, { on := 7, ground := Ground.guard }], guard := some (7, false) }) (v := ?_) rfl (by kernel_rfl) (by kernel_rfl) (by kernel_rfl) (fun _ _ _ h => h) (Or.inl ⟨by rfl, ?_⟩) (by assumption) ?_
          rotate_left
          · intro W hSw
            clear hSw
            go_simp
            try with_reducible rfl
          simp only [Act.put, List.setIfInBounds_toArray, List.set_cons_zero, List.set_cons_succ]
          refine wpAnyH_take (i := 15) (oi := { dst := some 60, op := Op.fieldAddr 81 (Operand.tmp 4) 0, type := 0, pos := "outright.go:74", after := #[{ on := 14, ground := Ground.guard }], guard := some (14, true) }) (v := ?_) rfl (by kernel_rfl) (by kernel_rfl) (by kernel_rfl) (fun _ _ _ h => h) (Or.inl ⟨by rfl, ?_⟩) (by assumption) ?_
          rotate_left
          · intro W hSw
            clear hSw
            go_simp
            try with_reducible rfl
          simp only [Act.put, List.setIfInBounds_toArray, List.set_cons_zero, List.set_cons_succ]
          refine wpAnyH_take (i := 16) (oi := { dst := some 61, op := Op.fieldAddr 24 (Operand.tmp 60) 0, type := 0, pos := "outright.go:74", after := #[{ on := 15, ground := Ground.data }, { on := 14, ground := Ground.guard }], guard := some (14, true) }) (v := ?_) rfl (by kernel_rfl) (by kernel_rfl) (by kernel_rfl) (fun _ _ _ h => h) (Or.inl ⟨by rfl, ?_⟩) (by assumption) ?_
          rotate_left
          · intro W hSw
            clear hSw
            go_simp
            try with_reducible rfl
          simp only [Act.put, List.setIfInBounds_toArray, List.set_cons_zero, List.set_cons_succ]
          refine wpAnyH_take (i := 17) (oi := { dst := some 62, op := Op.load 5 (Operand.tmp 61), type := 5, pos := "outright.go:74", after := #[{ on := 16, ground := Ground.data }, { on := 14, ground := Ground.guard }], guard := some (14, true) }) (v := ?_) rfl (by kernel_rfl) (by kernel_rfl) (by kernel_rfl) (fun _ _ _ h => h) (Or.inl ⟨by rfl, ?_⟩) (by assumption) ?_
          rotate_left
          · intro W hSw
            have k0 := (HQ.out.later hSw).cell 0
            have k1 := (HQ.out.later hSw).cell 1
            have k2 := (HQ.out.later hSw).cell 2
            have k3 := (HQ.out.later hSw).cell 3
            have k4 := (HQ.out.later hSw).cell 4
            have k5 := (HQ.out.later hSw).cell 5
            have k6 := (HQ.out.later hSw).cell 6
            have k7 := (HQ.out.later hSw).cell 7
            simp only [List.getElem?_toArray, List.getElem?_cons_zero, List.getElem?_cons_succ] at k0 k1 k2 k3 k4 k5 k6 k7
            go_simp
            try with_reducible rfl
          simp only [Act.put, List.setIfInBounds_toArray, List.set_cons_zero, List.set_cons_succ]
          refine wpAnyH_take (i := 18) (oi := { dst := some 63, op := Op.binOp BinOp.leq 5 (Operand.tmp 62) (Operand.const (Value.int IntKind.u8 5)) 5, type := 4, pos := "outright.go:74", after := #[{ on := 17, ground := Ground.data }, { on := 14, ground := Ground.guard }], guard := some (14, true) }) (v := ?_) rfl (by kernel_rfl) (by kernel_rfl) (by kernel_rfl) (fun _ _ _ h => h) (Or.inl ⟨by rfl, ?_⟩) (by assumption) ?_
          rotate_left
          · intro W hSw
            clear hSw
            have qq := q2
            go_simp
            try with_reducible rfl
          simp only [Act.put, List.setIfInBounds_toArray, List.set_cons_zero, List.set_cons_succ]
          refine wpAnyH_take (i := 19) (oi := { dst := some 64, op := Op.pick (Operand.tmp 59) (Operand.tmp 63) (Operand.const (Value.bool false)), type := 4, pos := "outright.go:74", after := #[{ on := 14, ground := Ground.data }, { on := 18, ground := Ground.data }, { on := 7, ground := Ground.guard }], guard := some (7, false) }) (v := ?_) rfl (by kernel_rfl) (by kernel_rfl) (by kernel_rfl) (fun _ _ _ h => h) (Or.inl ⟨by rfl, ?_⟩) (by assumption) ?_
          rotate_left
          · intro W hSw
            clear hSw
            go_simp
            try with_reducible rfl
          simp only [Act.put, List.setIfInBounds_toArray, List.set_cons_zero, List.set_cons_succ]
          refine wpAnyH_take (i := 20) (oi := { dst := some 65, op := Op.binOp BinOp.neq 4 (Operand.tmp 54) (Operand.tmp 64) 4, type := 4, pos := "outright.go:74", after := #[{ on := 9, ground := Ground.data }, { on := 19, ground := Ground.data }, { on := 7, ground := Ground.guard }], guard := some (7, false) }) (v := ?_) rfl (by kernel_rfl) (by kernel_rfl) (by kernel_rfl) (fun _ _ _ h => h) (Or.inl ⟨by rfl, ?_⟩) (by assumption) ?_
          rotate_left
          · intro W hSw
            clear hSw
            go_simp
            try with_reducible rfl
          simp only [Act.put, List.setIfInBounds_toArray, List.set_cons_zero, List.set_cons_succ]
          refine wpAnyH_take (i := 21) (oi := { dst := some 66, op := Op.pick (Operand.tmp 52) (Operand.const (Value.bool true)) (Operand.tmp 65), type := 4, pos := "outright.go:74", after := #[{ on := 7, ground := Ground.data }, { on := 20, ground := Ground.data }], guard := none }) (v := ?_) rfl (by kernel_rfl) (by kernel_rfl) (by kernel_rfl) (fun _ _ _ h => h) (Or.inl ⟨by rfl, ?_⟩) (by assumption) ?_
          rotate_left
          · intro W hSw
            clear hSw
            go_simp
            try with_reducible rfl
          simp only [Act.put, List.setIfInBounds_toArray, List.set_cons_zero, List.set_cons_succ]
          refine wpAnyH_done (by kernel_rfl) (NoPanic.normal ?_) _
          have HF := Lib.hid (stepB HB2.out HH.out)
          clear hHeld HH HF1
          go_wp2
          go_roundw
          case rel => exact ⟨k + 1, by omega, by go_num, HF.out⟩
          case measure => simp [intOf]; omega
    · obtain rfl : 13 = k := by omega
      have d2 : decide (((13 : Nat) : Int) < 13) = false := by decide
      have HF := Lib.hid (stepB HB.out HB1.out)
      go_wp2
      go_ret
      exact ⟨rfl, HF.out⟩
end Go.Proofs.YtkgdmdcnhbaidaaDoor
