/- A row of counts in memory. -/
import Derived.Test.YtbnbhhmgfogjeaaGX
namespace Go.Proofs.Ytbnbhhmgfogjeaa
open Go.ChangeShapes Go.WideShapes Go.ChangeAt Go.RowKit Go.Maps
set_option linter.unusedVariables false
set_option linter.unusedSimpArgs false

def kv (x : Int) : Value := .int .i64 x
theorem info3 : ∃ i, Try.prog.info? 3 = some i ∧ i.zero = some (.int .i64 0) ∧ i.size = 1 ∧ i.bytes = 8 := by
  have h : (Try.prog.info? 3).map (fun i => (i.zero, i.size, i.bytes)) = some (some (.int .i64 0), 1, 8) := by kernel_rfl
  cases hi : Try.prog.info? 3 with
  | none => rw [hi] at h; cases h
  | some i => rw [hi] at h; simp only [Option.map_some, Option.some.injEq, Prod.mk.injEq] at h; exact ⟨i, rfl, h.1, h.2.1, h.2.2⟩
theorem mk36 (n : Nat) (hn : n ≤ 100000) (W : World) : (Instr.makeSlice 36 (.int .i64 (n : Int)) (.int .i64 (n : Int))).run Try.prog W = .ok (.slice (some ⟨W.heap.size, 0, none⟩) n n) (W.alloc (.cells (madeCells #[.int .i64 0] n) 3)) := by
  obtain ⟨i, hi, hz, hs, hb⟩ := info3
  have := run_make (P := Try.prog) W 36 3 i (.int .i64 0) Try.underlying36 hi hz .i64 .i64 n n (by omega) (by omega) (by rw [hb]; omega) (by omega)
  rw [hs] at this
  simpa [Value.cells] using this
theorem of_row (W : World) (B n : Nat) (hB : B ≤ W.heap.size) (hn : n ≤ 100000) : Ow kv (W.alloc (.cells (madeCells #[.int .i64 0] n) 3)) B 3 (.slice (some ⟨W.heap.size, 0, none⟩) n n) n (List.replicate n 0) := by
  refine ⟨by simp, .inr ⟨W.heap.size, n, madeCells #[.int .i64 0] n, rfl, hB, Blk.new W _ 3, Nat.le_refl _, by unfold maxLen; omega, by rw [size_madeCells, Nat.mul_one], ?_⟩⟩
  rw [Nat.mul_one]
  apply List.ext_getElem?
  intro k
  by_cases hk : k < n
  · rw [List.getElem?_take_of_lt hk, List.getElem?_map, List.getElem?_replicate, if_pos hk]
    unfold madeCells
    simp [hk, Nat.mod_one]
    rfl
  · rw [List.getElem?_eq_none (by rw [List.length_take]; omega), List.getElem?_eq_none (by simp; omega)]
theorem idx36 (g m c k : Nat) (i : Int) (hi : i = (k : Int)) (h : k < m) (W : World) : (Instr.indexAt 36 (.slice (some ⟨g, 0, none⟩) m c) (.int .i64 i)).run Try.prog W = .ok (.pointer (some ⟨g, k, none⟩)) W := by
  subst hi
  have h1 : (0 : Int) ≤ (k : Int) ∧ (k : Int) < (m : Int) := by omega
  go_simp
theorem idx36u (g m c k : Nat) (i : Int) (hi : i = (k : Int)) (h : k < m) (W : World) : (Instr.indexAt 36 (.slice (some ⟨g, 0, none⟩) m c) (.int .u16 i)).run Try.prog W = .ok (.pointer (some ⟨g, k, none⟩)) W := by
  subst hi
  have h1 : (0 : Int) ≤ (k : Int) ∧ (k : Int) < (m : Int) := by omega
  go_simp
theorem named_take {st : AS} {U : List Int} {j : Nat} (h : j < U.length) : cntA st (U.take (j + 1)) = cntA st (U.take j) + (isA st (U.getD j 0)).toNat ∧ ∀ p, cntP st (U.take (j + 1)) p = cntP st (U.take j) p + (isA st (U.getD j 0) && decide (hP (U.getD j 0) = p)).toNat := by
  have e : U.take (j + 1) = U.take j ++ [U.getD j 0] := by
    rw [List.take_add_one, getU h]
    rfl
  rw [e]
  exact ⟨cntA_app, fun p => cntP_app⟩
theorem named_le {st : AS} {U : List Int} {j p : Nat} : cntA st (U.take j) ≤ U.length ∧ cntP st (U.take j) p ≤ U.length := by
  have h1 : (U.take j).length ≤ U.length := by rw [List.length_take]; omega
  exact ⟨Nat.le_trans List.countP_le_length h1, Nat.le_trans List.countP_le_length h1⟩
end Go.Proofs.Ytbnbhhmgfogjeaa
