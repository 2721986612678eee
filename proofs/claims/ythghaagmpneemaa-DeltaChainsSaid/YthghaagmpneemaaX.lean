/- Bytes of a text as memory of its own, written at one place; numbers from arguments. -/
import Derived.Test.YthghaagmpneemaaW
namespace Go.Proofs.Ythghaagmpneemaa
open Go.ChangeShapes Go.WideShapes Go.ChangeAt Go.RowKit
set_option linter.unusedVariables false
theorem byte_of_wf {n : Int} (h : (Lit.int .u8 n).wf = true) : 0 ≤ n ∧ n ≤ 255 := by
  have h1 : IntKind.u8.min = 0 := rfl
  have h2 : IntKind.u8.max = 255 := rfl
  simp only [Lit.wf, Bool.and_eq_true, decide_eq_true_eq] at h
  omega
theorem i64_of_wf {n : Int} (h : (Lit.int .i64 n).wf = true) : -9223372036854775808 ≤ n ∧ n ≤ 9223372036854775807 := by
  have h1 : IntKind.i64.min = -9223372036854775808 := rfl
  have h2 : IntKind.i64.max = 9223372036854775807 := rfl
  simp only [Lit.wf, Bool.and_eq_true, decide_eq_true_eq] at h
  omega
theorem pick_nat (x : Int) (n : Nat) (h : 0 < n) (h2 : n ≤ 1000000) : ∃ k : Nat, k < n ∧ wrap64 ((IntKind.u64.wrap x).tmod (n : Int)) = (k : Int) := by
  have h0 : 0 ≤ IntKind.u64.wrap x := by rw [IntKind.wrap_u64]; omega
  have h1 : (IntKind.u64.wrap x).tmod (n : Int) = (IntKind.u64.wrap x) % (n : Int) := Int.tmod_eq_emod_of_nonneg h0
  generalize IntKind.u64.wrap x = q at *
  have h3 : 0 ≤ q % (n : Int) := Int.emod_nonneg _ (by omega)
  have h4 : q % (n : Int) < n := Int.emod_lt_of_pos _ (by omega)
  refine ⟨(q % (n : Int)).toNat, by omega, ?_⟩
  rw [h1, Int.toNat_of_nonneg h3]
  unfold wrap64; omega
theorem conv_own (s : ByteArray) (w : World) : ∃ c C f, (convert 9 23 (.string s)).run Try.prog w = .ok (.slice (some ⟨w.heap.size, 0, none⟩) s.size c) (w.alloc (.cells C 5 f)).drew ∧
    (∀ j, j < s.size → C[j]? = some (.int .u8 (((bl s).getD j 0).toNat : Int))) ∧ f.1 = C.size ∧ s.size ≤ C.size ∧ s.size ≤ c := by
  refine ⟨_, _, _, run_bytes_of_string w 9 23 5 s Try.underlying9 Try.underlying23 Try.underlying5, fun j hj => ?_, rfl, by unfold bytesRow; rw [Array.size_append, Array.size_map]; exact Nat.le_add_right _ _, by unfold grownCap; exact Nat.le_add_right _ _⟩
  unfold bytesRow
  have hj' : j < s.data.size := hj
  rw [Array.getElem?_append_left (by simpa using hj')]
  simp only [bl, List.getD_eq_getElem?_getD, Array.getElem?_map, Array.getElem?_toList]
  rw [Array.getElem?_eq_getElem hj']
  simp
theorem cell_new (w : World) (C : Array Value) (T : TypeId) (f : Nat × Nat) (j : Nat) : (w.alloc (.cells C T f)).cell? ⟨w.heap.size, j, none⟩ = C[j]? := by
  unfold World.cell?
  rw [heap_alloc_new w _]
  rfl
theorem frozen_new (w : World) (C : Array Value) (T : TypeId) (f : Nat × Nat) (j : Nat) (h : j < f.1) : (w.alloc (.cells C T f)).frozen? ⟨w.heap.size, j, none⟩ = false := by
  unfold World.frozen?
  rw [heap_alloc_new w _]
  show (decide (f.1 ≤ j) && decide (j < f.2)) = false
  rw [decide_eq_false (by omega)]; rfl
theorem rd_new (w : World) (C : Array Value) (T : TypeId) (f : Nat × Nat) (l : List UInt8) (n : Nat) (hn : l.length = n) (h : ∀ j, j < n → C[j]? = some (.int .u8 ((l.getD j 0).toNat : Int))) : RdB (w.alloc (.cells C T f)) (some ⟨w.heap.size, 0, none⟩) n (intsOf l) := by
  refine ⟨by simp [intsOf, hn], fun _ => ⟨_, _, rfl, fun j hj => ?_⟩⟩
  rw [Nat.zero_add, cell_new, h j hj]
  simp only [intsOf, List.getD_eq_getElem?_getD, List.getElem?_map]
  rw [List.getElem?_eq_getElem (by omega)]
  simp
theorem index_s (a : ByteArray) (j : Nat) (W : World) (h : j < a.size) : (Instr.index 9 (.string a) (.int .i64 (j : Int))).run Try.prog W = .ok (.int .u8 (((bl a).getD j 0).toNat : Int)) W := by
  rw [run_index_string W 9 a .i64 _ Try.underlying9, ← bl_at a j h]
  simp [h]
theorem setCell_frz (w : World) (c : Array Value) (t : TypeId) (f : Nat × Nat) (i : Nat) (v : Value) :
    (w.alloc (.cells c t f)).setCell ⟨w.heap.size, i, none⟩ v = w.alloc (.cells (c.setIfInBounds i v) t f) := by
  unfold World.setCell World.alloc
  congr 1
  apply Array.ext_getElem?
  intro j
  rw [Array.getElem?_modify, Array.getElem?_push, Array.getElem?_push]
  by_cases e : w.heap.size = j
  · subst e; simp
  · have e' : ¬ j = w.heap.size := fun h => e h.symm
    simp [e, e']
theorem xor_ne (x y : UInt8) (h : y ≠ 0) : x ^^^ y ≠ x := by
  intro e
  apply h
  have := congrArg (fun z => x ^^^ z) e
  simpa [← UInt8.xor_assoc] using this
end Go.Proofs.Ythghaagmpneemaa
