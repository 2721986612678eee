/- What a round of a loop over an iterator keeps: what lay below n₀, and all cells from n₁ on. -/
import Derived.Test.YtoinjnocopejjaaChecked
import Derived.WalkKit
import Derived.RangeFuncNested
import Derived.RangeFuncBound
import Derived.RangeFuncCalls
import Derived.RangeFuncLeaves
import Derived.RangeFuncBox
import Derived.Shelf.Abstract
import Derived.Shelf.RegionOpen
import Derived.OwnWalkIn
import Derived.TacticsInMore
import Derived.LoopNIn
import Derived.LoopIn
import Derived.Below
namespace Go.Proofs.Ytoinjnocopejjaa
open Go.RowKit Go.Shelf
structure KpB (n₀ n₁ : Nat) (W W' : World) : Prop where
  os : W'.os = W.os
  tape : W'.tape = W.tape
  output : W'.output = W.output
  size : W.heap.size ≤ W'.heap.size
  low : ∀ k, k < n₀ → W'.heap[k]? = W.heap[k]?
  cells : ∀ k o, n₁ ≤ k → W.heap[k]? = some o → o.isCells = true → W'.heap[k]? = some o
theorem KpB.refl (n₀ n₁ : Nat) (W : World) : KpB n₀ n₁ W W := ⟨rfl, rfl, rfl, Nat.le_refl _, fun _ _ => rfl, fun _ _ _ h _ => h⟩
theorem KpB.trans {n₀ n₁ : Nat} {A B C : World} (h : KpB n₀ n₁ A B) (k : KpB n₀ n₁ B C) : KpB n₀ n₁ A C :=
  ⟨k.os.trans h.os, k.tape.trans h.tape, k.output.trans h.output, Nat.le_trans h.size k.size, fun i hi => (k.low i hi).trans (h.low i hi), fun i o hi ho hc => k.cells i o hi (h.cells i o hi ho hc) hc⟩
theorem KpB.put {n₀ n₁ N : Nat} (hN : n₀ ≤ N) : ∀ (W : World) (l : Nat) (o o' : Obj), N ≤ l → W.heap[l]? = some o → o.isCells = false → o.isWalk = false → KpB n₀ n₁ W (W.putObj l o') := fun W l o o' hl ho hc _ =>
  have hg := grownBy_putObj' W l o'
  ⟨hg.os, hg.tape, hg.output, hg.size, fun k hk => by
    by_cases h2 : k < W.heap.size
    · exact hg.block k h2 (fun e => by cases e; omega)
    · have hl2 := (Array.getElem?_eq_some_iff.1 ho).1
      omega, fun k o2 hk ho2 hc2 => by
    by_cases e : k = l
    · subst e; rw [ho] at ho2; cases ho2; rw [hc] at hc2; cases hc2
    · exact (hg.block k (Array.getElem?_eq_some_iff.1 ho2).1 (fun e2 => e (by cases e2; rfl))).trans ho2⟩
theorem KpB.of_below {n₀ n₁ : Nat} {W W' : World} (h : Below W.heap.size W W') (hn : n₀ ≤ W.heap.size) : KpB n₀ n₁ W W' :=
  ⟨h.os, h.tape, h.output, h.size, fun k hk => h.block k (by omega), fun k o _ ho _ => (h.block k (Array.getElem?_eq_some_iff.1 ho).1).trans ho⟩
theorem KpB.setCell {n₀ n₁ : Nat} (W : World) {b off : Nat} (h0 : n₀ ≤ b) (h1 : b < n₁) (v : Value) : KpB n₀ n₁ W (W.setCell ⟨b, off, none⟩ v) :=
  have hh : ∀ k, k ≠ b → (W.setCell ⟨b, off, none⟩ v).heap[k]? = W.heap[k]? := fun k hk => Below.heap_setCell W ⟨b, off, none⟩ v k hk
  ⟨rfl, rfl, rfl, by simp [World.setCell], fun k hk => hh k (by omega), fun k o hk ho _ => (hh k (by omega)).trans ho⟩
theorem KpB.below {n₀ n₁ : Nat} {W W' : World} (h : KpB n₀ n₁ W W') : Below n₀ W W' := ⟨h.os, h.tape, h.output, h.size, fun k hk => h.low k hk⟩
theorem KpB.box {n₀ n₁ B : Nat} {W W' : World} {c : Array Value} {t : TypeId} {f : Nat × Nat} (h : KpB n₀ n₁ W W') (hB : n₁ ≤ B) (hb : W.heap[B]? = some (.cells c t f)) : W'.heap[B]? = some (.cells c t f) := h.cells B _ hB hb rfl
theorem cell_of_heap {W : World} {B j : Nat} {c : Array Value} {t : TypeId} {f : Nat × Nat} (h : W.heap[B]? = some (.cells c t f)) : W.cell? ⟨B, j, none⟩ = c[j]? := by
  unfold World.cell?; rw [h]; rfl
theorem grown_of_below {W W' : World} (h : Below W.heap.size W W') : W.grownBy W' none := ⟨h.os, h.tape, h.output, h.size, fun k hk _ => h.block k hk⟩
theorem kp_t {n₀ n₁ : Nat} : ∀ {A B C : World}, KpB n₀ n₁ A B → KpB n₀ n₁ B C → KpB n₀ n₁ A C := fun h k => h.trans k
end Go.Proofs.Ytoinjnocopejjaa
