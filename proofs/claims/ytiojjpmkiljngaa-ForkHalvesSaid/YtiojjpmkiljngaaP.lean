/- The steps of a region's chains: a call, an operation that runs; a variable that was just made. -/
import Derived.Test.YtiojjpmkiljngaaW
import Derived.Test.YtiojjpmkiljngaaV
import Derived.Test.YtiojjpmkiljngaaZ
namespace Go.Proofs.Ytiojjpmkiljngaa
open Go.ChangeShapes Go.WideShapes Go.ChangeAt Go.RowKit
set_option linter.unusedVariables false
set_option linter.unusedSimpArgs false

theorem step_run {P : Program} {ops : Array Oper} {Q : Exit → Act → World → Prop} {o : Oper} {a : Act} {w w' : World} {v : Value} {K : Act → World → Prop} {D : Prop} (hgd : o.guard = Option.none) (hrun : (execOp a.eval o).run P w = .ok (.value v) w') (h : K (a.put o.dst v) w') :
    if Region.wanted o (yielded ops a.tmps) = true then Oper.wp P o a w K Q else D := by
  rw [if_pos (show Region.wanted o (yielded ops a.tmps) = true by simp [Region.wanted, hgd])]
  unfold Oper.wp
  rw [hrun]
  exact h
theorem step_call {P : Program} {ops : Array Oper} {Q : Exit → Act → World → Prop} {o : Oper} {a : Act} {w : World} {K : Act → World → Prop} {D : Prop} (hgd : o.guard = Option.none) (f : FuncId) (args : Array Value) (hrun : (execOp a.eval o).run P w = .ok (.enter f args) w) (h : Calls P f args w fun e w' => ∃ v, e = .returned v ∧ K (a.put o.dst v) w') :
    if Region.wanted o (yielded ops a.tmps) = true then Oper.wp P o a w K Q else D := by
  rw [if_pos (show Region.wanted o (yielded ops a.tmps) = true by simp [Region.wanted, hgd])]
  unfold Oper.wp
  rw [hrun, Oper.upon_enter]
  refine h.mono fun e w' hh => ?_
  obtain ⟨v, rfl, hk⟩ := hh
  exact hk
/-- how far a chain of one call that tells a node is -/
def ChN (lf : Bool) (xs : List ByteArray) (ks rs : List Int) (n m k : Nat) : Nat → Value → World → Prop
  | 0, v, _ => v = undef
  | _, v, W => ∃ A B C c d e, v = .agg #[.bool lf, .slice A n c, .slice B m d, .slice C k e] ∧ Nd W A B C n c m d k e xs ks rs
/-- .. of one alloc -/
def ChB (w0 : World) (t : TypeId) : Nat → Value → World → Prop
  | 0, v, _ => v = undef
  | _, v, W => ∃ b, v = .pointer (some ⟨b, 0, none⟩) ∧ w0.heap.size ≤ b ∧ Blk W b #[.bool false, .slice none 0 0, .slice none 0 0, .slice none 0 0] t
theorem ChN.later {lf : Bool} {xs : List ByteArray} {ks rs : List Int} {n m k i : Nat} {v : Value} {W W' : World} (h : ChN lf xs ks rs n m k i v W) (hb : Below W.heap.size W W') : ChN lf xs ks rs n m k i v W' := by
  match i, h with
  | 0, h => exact h
  | i + 1, h => obtain ⟨A, B, C, c, d, e, h1, h2⟩ := h; exact ⟨A, B, C, c, d, e, h1, h2.later hb⟩
theorem ChB.later {w0 : World} {t : TypeId} {i : Nat} {v : Value} {W W' : World} (h : ChB w0 t i v W) (hb : Below W.heap.size W W') : ChB w0 t i v W' := by
  match i, h with
  | 0, h => exact h
  | i + 1, h => obtain ⟨b, h1, h2, h3⟩ := h; exact ⟨b, h1, h2, h3.later hb⟩
theorem Blk.ne {W : World} {b b' : Nat} {c c' : Array Value} {t t' : TypeId} (h : Blk W b c t) (h' : Blk W b' c' t') (ht : t ≠ t') : b ≠ b' := fun e => by
  subst e
  have h1 : W.heap[b]? = some (.cells c t (0, 0)) := h
  have h2 : W.heap[b]? = some (.cells c' t' (0, 0)) := h'
  rw [h1] at h2
  cases h2
  exact ht rfl
theorem fsame_any (lf : Bool) (A B C : Option Addr) (n c m d k e : Nat) (xs : List ByteArray) (ks rs : List Int) (lf' : Bool) (A' B' C' : Option Addr) (n' c' m' d' k' e' : Nat) (ys : List ByteArray) (js ss : List Int) (w : World) (hN : Nd w A B C n c m d k e xs ks rs) (hM : Nd w A' B' C' n' c' m' d' k' e' ys js ss) :
    Calls Try.prog 27 #[.agg #[.bool lf, .slice A n c, .slice B m d, .slice C k e], .agg #[.bool lf', .slice A' n' c', .slice B' m' d', .slice C' k' e']] w (BoolEnd (sameN lf lf' xs ys ks js rs ss) w) := by
  have e0 : sameN lf lf' xs ys ks js rs ss = (decide (lf = lf') && (decide (xs = ys) && (decide (ks = js) && decide (rs = ss)))) := by
    unfold sameN; rw [Bool.decide_and, Bool.decide_and, Bool.decide_and]
  cases lf <;> cases lf'
  · exact e0 ▸ fsame_false A B C n c m d k e xs ks rs A' B' C' n' c' m' d' k' e' ys js ss w hN hM
  · exact e0 ▸ fsame_false_true A B C n c m d k e xs ks rs A' B' C' n' c' m' d' k' e' ys js ss w hN hM
  · exact e0 ▸ fsame_true_false A B C n c m d k e xs ks rs A' B' C' n' c' m' d' k' e' ys js ss w hN hM
  · exact e0 ▸ fsame_true A B C n c m d k e xs ks rs A' B' C' n' c' m' d' k' e' ys js ss w hN hM
end Go.Proofs.Ytiojjpmkiljngaa
