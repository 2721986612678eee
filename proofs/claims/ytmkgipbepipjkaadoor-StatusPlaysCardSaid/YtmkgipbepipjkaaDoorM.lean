/- What a law's loops keep; lengths, states of what steps make. -/
import Derived.Test.YtmkgipbepipjkaaDoorL
namespace Go.Proofs.YtmkgipbepipjkaaDoor
open Go.ChangeShapes Go.WideShapes Go.ChangeAt Go.RowKit
set_option linter.unusedVariables false
set_option linter.unusedSimpArgs false

theorem turnS_len (L : List Wr) (la i st ts : Int) : (turnS L la i st ts).length = L.length := by unfold turnS; split <;> simp
theorem doS_len (L : List Wr) (la wh i ts : Int) : (doS L la wh i ts).length = if wh = 0 then L.length + 1 else L.length := by
  unfold doS
  by_cases h0 : wh = 0
  · rw [if_pos h0, if_pos h0]; simp
  · rw [if_neg h0, if_neg h0]
    by_cases h1 : wh = 1
    · rw [if_pos h1]; exact turnS_len ..
    · rw [if_neg h1]
      by_cases h2 : wh = 2
      · rw [if_pos h2]; exact turnS_len ..
      · rw [if_neg h2]
        by_cases h3 : wh = 3
        · rw [if_pos h3]; exact turnS_len ..
        · rw [if_neg h3]; exact turnS_len ..
section
variable {W W' : World} {B p : Nat} {v : Value} {L : List Wr} {la : Int} {en : Nat}
/-- a row of numbers grows, or a block of another type turns: the object stays -/
theorem WrAt.grown (h : WrAt W B p v L la en) {r : Option Nat} (hg : W.grownBy W' r) (hr : ∀ k, r = some k → ∃ cur t, W.heap[k]? = some (.cells cur t (0, 0)) ∧ t ≠ 47 ∧ t ≠ 49) : WrAt W' B p v L la en := by
  refine ⟨h.hp, h.blk.grown hg (fun e => ?_), World.ownsRow.kept h.own hg ?_, h.le, h.nb, h.la0, h.la1, h.st⟩
  · obtain ⟨cur, t, h1, h2, _⟩ := hr p e.symm
    have h3 : W.heap[p]? = some (.cells #[v, .int .i64 en, .int .i64 la] 47 (0, 0)) := h.blk
    rw [h3] at h1; cases h1; exact h2 rfl
  · cases h0 : v.ownBlock with
    | none => exact .inl rfl
    | some k =>
      right; intro e
      obtain ⟨cur, hc⟩ := h.own.tag k h0
      obtain ⟨cur', t, h1, _, h2⟩ := hr k e.symm
      rw [hc] at h1; cases h1; exact h2 rfl
theorem TabAt.grown {r : Option Nat} (h : TabAt W) (hg : W.grownBy W' r) (hr : ∀ k, r = some k → k ≠ 0) : TabAt W' := by
  have e : W'.heap[0]? = W.heap[0]? := hg.block 0 h.lt (fun e => hr 0 e.symm rfl)
  have c : ∀ j, W'.cell? ⟨0, j, none⟩ = W.cell? ⟨0, j, none⟩ := fun j => World.cell?_of_block (a := ⟨0, j, none⟩) e
  exact ⟨(c 0).trans h.1, (c 1).trans h.2.1, (c 2).trans h.2.2.1, (c 3).trans h.2.2.2.1, (c 4).trans h.2.2.2.2⟩
theorem high_e (h : WrAt W B p v L la en) (hn : L.length ≤ 1000000) : Calls Tryd.prog 16 #[.pointer (some ⟨p, 0, none⟩)] W fun x w' => x = .returned (.int .i64 ((L.length : Int) + 1)) ∧ W = w' := (high_any B p v L la en W h hn).mono fun x w' h => ⟨h.1, h.2.symm⟩
theorem last_e (h : WrAt W B p v L la en) : Calls Tryd.prog 17 #[.pointer (some ⟨p, 0, none⟩)] W fun x w' => x = .returned (.int .i64 la) ∧ W = w' := (last_any B p v L la en W h).mono fun x w' h => ⟨h.1, h.2.symm⟩
/-- who is busy of the first k -/
theorem busyOf_next (L : List Wr) (k : Nat) {b : Bool} (hb : busyB (L.getD k w0r) = b) : busyOf (seqE L 0 (k + 1)) = if b then busyOf (seqE L 0 k) ++ [(k : Int) + 1] else busyOf (seqE L 0 k) := by
  rw [seqE_succ, busyOf_snoc]
  simp only [Nat.zero_add]
  rw [hb]
theorem actOf_next (L : List Wr) (k : Nat) {s t : Int} (hb : L.getD k w0r = (s, t)) : actOf (seqE L 0 (k + 1)) = if s = 1 then actOf (seqE L 0 k) + 1 else actOf (seqE L 0 k) := by
  rw [seqE_succ, actOf_snoc]
  simp only [Nat.zero_add]
  rw [hb]
end
end Go.Proofs.YtmkgipbepipjkaaDoor
