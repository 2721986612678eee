/- A run of steps; what a step leaves to the other writers. -/
import Derived.Test.YtmkgipbepipjkaaDoorN
import Derived.Test.YtmkgipbepipjkaaDoorO
namespace Go.Proofs.YtmkgipbepipjkaaDoor
open Go.ChangeShapes Go.WideShapes Go.ChangeAt Go.RowKit
set_option linter.unusedVariables false
set_option linter.unusedSimpArgs false

theorem turnS_other {L : List Wr} {la i st ts w : Int} (h : w ≠ i) : ofL (turnS L la i st ts) w = ofL L w := by
  unfold turnS
  by_cases he : turnE L la i st ts = 0
  · rw [if_pos he]
    unfold turnE at he
    by_cases c1 : i < 1 ∨ (L.length : Int) < i
    · rw [if_pos c1] at he; cases he
    have hk : (i - 1).toNat < L.length := by omega
    rw [ofL_set hk, if_neg (by omega)]
  · rw [if_neg he]
theorem do_other {L : List Wr} {la : Int} (wh i ts : Int) {q : Nat} (hq : q < L.length) (h : (q : Int) + 1 ≠ i) : ofL (doS L la wh i ts) ((q : Int) + 1) = ofL L ((q : Int) + 1) := by
  unfold doS
  by_cases h0 : wh = 0
  · rw [if_pos h0, ofL_app, if_neg (by omega)]
  · rw [if_neg h0]
    by_cases h1 : wh = 1
    · rw [if_pos h1]; exact turnS_other h
    · rw [if_neg h1]
      by_cases h2 : wh = 2
      · rw [if_pos h2]; exact turnS_other h
      · rw [if_neg h2]
        by_cases h3 : wh = 3
        · rw [if_pos h3]; exact turnS_other h
        · rw [if_neg h3]; exact turnS_other h
/-- the first k steps -/
def runK (S : List Stp) (x : List Wr × Int) : Nat → List Wr × Int
  | 0 => x
  | k + 1 => (doS (runK S x k).1 (runK S x k).2 (S.getD k stp0).1 (S.getD k stp0).2.1 (S.getD k stp0).2.2, doT (runK S x k).1 (runK S x k).2 (S.getD k stp0).1 (S.getD k stp0).2.1 (S.getD k stp0).2.2)
theorem runK_next {S : List Stp} {x : List Wr × Int} {k : Nat} {C M : List Wr} {lc lb wh wi ts : Int} (h : runK S x k = (C, lc)) (hx : S.getD k stp0 = (wh, wi, ts)) (hM : doS C lc wh wi ts = M) (hl : doT C lc wh wi ts = lb) : runK S x (k + 1) = (M, lb) := by
  unfold runK; rw [h, hx]; show (doS C lc wh wi ts, doT C lc wh wi ts) = _; rw [hM, hl]
theorem Apart.symm {u v : Value} (h : Apart u v) : Apart v u := fun k h1 h2 => h k h2 h1
theorem of_rng {W : World} {B p : Nat} {v : Value} {L : List Wr} {la : Int} {en : Nat} (h : WrAt W B p v L la en) (i : Int) : 0 ≤ (ofL L i).1 ∧ (ofL L i).1 ≤ 4 := by
  unfold ofL
  split
  · rename_i hi
    have hk : (i - 1).toNat < L.length := by omega
    obtain ⟨s, t, hx, hs⟩ := h.at hk
    rw [hx]; exact hs
  · exact ⟨by decide, by decide⟩
/-- a copy's row lies apart from what lay there -/
theorem copy_apart {w W : World} {n B' : Nat} {u v : Value} {L M : List Wr} (h : WOwn W n u M) (k : WOwn w B' v L) (hn : w.heap.size ≤ n) : Apart u v := fun j h1 h2 => by
  have := (h.lt j h1).1; have := (k.lt j h2).2; omega
theorem is_same {s t : Int} : isB (s, t) s t = true := by unfold isB; simp
end Go.Proofs.YtmkgipbepipjkaaDoor
