/- Whose tasks have been seen; what they hold together. -/
import Derived.Test.YtgjponobiplipaaQ2
namespace Go.Proofs.Ytgjponobiplipaa
open Go.ChangeShapes Go.WideShapes Go.ChangeAt Go.RowKit Go.Maps
set_option linter.unusedVariables false
set_option linter.unusedSimpArgs false

def seenB (S : List Stp) (k : Nat) (t : Int) : Bool := (List.range k).any fun j => decide ((S.getD j stp0).2.2 = t)
theorem seen_succ (S : List Stp) (k : Nat) (t : Int) : seenB S (k + 1) t = (seenB S k t || decide ((S.getD k stp0).2.2 = t)) := by
  unfold seenB; rw [List.range_succ, List.any_append]; simp
def cntS (C : List Ct) (S : List Stp) (k : Nat) : Nat := (C.filter fun p => seenB S k p.2).length
theorem cnt_zero (C : List Ct) (S : List Stp) : cntS C S 0 = 0 := by
  unfold cntS; rw [List.filter_eq_nil_iff.2 (fun p _ => by simp [seenB])]; rfl
theorem cnt_le (C : List Ct) (S : List Stp) (k : Nat) : cntS C S k ≤ C.length := List.length_filter_le _ _
theorem cnt_known {C : List Ct} {S : List Stp} {k : Nat} (h : seenB S k (S.getD k stp0).2.2 = true) : cntS C S (k + 1) = cntS C S k := by
  unfold cntS
  congr 1
  refine List.filter_congr (fun p _ => ?_)
  rw [seen_succ]
  by_cases e : (S.getD k stp0).2.2 = p.2
  · rw [← e, h]; rfl
  · rw [decide_eq_false e, Bool.or_false]
theorem cnt_new {S : List Stp} {k : Nat} (h : seenB S k (S.getD k stp0).2.2 = false) : ∀ C : List Ct, cntS C S (k + 1) = cntS C S k + (heldC C (S.getD k stp0).2.2).length
  | [] => rfl
  | p :: C => by
    have ih := cnt_new h C
    unfold cntS heldC at ih ⊢
    rw [List.filter_cons, List.filter_cons, List.filter_cons, seen_succ]
    by_cases e : (S.getD k stp0).2.2 = p.2
    · rw [← e, h]
      simp only [decide_true, Bool.false_or, if_true, Bool.false_eq_true, if_false, List.length_cons, List.map_cons]
      rw [ih]; omega
    · rw [decide_eq_false e, Bool.or_false, decide_eq_false (fun h => e h.symm)]
      by_cases s : seenB S k p.2 = true
      · simp only [s, if_true, Bool.false_eq_true, if_false, List.length_cons]
        rw [ih]; omega
      · simp only [s, Bool.false_eq_true, if_false]
        exact ih
theorem cnt_all {C : List Ct} {S : List Stp} {n : Nat} (h : ∀ p ∈ C, seenB S n p.2 = true) : cntS C S n = C.length := by
  unfold cntS; rw [List.filter_eq_self.2 h]
theorem mem_do {C : List Ct} {s : Stp} {p : Ct} (h : p ∈ doC C s) : p ∈ C ∨ p.2 = s.2.2 := by
  unfold doC dropS tryS at h
  split at h
  · split at h
    · exact .inl (mem_del.1 h).1
    · exact .inl h
  · split at h
    · exact .inl h
    · unfold putC at h
      rcases mem_ins.1 h with rfl | h
      · exact .inr rfl
      · exact .inl (mem_del.1 h).1
theorem owners (S : List Stp) : ∀ k, ∀ p ∈ runC S [] k, seenB S k p.2 = true
  | 0, p, h => by cases h
  | k + 1, p, h => by
    rw [seen_succ]
    rcases mem_do h with h | h
    · rw [owners S k p h]; rfl
    · rw [decide_eq_true h.symm]; simp
theorem held_at {C : List Ct} (h : Ok C) {t : Int} {j : Nat} (hj : j < (heldC C t).length) : rg ((heldC C t).getD j 0) ∧ isC C ((heldC C t).getD j 0) = true ∧ ofC C ((heldC C t).getD j 0) = t := by
  have hm : (heldC C t).getD j 0 ∈ heldC C t := by rw [List.getD_eq_getElem?_getD, List.getElem?_eq_getElem hj]; exact List.getElem_mem hj
  generalize (heldC C t).getD j 0 = z at *
  obtain ⟨p, hp, rfl⟩ := List.mem_map.1 hm
  obtain ⟨hp, ht⟩ := List.mem_filter.1 hp
  have := of_is h.up hp
  exact ⟨h.rgs p hp, this.1, by rw [this.2]; exact of_decide_eq_true ht⟩
theorem NSl.below {w W W' : World} {n B : Nat} {A : Option Addr} {L : List Int} (h : NSl W B A L) (hb : Below W.heap.size W W') : NSl W' B A L := h.later hb
end Go.Proofs.Ytgjponobiplipaa
