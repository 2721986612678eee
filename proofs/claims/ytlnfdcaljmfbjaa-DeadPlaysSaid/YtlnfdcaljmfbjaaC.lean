/- Counts put in, taken out. -/
import Derived.Test.YtlnfdcaljmfbjaaB
namespace Go.Proofs.Ytlnfdcaljmfbjaa
open Go.ChangeShapes Go.WideShapes Go.ChangeAt Go.RowKit Go.Maps
set_option linter.unusedVariables false
set_option linter.unusedSimpArgs false

theorem mem_del {C : List Ct} {t : Int} {p : Ct} : p ∈ delC C t ↔ p ∈ C ∧ p.1 ≠ t := by unfold delC; rw [List.mem_filter]; simp
theorem mem_ins {x p : Ct} : ∀ {C : List Ct}, p ∈ insC x C ↔ p = x ∨ p ∈ C
  | [] => by simp [insC]
  | y :: r => by
    unfold insC
    split
    · simp
    · rw [List.mem_cons, mem_ins (C := r), List.mem_cons]
      constructor
      · rintro (h | h | h)
        · exact .inr (.inl h)
        · exact .inl h
        · exact .inr (.inr h)
      · rintro (h | h | h)
        · exact .inr (.inl h)
        · exact .inl h
        · exact .inr (.inr h)
theorem ins_up {x : Ct} : ∀ {C : List Ct}, C.Pairwise (fun p q => p.1 < q.1) → (∀ p ∈ C, p.1 ≠ x.1) → (insC x C).Pairwise (fun p q => p.1 < q.1)
  | [], _, _ => by simp [insC]
  | y :: r, h, hn => by
    obtain ⟨h1, h2⟩ := List.pairwise_cons.1 h
    unfold insC
    split
    · rename_i hlt
      refine List.pairwise_cons.2 ⟨fun p hp => ?_, h⟩
      rcases List.mem_cons.1 hp with rfl | hp
      · exact hlt
      · have := h1 p hp; omega
    · rename_i hlt
      refine List.pairwise_cons.2 ⟨fun p hp => ?_, ins_up h2 (fun p hp => hn p (List.mem_cons_of_mem _ hp))⟩
      rcases mem_ins.1 hp with rfl | hp
      · have := hn y (List.mem_cons_self ..); omega
      · exact h1 p hp
theorem sum_ins (x : Ct) : ∀ C : List Ct, sumC (insC x C) = x.2 + sumC C
  | [] => rfl
  | y :: r => by
    unfold insC
    split
    · rfl
    · show y.2 + sumC (insC x r) = x.2 + (y.2 + sumC r)
      rw [sum_ins x r]; omega
theorem of_none : ∀ {C : List Ct} {t : Int}, (∀ p ∈ C, p.1 ≠ t) → ofC C t = 0
  | [], _, _ => rfl
  | p :: C, t, h => by unfold ofC; rw [if_neg (h p (List.mem_cons_self ..))]; exact of_none (fun q hq => h q (List.mem_cons_of_mem _ hq))
theorem del_none {C : List Ct} {t : Int} (h : ∀ p ∈ C, p.1 ≠ t) : delC C t = C := List.filter_eq_self.2 (fun p hp => decide_eq_true (h p hp))
theorem sum_del : ∀ {C : List Ct} (t : Int), C.Pairwise (fun p q => p.1 < q.1) → sumC (delC C t) = sumC C - ofC C t
  | [], _, _ => rfl
  | p :: C, t, h => by
    obtain ⟨h1, h2⟩ := List.pairwise_cons.1 h
    have ih := sum_del (C := C) t h2
    by_cases e : p.1 = t
    · have hd : delC (p :: C) t = delC C t := by unfold delC; rw [List.filter_cons_of_neg (by simp [e])]
      have hn : ∀ q ∈ C, q.1 ≠ t := fun q hq => by have := h1 q hq; omega
      rw [hd, del_none hn]
      unfold ofC; rw [if_pos e]; show sumC C = p.2 + sumC C - p.2; omega
    · have hd : delC (p :: C) t = p :: delC C t := by unfold delC; rw [List.filter_cons_of_pos (by simp [e])]
      rw [hd]
      unfold ofC; rw [if_neg e]; show p.2 + sumC (delC C t) = p.2 + sumC C - ofC C t; rw [ih]; omega
theorem sum_put {C : List Ct} (t n : Int) (h : C.Pairwise (fun p q => p.1 < q.1)) : sumC (putC C t n) = sumC C - ofC C t + n := by unfold putC; rw [sum_ins, sum_del t h]; show n + _ = _; omega
theorem of_mem : ∀ {C : List Ct} {t : Int}, ofC C t ≠ 0 → (t, ofC C t) ∈ C
  | [], _, h => absurd rfl h
  | p :: C, t, h => by
    unfold ofC at h ⊢
    by_cases e : p.1 = t
    · rw [if_pos e, ← e]; exact List.mem_cons_self ..
    · rw [if_neg e] at h ⊢; exact List.mem_cons_of_mem _ (of_mem h)
theorem of_is : ∀ {C : List Ct} {p : Ct}, C.Pairwise (fun p q => p.1 < q.1) → p ∈ C → ofC C p.1 = p.2
  | [], _, _, h => by cases h
  | q :: C, p, h, hp => by
    obtain ⟨h1, h2⟩ := List.pairwise_cons.1 h
    unfold ofC
    rcases List.mem_cons.1 hp with rfl | hp
    · rw [if_pos rfl]
    · rw [if_neg (by have := h1 p hp; omega)]; exact of_is h2 hp
theorem Ok.of0 {C : List Ct} (h : Ok C) (t : Int) : 0 ≤ ofC C t ∧ ofC C t ≤ sumC C ∧ (ofC C t ≠ 0 → 1 ≤ t ∧ t ≤ 1048576) := by
  by_cases e : ofC C t = 0
  · have := sum_nn h.pos; exact ⟨by omega, by omega, fun h => absurd e h⟩
  · have hm := of_mem e
    have h1 := h.pos _ hm
    have h2 := sum_del (C := C) t h.up
    have h3 := sum_nn (C := delC C t) (fun p hp => h.pos p (mem_del.1 hp).1)
    simp only at h1
    exact ⟨by omega, by omega, fun _ => h.ts _ hm⟩
theorem Ok.del {C : List Ct} (h : Ok C) (t : Int) : Ok (delC C t) :=
  ⟨h.up.filter _, fun p hp => h.pos p (mem_del.1 hp).1, fun p hp => h.ts p (mem_del.1 hp).1, by have := sum_del t h.up; have := h.sum; have := (h.of0 t).1; omega⟩
theorem Ok.put {C : List Ct} (h : Ok C) {t n : Int} (ht : 1 ≤ t ∧ t ≤ 1048576) (hn : 1 ≤ n) (hs : sumC C - ofC C t + n ≤ 64) : Ok (putC C t n) := by
  refine ⟨ins_up (h.up.filter _) (fun p hp => (mem_del.1 hp).2), fun p hp => ?_, fun p hp => ?_, by rw [sum_put t n h.up]; exact hs⟩
  · rcases mem_ins.1 hp with rfl | hp
    · exact hn
    · exact h.pos p (mem_del.1 hp).1
  · rcases mem_ins.1 hp with rfl | hp
    · exact ht
    · exact h.ts p (mem_del.1 hp).1
theorem of_put {C : List Ct} (h : C.Pairwise (fun p q => p.1 < q.1)) (t n : Int) : ofC (putC C t n) t = n :=
  of_is (p := (t, n)) (ins_up (h.filter _) (fun p hp => (mem_del.1 hp).2)) (mem_ins.2 (.inl rfl))
theorem filter_ins {f : Ct → Bool} {x : Ct} (hx : f x = false) : ∀ C : List Ct, (insC x C).filter f = C.filter f
  | [] => by simp [insC, hx]
  | y :: r => by
    unfold insC
    split
    · rw [List.filter_cons_of_neg (by rw [hx]; decide)]
    · rw [List.filter_cons, List.filter_cons, filter_ins hx r]
theorem del_put (C : List Ct) (t n : Int) : delC (putC C t n) t = delC C t := by
  unfold putC
  show List.filter _ _ = _
  rw [filter_ins (by simp)]
  unfold delC
  rw [List.filter_filter]
  refine List.filter_congr (fun p _ => by simp)
theorem wf64 {x : Int} (h : -9223372036854775808 ≤ x ∧ x ≤ 9223372036854775807) : (Lit.int .i64 x).wf = true := by
  simp only [Lit.wf, Bool.and_eq_true, decide_eq_true_eq]
  exact ⟨by show (-9223372036854775808 : Int) ≤ x; omega, by show x ≤ (9223372036854775807 : Int); omega⟩
/-- what an Add answers, and makes; what a Less makes -/
def addE (C : List Ct) (t : Int) : Int := if t < 1 ∨ 1048576 < t then 1 else if 64 ≤ sumC C then 41 else 0
def addS (C : List Ct) (t : Int) : List Ct := if addE C t = 0 then putC C t (ofC C t + 1) else C
def lessS (C : List Ct) (t : Int) : List Ct := if ofC C t = 0 then C else if ofC C t = 1 then delC C t else putC C t (ofC C t - 1)
def passS (C : List Ct) (f : Int) : List Ct := C.filter fun p => decide (f < p.1)
theorem Ok.pass {C : List Ct} (h : Ok C) (f : Int) : Ok (passS C f) := by
  refine ⟨h.up.filter _, fun p hp => h.pos p (List.mem_filter.1 hp).1, fun p hp => h.ts p (List.mem_filter.1 hp).1, ?_⟩
  have e : ∀ {C : List Ct}, (∀ p ∈ C, 1 ≤ p.2) → sumC (passS C f) ≤ sumC C := by
    intro C
    induction C with
    | nil => intro _; exact Int.le_refl _
    | cons p C ih =>
      intro hp
      have h1 := hp p (List.mem_cons_self ..)
      have ih := ih (fun q hq => hp q (List.mem_cons_of_mem _ hq))
      unfold passS at ih ⊢
      rw [List.filter_cons]
      split
      · show p.2 + _ ≤ p.2 + _; omega
      · show _ ≤ p.2 + sumC C; omega
  have := e h.pos; have := h.sum; omega
end Go.Proofs.Ytlnfdcaljmfbjaa
