/- Counts are told by how many there are of each; an Add, and a Less of it. -/
import Derived.Test.YtlnfdcaljmfbjaaC
namespace Go.Proofs.Ytlnfdcaljmfbjaa
open Go.ChangeShapes Go.WideShapes Go.ChangeAt Go.RowKit Go.Maps
set_option linter.unusedVariables false
set_option linter.unusedSimpArgs false

theorem of_lt {p : Ct} {C : List Ct} (h : (p :: C).Pairwise (fun p q => p.1 < q.1)) {t : Int} (ht : t ≤ p.1) : ofC C t = 0 :=
  of_none (fun q hq => by have := (List.pairwise_cons.1 h).1 q hq; omega)
theorem eq_of : ∀ {C D : List Ct}, C.Pairwise (fun p q => p.1 < q.1) → D.Pairwise (fun p q => p.1 < q.1) → (∀ p ∈ C, 1 ≤ p.2) → (∀ p ∈ D, 1 ≤ p.2) → (∀ t, ofC C t = ofC D t) → C = D
  | [], [], _, _, _, _, _ => rfl
  | [], q :: D, _, _, _, hq, h => by
    have h1 := hq q (List.mem_cons_self ..)
    have h2 := h q.1
    unfold ofC at h2
    rw [if_pos rfl] at h2
    omega
  | p :: C, [], _, _, hp, _, h => by
    have h1 := hp p (List.mem_cons_self ..)
    have h2 := h p.1
    unfold ofC at h2
    rw [if_pos rfl] at h2
    omega
  | p :: C, q :: D, hc, hd, hp, hq, h => by
    have p1 := hp p (List.mem_cons_self ..)
    have q1 := hq q (List.mem_cons_self ..)
    have a1 := h p.1
    have a2 := h q.1
    have b1 : ofC (p :: C) p.1 = p.2 := of_is hc (List.mem_cons_self ..)
    have b2 : ofC (q :: D) q.1 = q.2 := of_is hd (List.mem_cons_self ..)
    have e : p.1 = q.1 := by
      rcases Int.lt_trichotomy p.1 q.1 with hl | hl | hl
      · have : ofC (q :: D) p.1 = 0 := by unfold ofC; rw [if_neg (by omega)]; exact of_lt hd (by omega)
        omega
      · exact hl
      · have : ofC (p :: C) q.1 = 0 := by unfold ofC; rw [if_neg (by omega)]; exact of_lt hc (by omega)
        omega
    have e2 : p.2 = q.2 := by rw [← b1, a1, e, b2]
    have epq : p = q := Prod.ext e e2
    subst epq
    have hr : ∀ t, ofC C t = ofC D t := fun t => by
      by_cases ht : t ≤ p.1
      · rw [of_lt hc ht, of_lt hd ht]
      · have := h t
        unfold ofC at this
        rw [if_neg (by omega), if_neg (by omega)] at this
        exact this
    rw [eq_of (List.pairwise_cons.1 hc).2 (List.pairwise_cons.1 hd).2 (fun r hr => hp r (List.mem_cons_of_mem _ hr)) (fun r hr => hq r (List.mem_cons_of_mem _ hr)) hr]
theorem Ok.eq {C D : List Ct} (hc : Ok C) (hd : Ok D) (h : ∀ t, ofC C t = ofC D t) : C = D := eq_of hc.up hd.up hc.pos hd.pos h
theorem of_del : ∀ {C : List Ct} {t u : Int}, t ≠ u → ofC (delC C t) u = ofC C u
  | [], _, _, _ => rfl
  | p :: C, t, u, h => by
    have ih := of_del (C := C) h
    unfold delC at ih ⊢
    rw [List.filter_cons]
    by_cases e : p.1 = t
    · rw [if_neg (by simp [e]), ih]
      exact (if_neg (show ¬ p.1 = u by omega)).symm
    · rw [if_pos (by simp [e])]
      show ofC (p :: List.filter _ C) u = ofC (p :: C) u
      unfold ofC
      rw [ih]
theorem of_del_same (C : List Ct) (t : Int) : ofC (delC C t) t = 0 := of_none (fun p hp => (mem_del.1 hp).2)
theorem of_ins_other {x : Ct} {u : Int} (h : x.1 ≠ u) : ∀ C : List Ct, ofC (insC x C) u = ofC C u
  | [] => by show ofC [x] u = 0; unfold ofC; rw [if_neg h]; rfl
  | y :: r => by
    unfold insC
    split
    · show ofC (x :: y :: r) u = _
      rw [ofC, if_neg h]
    · show ofC (y :: insC x r) u = ofC (y :: r) u
      unfold ofC
      rw [of_ins_other h r]
theorem of_put_other {C : List Ct} {t n u : Int} (h : t ≠ u) : ofC (putC C t n) u = ofC C u := by
  unfold putC; rw [of_ins_other h, of_del h]
theorem of_put_any {C : List Ct} (hu : C.Pairwise (fun p q => p.1 < q.1)) (t n u : Int) : ofC (putC C t n) u = if u = t then n else ofC C u := by
  by_cases e : u = t
  · subst e; rw [if_pos rfl, of_put hu]
  · rw [if_neg e, of_put_other (fun h => e h.symm)]
theorem of_less {C : List Ct} (h : Ok C) (t u : Int) : ofC (lessS C t) u = if u = t ∧ ofC C t ≠ 0 then ofC C t - 1 else ofC C u := by
  unfold lessS
  by_cases h0 : ofC C t = 0
  · rw [if_pos h0, if_neg (by simp [h0])]
  · rw [if_neg h0]
    by_cases h1 : ofC C t = 1
    · rw [if_pos h1]
      by_cases e : u = t
      · subst e; rw [of_del_same, if_pos ⟨rfl, h0⟩, h1]; rfl
      · rw [of_del (fun h => e h.symm), if_neg (fun h => e h.1)]
    · rw [if_neg h1, of_put_any h.up]
      by_cases e : u = t
      · rw [if_pos e, if_pos ⟨e, h0⟩]
      · rw [if_neg e, if_neg (fun h => e h.1)]
theorem Ok.add {C : List Ct} (h : Ok C) (t : Int) : Ok (addS C t) := by
  unfold addS
  by_cases e : addE C t = 0
  · rw [if_pos e]
    unfold addE at e
    by_cases c0 : t < 1 ∨ 1048576 < t
    · rw [if_pos c0] at e; cases e
    · rw [if_neg c0] at e
      by_cases c1 : 64 ≤ sumC C
      · rw [if_pos c1] at e; cases e
      · have := (h.of0 t).1
        exact h.put (by omega) (by omega) (by omega)
  · rw [if_neg e]; exact h
theorem Ok.less {C : List Ct} (h : Ok C) (t : Int) : Ok (lessS C t) := by
  unfold lessS
  by_cases h0 : ofC C t = 0
  · rw [if_pos h0]; exact h
  · rw [if_neg h0]
    have ho := h.of0 t
    have hs := h.sum
    by_cases h1 : ofC C t = 1
    · rw [if_pos h1]; exact h.del t
    · rw [if_neg h1]; exact h.put (ho.2.2 h0) (by omega) (by omega)
/-- an Add that was done, and a Less of it: nothing -/
theorem less_add {C : List Ct} (h : Ok C) {t : Int} (e : addE C t = 0) : ofC (addS C t) t ≠ 0 ∧ lessS (addS C t) t = C := by
  have ha := h.add t
  have hE : addS C t = putC C t (ofC C t + 1) := by unfold addS; rw [if_pos e]
  have h0 := (h.of0 t).1
  have hof : ofC (addS C t) t = ofC C t + 1 := by rw [hE, of_put h.up]
  refine ⟨by omega, (ha.less t).eq h (fun u => ?_)⟩
  rw [of_less ha, hof, hE, of_put_any h.up]
  by_cases eu : u = t
  · rw [if_pos ⟨eu, by omega⟩, eu]; omega
  · rw [if_neg (fun h => eu h.1), if_neg eu]
/-- a Less that was done, and an Add of it: nothing -/
theorem add_less {C : List Ct} (h : Ok C) {t : Int} (e : ofC C t ≠ 0) : addE (lessS C t) t = 0 ∧ addS (lessS C t) t = C := by
  have hl := h.less t
  have ho := h.of0 t
  have ht := ho.2.2 e
  have hs := h.sum
  have hsl : sumC (lessS C t) = sumC C - 1 := by
    unfold lessS
    rw [if_neg e]
    by_cases h1 : ofC C t = 1
    · rw [if_pos h1, sum_del t h.up]; omega
    · rw [if_neg h1, sum_put _ _ h.up]; omega
  have hE : addE (lessS C t) t = 0 := by unfold addE; rw [if_neg (by omega), if_neg (by omega)]
  have hS : addS (lessS C t) t = putC (lessS C t) t (ofC (lessS C t) t + 1) := by unfold addS; rw [if_pos hE]
  refine ⟨hE, (hl.add t).eq h (fun u => ?_)⟩
  rw [hS, of_put_any hl.up, of_less h, of_less h]
  by_cases eu : u = t
  · rw [if_pos eu, if_pos ⟨rfl, e⟩, eu]; omega
  · rw [if_neg eu, if_neg (fun h => eu h.1)]
/-- how often a timestamp that may be stands among the first k -/
def cntK (l : List Int) (t : Int) : Nat → Int
  | 0 => 0
  | k + 1 => cntK l t k + (if l.getD k 0 = t ∧ 1 ≤ t ∧ t ≤ 1048576 then 1 else 0)
/-- the first k Adds -/
def addK (l : List Int) : Nat → List Ct
  | 0 => []
  | k + 1 => addS (addK l k) (l.getD k 0)
theorem addK_ok (l : List Int) : ∀ k, Ok (addK l k)
  | 0 => Ok.nil
  | k + 1 => (addK_ok l k).add _
theorem addK_sum (l : List Int) : ∀ k : Nat, sumC (addK l k) ≤ (k : Int)
  | 0 => Int.le_refl _
  | k + 1 => by
    have ih := addK_sum l k
    show sumC (addS (addK l k) (l.getD k 0)) ≤ _
    unfold addS
    by_cases e : addE (addK l k) (l.getD k 0) = 0
    · rw [if_pos e, sum_put _ _ (addK_ok l k).up]; omega
    · rw [if_neg e]; omega
theorem addK_of (l : List Int) (t : Int) : ∀ k : Nat, k ≤ 64 → ofC (addK l k) t = cntK l t k
  | 0, _ => rfl
  | k + 1, hk => by
    have ih := addK_of l t k (by omega)
    have hs := addK_sum l k
    show ofC (addS (addK l k) (l.getD k 0)) t = cntK l t k + _
    rw [← ih]
    generalize l.getD k 0 = x
    unfold addS addE
    by_cases c0 : x < 1 ∨ 1048576 < x
    · rw [if_pos c0, if_neg (by decide), if_neg (by omega)]; omega
    · rw [if_neg c0, if_neg (show ¬ 64 ≤ sumC (addK l k) by omega), if_pos rfl, of_put_any (addK_ok l k).up]
      by_cases e : t = x
      · rw [if_pos e, if_pos (by omega), e]
      · rw [if_neg e, if_neg (by omega)]; omega
/-- the sum of the first k -/
def sumF (g : Nat → Int) : Nat → Int
  | 0 => 0
  | k + 1 => sumF g k + g k
theorem sumF_congr {f g : Nat → Int} : ∀ n, (∀ i, i < n → f i = g i) → sumF f n = sumF g n
  | 0, _ => rfl
  | n + 1, h => by show sumF f n + f n = sumF g n + g n; rw [sumF_congr n (fun i hi => h i (by omega)), h n (by omega)]
theorem sumF_add (g : Nat → Int) (a : Nat) : ∀ b, sumF g (a + b) = sumF g a + sumF (fun i => g (a + i)) b
  | 0 => by show sumF g a = sumF g a + 0; omega
  | b + 1 => by
    show sumF g (a + b) + g (a + b) = sumF g a + (sumF (fun i => g (a + i)) b + g (a + b))
    rw [sumF_add g a b]; omega
/-- turned round, it is the same sum -/
theorem sumF_turn (g : Nat → Int) {n r : Nat} (hr : r < n) : sumF (fun i => g ((i + r) % n)) n = sumF g n := by
  have e : n = (n - r) + r := by omega
  have h1 : sumF (fun i => g ((i + r) % n)) n = sumF (fun i => g ((i + r) % n)) ((n - r) + r) := by rw [← e]
  have h2 : sumF g n = sumF g (r + (n - r)) := by congr 1; omega
  rw [h1, h2, sumF_add, sumF_add g r (n - r)]
  have e1 : sumF (fun i => g ((i + r) % n)) (n - r) = sumF (fun i => g (r + i)) (n - r) := sumF_congr _ (fun i hi => by
    show g ((i + r) % n) = g (r + i)
    rw [Nat.mod_eq_of_lt (by omega), Nat.add_comm])
  have e2 : sumF (fun i => (fun i => g ((i + r) % n)) (n - r + i)) r = sumF g r := sumF_congr _ (fun i hi => by
    show g ((n - r + i + r) % n) = g i
    have : n - r + i + r = n + i := by omega
    rw [this, Nat.add_mod_left, Nat.mod_eq_of_lt (by omega)])
  rw [e1, e2]; omega
/-- backwards too -/
theorem sumF_back : ∀ (n : Nat) (g : Nat → Int), sumF (fun i => g (n - 1 - i)) n = sumF g n
  | 0, _ => rfl
  | n + 1, g => by
    have h := sumF_add g 1 n
    rw [Nat.add_comm] at h
    rw [h]
    show sumF (fun i => g (n + 1 - 1 - i)) n + g (n + 1 - 1 - n) = (0 + g 0) + _
    have e := sumF_back n (fun i => g (1 + i))
    rw [← e, sumF_congr n (g := fun i => g (1 + (n - 1 - i))) (fun i hi => by show g _ = g _; congr 1; omega)]
    have e0 : n + 1 - 1 - n = 0 := by omega
    rw [e0]; omega
theorem cntK_sum (l : List Int) (t : Int) : ∀ k, cntK l t k = sumF (fun i => if l.getD i 0 = t ∧ 1 ≤ t ∧ t ≤ 1048576 then 1 else 0) k
  | 0 => rfl
  | k + 1 => by show cntK l t k + _ = sumF _ k + _; rw [cntK_sum l t k]
/-- the row in which the second one is added to -/
def turned (l : List Int) (n r : Nat) (back : Bool) : List Int := (List.range n).map fun i => l.getD (if back then n - 1 - (i + r) % n else (i + r) % n) 0
theorem turned_at {l : List Int} {n r i : Nat} {back : Bool} (hi : i < n) : (turned l n r back).getD i 0 = l.getD (if back then n - 1 - (i + r) % n else (i + r) % n) 0 := by
  unfold turned
  simp [List.getD_eq_getElem?_getD, hi]
theorem cnt_turned (l : List Int) (t : Int) {n r : Nat} (hr : r < n) (back : Bool) : cntK (turned l n r back) t n = cntK l t n := by
  rw [cntK_sum, cntK_sum]
  have h1 : sumF (fun i => if (turned l n r back).getD i 0 = t ∧ 1 ≤ t ∧ t ≤ 1048576 then (1 : Int) else 0) n = sumF (fun i => (fun j => (fun k => if l.getD k 0 = t ∧ 1 ≤ t ∧ t ≤ 1048576 then (1 : Int) else 0) (if back then n - 1 - j else j)) ((i + r) % n)) n := sumF_congr _ (fun i hi => by
    show (if _ then _ else _) = (if _ then _ else _)
    rw [turned_at hi])
  rw [h1]
  refine (sumF_turn (fun j => (fun k => if l.getD k 0 = t ∧ 1 ≤ t ∧ t ≤ 1048576 then (1 : Int) else 0) (if back then n - 1 - j else j)) hr).trans ?_
  cases back
  · rfl
  · exact sumF_back n (fun k => if l.getD k 0 = t ∧ 1 ≤ t ∧ t ≤ 1048576 then (1 : Int) else 0)
/-- what comes of both rows of Adds is the same -/
theorem add_turned (l : List Int) {n r : Nat} (hr : r < n) (hn : n ≤ 64) (back : Bool) : addK (turned l n r back) n = addK l n :=
  (addK_ok _ _).eq (addK_ok _ _) (fun t => by rw [addK_of _ _ _ hn, addK_of _ _ _ hn, cnt_turned l t hr back])
end Go.Proofs.Ytlnfdcaljmfbjaa
