/- The document's dead: a rising list of timestamps, each as often as there are some. -/
import Derived.Test.YtlnfdcaljmfbjaaE
namespace Go.Proofs.Ytlnfdcaljmfbjaa
open Go.ChangeShapes Go.WideShapes Go.ChangeAt Go.RowKit Go.Maps
set_option linter.unusedVariables false
set_option linter.unusedSimpArgs false

def expand : List Ct → List Int
  | [] => []
  | p :: C => List.replicate p.2.toNat p.1 ++ expand C
def insS (t : Int) : List Int → List Int
  | [] => [t]
  | x :: r => if t < x then t :: x :: r else x :: insS t r
def remS (t : Int) : List Int → List Int
  | [] => []
  | x :: r => if x = t then r else x :: remS t r
def stepA (t : Int) (s : List Int × Bool) (x : Int) : List Int × Bool := if t < x ∧ s.2 = false then (s.1 ++ [t] ++ [x], true) else (s.1 ++ [x], s.2)
def stepL (t : Int) (s : List Int × Bool) (x : Int) : List Int × Bool := if x = t ∧ s.2 = false then (s.1, true) else (s.1 ++ [x], s.2)
def stepP (f : Int) (s : List Int) (x : Int) : List Int := if f < x then s ++ [x] else s
def stepC (t : Int) (n : Int) (x : Int) : Int := if x = t then n + 1 else n
/-- the first k -/
def runF {σ : Type} (f : σ → Int → σ) (a : σ) (L : List Int) (k : Nat) : σ := (L.take k).foldl f a
theorem runF_zero {σ : Type} (f : σ → Int → σ) (a : σ) (L : List Int) : runF f a L 0 = a := rfl
theorem runF_succ {σ : Type} (f : σ → Int → σ) (a : σ) (L : List Int) {k : Nat} (hk : k < L.length) : runF f a L (k + 1) = f (runF f a L k) (L.getD k 0) := by
  unfold runF
  rw [List.take_add_one, List.foldl_append, List.getD_eq_getElem?_getD, List.getElem?_eq_getElem hk]
  rfl
theorem runF_all {σ : Type} (f : σ → Int → σ) (a : σ) (L : List Int) : runF f a L L.length = L.foldl f a := by unfold runF; rw [List.take_length]
theorem foldA_true (t : Int) : ∀ (L o : List Int), L.foldl (stepA t) (o, true) = (o ++ L, true)
  | [], o => by simp
  | x :: r, o => by
    rw [List.foldl_cons, show stepA t (o, true) x = (o ++ [x], true) from by unfold stepA; simp, foldA_true t r]
    simp
def closeA (t : Int) (s : List Int × Bool) : List Int := if s.2 then s.1 else s.1 ++ [t]
theorem foldA (t : Int) : ∀ (L o : List Int), closeA t (L.foldl (stepA t) (o, false)) = o ++ insS t L
  | [], o => rfl
  | x :: r, o => by
    rw [List.foldl_cons]
    unfold insS
    by_cases h : t < x
    · rw [show stepA t (o, false) x = (o ++ [t] ++ [x], true) from by unfold stepA; simp [h], foldA_true, if_pos h]
      unfold closeA; simp
    · rw [show stepA t (o, false) x = (o ++ [x], false) from by unfold stepA; simp [h], foldA t r, if_neg h]
      simp
theorem foldL_true (t : Int) : ∀ (L o : List Int), L.foldl (stepL t) (o, true) = (o ++ L, true)
  | [], o => by simp
  | x :: r, o => by
    rw [List.foldl_cons, show stepL t (o, true) x = (o ++ [x], true) from by unfold stepL; simp, foldL_true t r]
    simp
theorem foldL (t : Int) : ∀ (L o : List Int), L.foldl (stepL t) (o, false) = (o ++ remS t L, decide (t ∈ L))
  | [], o => by simp [remS]
  | x :: r, o => by
    rw [List.foldl_cons]
    unfold remS
    by_cases h : x = t
    · rw [show stepL t (o, false) x = (o, true) from by unfold stepL; simp [h], foldL_true, if_pos h]
      simp [h]
    · rw [show stepL t (o, false) x = (o ++ [x], false) from by unfold stepL; simp [h], foldL t r, if_neg h]
      have e : (t ∈ x :: r) = (t ∈ r) := by simp [show ¬ t = x from fun e => h e.symm]
      simp [show ¬ t = x from fun e => h e.symm]
theorem foldP (f : Int) : ∀ (L o : List Int), L.foldl (stepP f) o = o ++ L.filter (fun x => decide (f < x))
  | [], o => by simp
  | x :: r, o => by
    rw [List.foldl_cons]
    by_cases h : f < x
    · rw [show stepP f o x = o ++ [x] from if_pos h, foldP f r, List.filter_cons_of_pos (by simpa using h)]; simp
    · rw [show stepP f o x = o from if_neg h, foldP f r, List.filter_cons_of_neg (by simpa using h)]
/-! ### what the counts are, as such a list -/
theorem mem_expand : ∀ {C : List Ct} {x : Int}, x ∈ expand C → ∃ p ∈ C, p.1 = x
  | [], x, h => by cases h
  | p :: C, x, h => by
    unfold expand at h
    rcases List.mem_append.1 h with h | h
    · exact ⟨p, List.mem_cons_self .., (List.eq_of_mem_replicate h).symm⟩
    · obtain ⟨q, hq, e⟩ := mem_expand h
      exact ⟨q, List.mem_cons_of_mem _ hq, e⟩
theorem len_expand : ∀ {C : List Ct}, (∀ p ∈ C, 1 ≤ p.2) → ((expand C).length : Int) = sumC C
  | [], _ => rfl
  | p :: C, h => by
    have h1 := h p (List.mem_cons_self ..)
    have h2 := len_expand (C := C) (fun q hq => h q (List.mem_cons_of_mem _ hq))
    unfold expand sumC
    rw [List.length_append, List.length_replicate]
    omega
theorem insS_rep (t x : Int) (r : List Int) (h : ¬ t < x) : ∀ n, insS t (List.replicate n x ++ r) = List.replicate n x ++ insS t r
  | 0 => by simp
  | n + 1 => by
    rw [List.replicate_succ, List.cons_append, List.cons_append]
    show (if t < x then _ else _) = _
    rw [if_neg h, insS_rep t x r h n]
theorem insS_all (t : Int) : ∀ {r : List Int}, (∀ y ∈ r, t < y) → insS t r = t :: r
  | [], _ => rfl
  | y :: r, h => by unfold insS; rw [if_pos (h y (List.mem_cons_self ..))]
theorem expand_add : ∀ {C : List Ct} (t : Int), C.Pairwise (fun p q => p.1 < q.1) → (∀ p ∈ C, 1 ≤ p.2) → expand (putC C t (ofC C t + 1)) = insS t (expand C)
  | [], t, _, _ => by simp [putC, delC, insC, ofC, expand, insS]
  | p :: C, t, hu, hp => by
    obtain ⟨h1, h2⟩ := List.pairwise_cons.1 hu
    have hp1 := hp p (List.mem_cons_self ..)
    have hp2 : ∀ q ∈ C, 1 ≤ q.2 := fun q hq => hp q (List.mem_cons_of_mem _ hq)
    have hall : ∀ y, y ∈ expand C → p.1 < y := fun y hy => by obtain ⟨q, hq, e⟩ := mem_expand hy; have := h1 q hq; omega
    by_cases e : p.1 = t
    · have hn : ∀ q ∈ C, q.1 ≠ t := fun q hq => by have := h1 q hq; omega
      have ho : ofC (p :: C) t = p.2 := if_pos e
      have hd : delC (p :: C) t = C := by
        have : delC (p :: C) t = delC C t := by unfold delC; rw [List.filter_cons_of_neg (by simp [e])]
        rw [this, del_none hn]
      have hi : ∀ n, insC (t, n) C = (t, n) :: C := fun n => by
        cases C with
        | nil => rfl
        | cons q C => unfold insC; rw [if_pos (by have := h1 q (List.mem_cons_self ..); simp only; omega)]
      unfold putC
      rw [ho, hd, hi]
      show List.replicate (p.2 + 1).toNat t ++ expand C = insS t (List.replicate p.2.toNat p.1 ++ expand C)
      rw [insS_rep t p.1 _ (by omega), insS_all t (fun y hy => by have := hall y hy; omega), show (p.2 + 1).toNat = p.2.toNat + 1 from by omega, ← e, List.replicate_succ']
      simp
    · have hd : delC (p :: C) t = p :: delC C t := by unfold delC; rw [List.filter_cons_of_pos (by simp [e])]
      have ho : ofC (p :: C) t = ofC C t := if_neg e
      by_cases hlt : t < p.1
      · have hn : ∀ q ∈ C, q.1 ≠ t := fun q hq => by have := h1 q hq; omega
        unfold putC
        rw [ho, hd, of_none hn, del_none hn]
        show expand (insC (t, 0 + 1) (p :: C)) = _
        unfold insC
        rw [if_pos (by simpa using hlt), insS_all t (fun y hy => by
          unfold expand at hy
          rcases List.mem_append.1 hy with hy | hy
          · rw [List.eq_of_mem_replicate hy]; exact hlt
          · have := hall y hy; omega)]
        rfl
      · have ih := expand_add (C := C) t h2 hp2
        unfold putC at ih ⊢
        rw [ho, hd]
        show expand (insC (t, ofC C t + 1) (p :: delC C t)) = _
        unfold insC
        rw [if_neg (by simpa using hlt)]
        show List.replicate p.2.toNat p.1 ++ expand _ = insS t (List.replicate p.2.toNat p.1 ++ expand C)
        rw [ih, insS_rep t p.1 _ hlt]
theorem mem_of : ∀ {C : List Ct} {t : Int}, (∀ p ∈ C, 1 ≤ p.2) → C.Pairwise (fun p q => p.1 < q.1) → (t ∈ expand C ↔ ofC C t ≠ 0)
  | [], t, _, _ => by simp [expand, ofC]
  | p :: C, t, hp, hu => by
    obtain ⟨h1, h2⟩ := List.pairwise_cons.1 hu
    have hp1 := hp p (List.mem_cons_self ..)
    have ih := mem_of (C := C) (t := t) (fun q hq => hp q (List.mem_cons_of_mem _ hq)) h2
    unfold expand ofC
    rw [List.mem_append, List.mem_replicate]
    by_cases e : p.1 = t
    · rw [if_pos e]
      exact ⟨fun _ => by omega, fun _ => .inl ⟨by omega, e.symm⟩⟩
    · rw [if_neg e, ← ih]
      exact ⟨fun h => h.resolve_left (fun h => e h.2.symm), .inr⟩
theorem remS_rep (t x : Int) (r : List Int) (h : ¬ x = t) : ∀ n, remS t (List.replicate n x ++ r) = List.replicate n x ++ remS t r
  | 0 => by simp
  | n + 1 => by
    rw [List.replicate_succ, List.cons_append, List.cons_append]
    show (if x = t then _ else _) = _
    rw [if_neg h, remS_rep t x r h n]
theorem remS_none (t : Int) : ∀ {r : List Int}, t ∉ r → remS t r = r
  | [], _ => rfl
  | x :: r, h => by
    unfold remS
    rw [if_neg (fun e => h (by rw [e]; exact List.mem_cons_self ..)), remS_none t (fun e => h (List.mem_cons_of_mem _ e))]
theorem less_cons {p : Ct} {C : List Ct} {t : Int} (h : p.1 < t) : lessS (p :: C) t = p :: lessS C t := by
  have hd : delC (p :: C) t = p :: delC C t := by unfold delC; rw [List.filter_cons_of_pos (by simp; omega)]
  have ho : ofC (p :: C) t = ofC C t := if_neg (by omega)
  unfold lessS
  rw [ho]
  split
  · rfl
  · split
    · exact hd
    · unfold putC
      rw [hd]
      show (if t < p.1 then _ else p :: insC (t, ofC C t - 1) (delC C t)) = _
      rw [if_neg (by omega)]
theorem expand_less : ∀ {C : List Ct} (t : Int), C.Pairwise (fun p q => p.1 < q.1) → (∀ p ∈ C, 1 ≤ p.2) → expand (lessS C t) = remS t (expand C)
  | [], t, _, _ => by simp [lessS, ofC, expand, remS]
  | p :: C, t, hu, hp => by
    obtain ⟨h1, h2⟩ := List.pairwise_cons.1 hu
    have hp1 := hp p (List.mem_cons_self ..)
    have hp2 : ∀ q ∈ C, 1 ≤ q.2 := fun q hq => hp q (List.mem_cons_of_mem _ hq)
    by_cases h0 : ofC (p :: C) t = 0
    · rw [remS_none t (fun h => (mem_of hp hu).1 h h0)]
      unfold lessS; rw [if_pos h0]
    by_cases e : p.1 = t
    · have hn : ∀ q ∈ C, q.1 ≠ t := fun q hq => by have := h1 q hq; omega
      have ho : ofC (p :: C) t = p.2 := if_pos e
      have hd : delC (p :: C) t = C := by
        have : delC (p :: C) t = delC C t := by unfold delC; rw [List.filter_cons_of_neg (by simp [e])]
        rw [this, del_none hn]
      have hi : ∀ n, insC (t, n) C = (t, n) :: C := fun n => by
        cases C with
        | nil => rfl
        | cons q C => unfold insC; rw [if_pos (by have := h1 q (List.mem_cons_self ..); simp only; omega)]
      unfold lessS putC
      rw [ho, hd, hi, if_neg (by omega)]
      show _ = remS t (List.replicate p.2.toNat p.1 ++ expand C)
      obtain ⟨m, hm⟩ : ∃ m, p.2.toNat = m + 1 := ⟨p.2.toNat - 1, by omega⟩
      rw [hm, List.replicate_succ, List.cons_append]
      show _ = if p.1 = t then _ else _
      rw [if_pos e]
      by_cases h2 : p.2 = 1
      · rw [if_pos h2, show m = 0 from by omega]; rfl
      · rw [if_neg h2]
        show List.replicate (p.2 - 1).toNat t ++ expand C = _
        rw [show (p.2 - 1).toNat = m from by omega, e]
    · have ho : ofC (p :: C) t = ofC C t := if_neg e
      have hlt : p.1 < t := by have := h1 _ (of_mem (C := C) (t := t) (by rw [← ho]; exact h0)); exact this
      rw [less_cons hlt]
      show List.replicate p.2.toNat p.1 ++ expand _ = remS t (List.replicate p.2.toNat p.1 ++ expand C)
      rw [expand_less (C := C) t h2 hp2, remS_rep t p.1 _ e]
theorem expand_pass (f : Int) : ∀ C : List Ct, expand (passS C f) = (expand C).filter (fun x => decide (f < x))
  | [] => rfl
  | p :: C => by
    have ih := expand_pass f C
    unfold passS at ih ⊢
    show _ = (List.replicate p.2.toNat p.1 ++ expand C).filter _
    rw [List.filter_append, List.filter_cons]
    by_cases h : f < p.1
    · rw [if_pos (by simpa using h)]
      show List.replicate _ _ ++ expand _ = _
      rw [ih, List.filter_replicate_of_pos (by simpa using h)]
    · rw [if_neg (by simpa using h), ih, List.filter_replicate_of_neg (by simpa using h)]
      rfl
theorem foldC (t : Int) : ∀ (L : List Int) (n : Int), L.foldl (stepC t) n = n + ((L.filter (fun x => decide (x = t))).length : Int)
  | [], n => by simp
  | x :: r, n => by
    rw [List.foldl_cons]
    by_cases h : x = t
    · rw [show stepC t n x = n + 1 from if_pos h, foldC t r, List.filter_cons_of_pos (by simpa using h)]; simp; omega
    · rw [show stepC t n x = n from if_neg h, foldC t r, List.filter_cons_of_neg (by simpa using h)]
theorem expand_of : ∀ {C : List Ct} (t : Int), C.Pairwise (fun p q => p.1 < q.1) → (∀ p ∈ C, 1 ≤ p.2) → (((expand C).filter (fun x => decide (x = t))).length : Int) = ofC C t
  | [], t, _, _ => rfl
  | p :: C, t, hu, hp => by
    obtain ⟨h1, h2⟩ := List.pairwise_cons.1 hu
    have hp1 := hp p (List.mem_cons_self ..)
    have ih := expand_of (C := C) t h2 (fun q hq => hp q (List.mem_cons_of_mem _ hq))
    unfold expand ofC
    rw [List.filter_append]
    by_cases e : p.1 = t
    · have hn : ∀ q ∈ C, q.1 ≠ t := fun q hq => by have := h1 q hq; omega
      rw [if_pos e, List.filter_replicate_of_pos (by simpa using e), List.length_append, List.length_replicate]
      rw [of_none hn] at ih
      omega
    · rw [if_neg e, List.filter_replicate_of_neg (by simpa using e)]
      exact ih
end Go.Proofs.Ytlnfdcaljmfbjaa
