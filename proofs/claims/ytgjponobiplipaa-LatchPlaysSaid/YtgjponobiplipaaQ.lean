/- One step, and what it does to a name. -/
import Derived.Test.YtgjponobiplipaaK
namespace Go.Proofs.Ytgjponobiplipaa
open Go.ChangeShapes Go.WideShapes Go.ChangeAt Go.RowKit Go.Maps
set_option linter.unusedVariables false
set_option linter.unusedSimpArgs false

theorem eq_nm (y z : Int) (w : World) : (binOp BinOp.eql 27 (.agg #[.int .u8 (y / 18446744073709551616), .int .u64 (y % 18446744073709551616)]) (.agg #[.int .u8 (z / 18446744073709551616), .int .u64 (z % 18446744073709551616)])).run Try.prog w = .ok (.bool (decide (y = z))) w := by
  have h : (y = z) = (y / 18446744073709551616 = z / 18446744073709551616 ∧ y % 18446744073709551616 = z % 18446744073709551616) := by
    apply propext; omega
  simp only [h]
  generalize y / 18446744073709551616 = k1
  generalize y % 18446744073709551616 = i1
  generalize z / 18446744073709551616 = k2
  generalize z % 18446744073709551616 = i2
  go_simp
  by_cases a : k1 = k2 <;> by_cases b : i1 = i2 <;> simp [a, b]
theorem ne_nm (y z : Int) (w : World) : (binOp BinOp.neq 27 (.agg #[.int .u8 (y / 18446744073709551616), .int .u64 (y % 18446744073709551616)]) (.agg #[.int .u8 (z / 18446744073709551616), .int .u64 (z % 18446744073709551616)])).run Try.prog w = .ok (.bool (!decide (y = z))) w := by
  have h : (y = z) = (y / 18446744073709551616 = z / 18446744073709551616 ∧ y % 18446744073709551616 = z % 18446744073709551616) := by
    apply propext; omega
  simp only [h]
  generalize y / 18446744073709551616 = k1
  generalize y % 18446744073709551616 = i1
  generalize z / 18446744073709551616 = k2
  generalize z % 18446744073709551616 = i2
  go_simp
  by_cases a : k1 = k2 <;> by_cases b : i1 = i2 <;> simp [a, b]
theorem is_ins (x : Ct) (z : Int) : ∀ C : List Ct, isC (insC x C) z = (decide (x.1 = z) || isC C z)
  | [] => by simp [insC, isC]
  | y :: r => by
    unfold insC
    split
    · simp [isC]
    · have ih := is_ins x z r
      simp only [isC, List.any_cons] at ih ⊢
      rw [ih]
      cases decide (y.1 = z) <;> cases decide (x.1 = z) <;> simp
theorem of_ins (x : Ct) (z : Int) : ∀ {C : List Ct}, (∀ p ∈ C, p.1 ≠ x.1) → ofC (insC x C) z = if x.1 = z then x.2 else ofC C z
  | [], _ => by simp [insC, ofC]
  | y :: r, h => by
    have ih := of_ins x z (C := r) (fun p hp => h p (List.mem_cons_of_mem _ hp))
    have hy := h y (List.mem_cons_self ..)
    unfold insC
    split
    · rfl
    · show (if y.1 = z then y.2 else ofC (insC x r) z) = if x.1 = z then x.2 else if y.1 = z then y.2 else ofC r z
      rw [ih]
      by_cases e : y.1 = z
      · rw [if_pos e, if_neg (fun e2 => hy (by rw [e, e2])), if_pos e]
      · rw [if_neg e, if_neg e]
theorem is_del (C : List Ct) (y z : Int) : isC (delC C y) z = (isC C z && decide (y ≠ z)) := by
  induction C with
  | nil => rfl
  | cons p C ih =>
    unfold delC at ih ⊢
    rw [List.filter_cons]
    by_cases e : p.1 = y
    · rw [if_neg (by simp [e]), ih]
      by_cases e2 : y = z
      · simp [e2]
      · simp [isC, e, e2]
    · rw [if_pos (by simp [e])]
      simp only [isC, List.any_cons] at ih ⊢
      rw [ih]
      by_cases e2 : p.1 = z
      · simp [e2, show y ≠ z from fun h => e (by rw [e2, h])]
      · simp [e2]
theorem of_del (C : List Ct) {y z : Int} (h : y ≠ z) : ofC (delC C y) z = ofC C z := by
  induction C with
  | nil => rfl
  | cons p C ih =>
    unfold delC at ih ⊢
    rw [List.filter_cons]
    by_cases e : p.1 = y
    · rw [if_neg (by simp [e]), ih]
      exact (if_neg (by rw [e]; exact h)).symm
    · rw [if_pos (by simp [e])]
      show (if p.1 = z then p.2 else ofC _ z) = if p.1 = z then p.2 else ofC C z
      rw [ih]
theorem is_put (C : List Ct) (y t z : Int) : isC (putC C y t) z = (decide (y = z) || isC C z) := by
  unfold putC
  rw [is_ins, is_del]
  by_cases e : y = z <;> simp [e]
theorem of_put (C : List Ct) (y t z : Int) : ofC (putC C y t) z = if y = z then t else ofC C z := by
  unfold putC
  rw [of_ins _ _ (fun p hp => (mem_del.1 hp).2)]
  by_cases e : y = z
  · rw [if_pos e, if_pos e]
  · rw [if_neg e, if_neg e, of_del _ e]
/-- what a step does to a name that is another one -/
theorem do_is (C : List Ct) (s : Stp) {z : Int} (h : s.2.1 ≠ z) : isC (doC C s) z = isC C z ∧ ofC (doC C s) z = ofC C z := by
  unfold doC dropS tryS
  repeat' split
  · exact ⟨by rw [is_del]; simp [h], of_del _ h⟩
  · exact ⟨rfl, rfl⟩
  · exact ⟨rfl, rfl⟩
  · exact ⟨by rw [is_put]; simp [h], by rw [of_put, if_neg h]⟩
theorem Ok.do {C : List Ct} (h : Ok C) {s : Stp} (hs : StpOk s) : Ok (doC C s) := by
  unfold doC dropS tryS
  repeat' split
  · exact h.del _
  · exact h
  · exact h
  · exact h.put hs.1 hs.2
theorem view_drop {C : List Ct} {z t tk : Int} (htk : isC C z = true → ofC C z = tk) :
    (isC C z = true → tk = t → dropB C z t = true ∧ isC (dropS C z t) z = false ∧ ofC (dropS C z t) z = 0) ∧
    (isC C z = true → tk ≠ t → dropB C z t = false ∧ isC (dropS C z t) z = true ∧ ofC (dropS C z t) z = tk) ∧
    (isC C z = false → dropB C z t = false ∧ isC (dropS C z t) z = false ∧ ofC (dropS C z t) z = 0) := by
  refine ⟨fun h e => ?_, fun h e => ?_, fun h => ?_⟩
  · have hb : dropB C z t = true := by unfold dropB; rw [h, htk h, e]; simp
    have hd : isC (delC C z) z = false := by rw [is_del]; simp
    unfold dropS
    rw [if_pos hb]
    exact ⟨hb, hd, of_none0 hd⟩
  · have hb : dropB C z t = false := by unfold dropB; rw [h, htk h, decide_eq_false e]; rfl
    unfold dropS
    rw [if_neg (by rw [hb]; decide)]
    exact ⟨hb, h, htk h⟩
  · have hb : dropB C z t = false := by unfold dropB; rw [h]; rfl
    unfold dropS
    rw [if_neg (by rw [hb]; decide)]
    exact ⟨hb, h, of_none0 h⟩
theorem view_try {C : List Ct} {z t tk : Int} (htk : isC C z = true → ofC C z = tk) :
    (isC C z = true → tk = t → tryB C z t = true ∧ isC (tryS C z t) z = true ∧ ofC (tryS C z t) z = tk) ∧
    (isC C z = true → tk ≠ t → tryB C z t = false ∧ isC (tryS C z t) z = true ∧ ofC (tryS C z t) z = tk) ∧
    (isC C z = false → tryB C z t = true ∧ isC (tryS C z t) z = true ∧ ofC (tryS C z t) z = t) := by
  refine ⟨fun h e => ?_, fun h e => ?_, fun h => ?_⟩
  · unfold tryB tryS
    rw [if_pos h, if_pos h, htk h]
    exact ⟨decide_eq_true e, h, rfl⟩
  · unfold tryB tryS
    rw [if_pos h, if_pos h, htk h]
    exact ⟨decide_eq_false e, h, rfl⟩
  · unfold tryB tryS
    rw [if_neg (by rw [h]; decide), if_neg (by rw [h]; decide)]
    exact ⟨rfl, by rw [is_put]; simp, by rw [of_put, if_pos rfl]⟩
theorem Blk.mp {W W' : World} {B p b q : Nat} {C : List Ct} {cs : Array Value} {t : TypeId} (h : Blk W q cs t) (o : LaAt W B p b C) (hg : W.grownBy W' (some b)) : Blk W' q cs t := h.grown hg (fun e => by
  have e2 : q = b := Option.some.inj e
  obtain ⟨es, clock, hm, _⟩ := o.own.2
  have h2 : W.heap[q]? = some (.cells cs t (0, 0)) := h
  rw [e2, hm] at h2; cases h2)
end Go.Proofs.Ytgjponobiplipaa
