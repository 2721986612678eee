/- One floor, and another one. -/
import Derived.Test.YtlnfdcaljmfbjaaV
namespace Go.Proofs.Ytlnfdcaljmfbjaa
open Go.ChangeShapes Go.WideShapes Go.ChangeAt Go.RowKit Go.Maps
set_option linter.unusedVariables false
set_option linter.unusedSimpArgs false

theorem pass_pass (C : List Ct) (f o mx : Int) (h : mx = max f o) : passS (passS C f) o = passS C mx := by
  unfold passS
  rw [List.filter_filter]
  refine List.filter_congr (fun p _ => ?_)
  rw [← Bool.decide_and, decide_eq_decide, h]
  omega
/-- what is left of the first k -/
def leftK (C : List Ct) (mx : Int) : Nat → Int
  | 0 => 0
  | k + 1 => leftK C mx k + (if mx < (C.getD k c0).1 then (C.getD k c0).2 else 0)
theorem leftK_cons (p : Ct) (C : List Ct) (mx : Int) : ∀ k, leftK (p :: C) mx (k + 1) = (if mx < p.1 then p.2 else 0) + leftK C mx k
  | 0 => by show 0 + _ = _ + 0; simp only [List.getD_cons_zero]; omega
  | k + 1 => by
    have ih := leftK_cons p C mx k
    show leftK (p :: C) mx (k + 1) + _ = _
    rw [ih]
    simp only [List.getD_cons_succ]
    show _ = _ + (leftK C mx k + _)
    omega
theorem leftK_all : ∀ (C : List Ct) (mx : Int), leftK C mx C.length = sumC (passS C mx)
  | [], _ => rfl
  | p :: C, mx => by
    rw [List.length_cons, leftK_cons, leftK_all C mx]
    unfold passS
    rw [List.filter_cons]
    by_cases h : mx < p.1
    · rw [if_pos h, if_pos (decide_eq_true h)]; rfl
    · rw [if_neg h, if_neg (by simpa using h)]; omega
theorem leftK_le {C : List Ct} (h : ∀ p ∈ C, 1 ≤ p.2) (mx : Int) : ∀ k, k ≤ C.length → 0 ≤ leftK C mx k ∧ leftK C mx k ≤ sumC C := by
  induction C with
  | nil => intro k hk; simp at hk; subst hk; exact ⟨Int.le_refl _, Int.le_refl _⟩
  | cons p C ih =>
    have h1 := h p (List.mem_cons_self ..)
    have hr := fun q hq => h q (List.mem_cons_of_mem p hq)
    have hs := sum_nn hr
    intro k hk
    cases k with
    | zero => exact ⟨Int.le_refl _, by show 0 ≤ p.2 + sumC C; omega⟩
    | succ k =>
      have := ih hr k (by simpa using hk)
      rw [leftK_cons]
      show _ ∧ _ ≤ p.2 + sumC C
      split <;> omega
theorem of_pass {C : List Ct} (h : Ok C) (mx : Int) {k : Nat} (hk : k < C.length) : ofC (passS C mx) (C.getD k c0).1 = if mx < (C.getD k c0).1 then (C.getD k c0).2 else 0 := by
  have hm : C.getD k c0 ∈ C := by rw [List.getD_eq_getElem?_getD, List.getElem?_eq_getElem hk]; exact List.getElem_mem hk
  by_cases hx : mx < (C.getD k c0).1
  · rw [if_pos hx]
    exact of_is (h.pass mx).up (List.mem_filter.2 ⟨hm, decide_eq_true hx⟩)
  · rw [if_neg hx]
    refine of_none (fun q hq e => ?_)
    have := of_decide_eq_true (List.mem_filter.1 hq).2
    omega
theorem ct_at {C : List Ct} (h : Ok C) {k : Nat} (hk : k < C.length) : 1 ≤ (C.getD k c0).1 ∧ (C.getD k c0).1 ≤ 1048576 ∧ 1 ≤ (C.getD k c0).2 := by
  have hm : C.getD k c0 ∈ C := by rw [List.getD_eq_getElem?_getD, List.getElem?_eq_getElem hk]; exact List.getElem_mem hk
  exact ⟨(h.ts _ hm).1, (h.ts _ hm).2, h.pos _ hm⟩
theorem pass_twice (C : List Ct) (f : Int) : passS (passS C f) f = passS C f := pass_pass C f f f (by omega)
theorem CtSl.base {W : World} {B B' : Nat} {A : Option Addr} {L : List Ct} (h : CtSl W B A L) (hb : B' ≤ B) : CtSl W B' A L := fun hL => by
  obtain ⟨g, hA, hB, rest⟩ := h hL
  exact ⟨g, hA, Nat.le_trans hb hB, rest⟩
theorem ctsl_other {W W' : World} {B B' p b : Nat} {A : Option Addr} {C L : List Ct} (h : CtSl W B A L) (o : DdAt W B' p b C) (hg : W.grownBy W' (some b)) : CtSl W' B A L := fun hL => by
  obtain ⟨g, hA, hB, hlt, hc⟩ := h hL
  have hne : g ≠ b := fun e => by
    obtain ⟨es, clock, hm, _⟩ := o.own.2
    have hx := (hc 0 hL).1
    rw [e] at hx
    simp [World.cell?, hm] at hx
  have e := hg.block g hlt (fun e => hne (Option.some.inj e))
  refine ⟨g, hA, hB, Nat.lt_of_lt_of_le hlt hg.size, fun j hj => ?_⟩
  obtain ⟨c1, c2, c3, c4⟩ := hc j hj
  exact ⟨(World.cell?_of_block (a := ⟨g, j * 2, none⟩) e).trans c1, (World.cell?_of_block (a := ⟨g, j * 2 + 1, none⟩) e).trans c2, (World.frozen?_of_block (a := ⟨g, j * 2, none⟩) e).trans c3, (World.frozen?_of_block (a := ⟨g, j * 2 + 1, none⟩) e).trans c4⟩
end Go.Proofs.Ytlnfdcaljmfbjaa
