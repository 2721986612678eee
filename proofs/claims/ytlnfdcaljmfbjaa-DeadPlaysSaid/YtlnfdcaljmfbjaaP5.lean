/- What DeadPlays keeps: the object, the document's, and a copy of each. -/
import Derived.Test.YtlnfdcaljmfbjaaP4
import Derived.Test.YtlnfdcaljmfbjaaV
namespace Go.Proofs.Ytlnfdcaljmfbjaa
open Go.ChangeShapes Go.WideShapes Go.ChangeAt Go.RowKit Go.Maps
set_option linter.unusedVariables false
set_option linter.unusedSimpArgs false

theorem rf_map {W W' : World} {B B' p b q : Nat} {C : List Ct} {v : Value} {L : List Int} (h : RfAt W B q v L) (o : DdAt W B' p b C) (hg : W.grownBy W' (some b)) : RfAt W' B q v L :=
  h.grown hg (fun e => by
    have e2 : q = b := Option.some.inj e
    obtain ⟨es, clock, hm, _⟩ := o.own.2
    have h2 : W.heap[q]? = some (.cells #[v] 56 (0, 0)) := h.blk
    rw [e2, hm] at h2; cases h2) (fun k hk e => by
    have e2 : k = b := Option.some.inj e
    obtain ⟨cur, hc⟩ := Ow.tag h.own k hk
    obtain ⟨es, clock, hm, _⟩ := o.own.2
    rw [e2, hm] at hc; cases hc)
theorem dd_cell {W W' : World} {B B' p b q : Nat} {C : List Ct} {v : Value} {L : List Int} (h : DdAt W B p b C) (o : RfAt W B' q v L) (hg : W.grownBy W' (some q)) : DdAt W' B p b C :=
  ⟨h.hp, h.blk.grown hg (fun e => by
    have e2 : p = q := Option.some.inj e
    have h1 : W.heap[p]? = some (.cells #[.map (some b)] 50 (0, 0)) := h.blk
    have h2 : W.heap[q]? = some (.cells #[v] 56 (0, 0)) := o.blk
    rw [e2, h2] at h1; cases h1), ⟨h.own.1, h.own.2.kept hg (fun e => by
    have e2 : b = q := Option.some.inj e
    obtain ⟨es, clock, hm, _⟩ := h.own.2
    have h2 : W.heap[q]? = some (.cells #[v] 56 (0, 0)) := o.blk
    rw [← e2, hm] at h2; cases h2)⟩, h.ok⟩
theorem rf_cell {W W' : World} {B B' q q2 : Nat} {v u : Value} {L M : List Int} (h : RfAt W B q2 u M) (o : RfAt W B' q v L) (hg : W.grownBy W' (some q)) (hq : q2 ≠ q) : RfAt W' B q2 u M :=
  h.grown hg (fun e => hq (Option.some.inj e)) (fun k hk e => by
    have e2 : k = q := Option.some.inj e
    obtain ⟨cur, hc⟩ := Ow.tag h.own k hk
    have h2 : W.heap[q]? = some (.cells #[v] 56 (0, 0)) := o.blk
    rw [e2, h2] at hc; cases hc)
theorem RfAt.below {w W W' : World} {q : Nat} {v : Value} {L : List Int} (h : RfAt W w.heap.size q v L) (hb : Below w.heap.size w W) (hg : W.grownBy W' (some q)) : Below w.heap.size w W' := hb.grown hg hb.size (fun k e => by cases e; exact h.hp)
/-- all that the law holds -/
structure All (w W : World) (p b : Nat) (C : List Ct) (q : Nat) (v : Value) (L : List Int) (pc bc : Nat) (D : List Ct) (qc : Nat) (u : Value) (M : List Int) : Prop where
  d : DdAt W w.heap.size p b C
  r : RfAt W w.heap.size q v L
  dc : DdAt W w.heap.size pc bc D
  rc : RfAt W w.heap.size qc u M
  hb : Below w.heap.size w W
  n1 : bc ≠ b
  n2 : qc ≠ q
section
variable {w W W' : World} {p b q pc bc qc : Nat} {C C' D : List Ct} {v v' u : Value} {L L' M : List Int}
theorem All.later (h : All w W p b C q v L pc bc D qc u M) (hb : Below W.heap.size W W') : All w W' p b C q v L pc bc D qc u M :=
  ⟨h.d.later hb, h.r.later hb, h.dc.later hb, h.rc.later hb, stepB h.hb hb, h.n1, h.n2⟩
theorem All.drew (h : All w W p b C q v L pc bc D qc u M) : All w W.drew p b C q v L pc bc D qc u M := h.later (Below.drew (Below.refl _ _))
theorem All.stepD (h : All w W p b C q v L pc bc D qc u M) (ho : DdAt W' w.heap.size p b C') (hg : W.grownBy W' (some b)) : All w W' p b C' q v L pc bc D qc u M :=
  ⟨ho, rf_map h.r h.d hg, h.dc.other h.d hg h.n1, rf_map h.rc h.d hg, h.d.below h.hb hg, h.n1, h.n2⟩
theorem All.stepR (h : All w W p b C q v L pc bc D qc u M) (ho : RfAt W' w.heap.size q v' L') (hg : W.grownBy W' (some q)) : All w W' p b C q v' L' pc bc D qc u M :=
  ⟨dd_cell h.d h.r hg, ho, dd_cell h.dc h.r hg, rf_cell h.rc h.r hg h.n2, h.r.below h.hb hg, h.n1, h.n2⟩
end
theorem expand_do {C : List Ct} (h : Ok C) (t : Int) :
    raddE (expand C) t = addE C t ∧ raddS (expand C) t = expand (addS C t) ∧ decide (t ∈ expand C) = decide (ofC C t ≠ 0) ∧ remS t (expand C) = expand (lessS C t) ∧ ((expand C).length : Int) - (((expand C).filter (fun x => decide (t < x))).length : Nat) = sumC C - sumC (passS C t) ∧ (expand C).filter (fun x => decide (t < x)) = expand (passS C t) := by
  have hl := len_expand h.pos
  have hl2 := len_expand (h.pass t).pos
  have e1 : raddE (expand C) t = addE C t := by
    unfold raddE addE
    by_cases c : t < 1 ∨ 1048576 < t
    · rw [if_pos c, if_pos c]
    · rw [if_neg c, if_neg c]
      by_cases c2 : 64 ≤ sumC C
      · rw [if_pos c2, if_pos (by omega)]
      · rw [if_neg c2, if_neg (by omega)]
  have e6 := (expand_pass t C).symm
  refine ⟨e1, ?_, ?_, (expand_less t h.up h.pos).symm, ?_, e6⟩
  · unfold raddS addS
    rw [e1]
    by_cases c : addE C t = 0
    · rw [if_pos c, if_pos c, expand_add t h.up h.pos]
    · rw [if_neg c, if_neg c]
  · rw [decide_eq_decide]; exact mem_of h.pos h.up
  · rw [e6, hl, hl2]
/-- what was told: it may be written -/
def TL (W : World) (B : Nat) (A : Option Addr) (m : Nat) : Prop := 0 < m → ∃ g, A = some ⟨g, 0, none⟩ ∧ B ≤ g ∧ ∀ j, j < m → (∃ x : Int, W.cell? ⟨g, j * 2 + 1, none⟩ = some (.int .i64 x)) ∧ W.frozen? ⟨g, j * 2 + 1, none⟩ = false
theorem CtSl.tl {W : World} {B : Nat} {A : Option Addr} {L : List Ct} (h : CtSl W B A L) : TL W B A L.length := fun hL => by
  obtain ⟨g, hA, hB, _, hc⟩ := h hL
  exact ⟨g, hA, hB, fun j hj => ⟨⟨_, (hc j hj).2.1⟩, (hc j hj).2.2.2⟩⟩
theorem TL.set {W : World} {B m g j : Nat} {A : Option Addr} (h : TL W B A m) (y : Int) : TL (W.setCell ⟨g, j * 2 + 1, none⟩ (.int .i64 y)) B A m := fun hL => by
  obtain ⟨g', hA, hB, hc⟩ := h hL
  refine ⟨g', hA, hB, fun i hi => ?_⟩
  obtain ⟨⟨x, hx⟩, hf⟩ := hc i hi
  refine ⟨?_, by rw [World.frozen?_setCell]; exact hf⟩
  by_cases e : (⟨g, j * 2 + 1, none⟩ : Addr) = ⟨g', i * 2 + 1, none⟩
  · rw [e]; exact ⟨y, by first | exact World.cell?_setCell_same _ _ _ hx | exact World.cell?_setCell_same _ _ hx | exact World.cell?_setCell_same hx⟩
  · exact ⟨x, Eq.trans (by first | exact World.cell?_setCell_other _ _ _ _ e | exact World.cell?_setCell_other _ _ _ e | exact World.cell?_setCell_other e) hx⟩
/-- what region 15 keeps: all that there was, and the step's number -/
abbrev SP (w6 : World) (a : Addr) (ts : Int) (W : World) : Prop := Below w6.heap.size w6 W ∧ W.cell? a = some (.int .i64 ts)
theorem like_any (B p b B2 q : Nat) (C : List Ct) (v : Value) (w : World) (h : DdAt w B p b C) (hr : RfAt w B2 q v (expand C)) : Calls Try.prog 23 #[.pointer (some ⟨p, 0, none⟩), .pointer (some ⟨q, 0, none⟩)] w fun x w' => x = .returned (.bool true) ∧ Below w.heap.size w w' := like_of sort_some sort_none B p b B2 q C v w h hr
end Go.Proofs.Ytlnfdcaljmfbjaa
