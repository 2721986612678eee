/- What LatchPlays keeps: the object, the document's, and a copy of each (or themselves). -/
import Derived.Test.YtgjponobiplipaaP4
import Derived.Test.YtgjponobiplipaaK
namespace Go.Proofs.Ytgjponobiplipaa
open Go.ChangeShapes Go.WideShapes Go.ChangeAt Go.RowKit Go.Maps
set_option linter.unusedVariables false
set_option linter.unusedSimpArgs false

theorem rf_map {W W' : World} {B B' p b q : Nat} {C : List Ct} {v : Value} {L : List Ct} (h : RfAt W B q v L) (o : LaAt W B' p b C) (hg : W.grownBy W' (some b)) : RfAt W' B q v L :=
  h.grown hg (fun e => by
    have e2 : q = b := Option.some.inj e
    obtain ⟨es, clock, hm, _⟩ := o.own.2
    have h2 : W.heap[q]? = some (.cells #[v] 42 (0, 0)) := h.blk
    rw [e2, hm] at h2; cases h2) (fun k hk e => by
    have e2 : k = b := Option.some.inj e
    obtain ⟨cur, hc⟩ := HOwn.tag h.own k hk
    obtain ⟨es, clock, hm, _⟩ := o.own.2
    rw [e2, hm] at hc; cases hc)
theorem la_cell {W W' : World} {B B' p b q : Nat} {C : List Ct} {v : Value} {L : List Ct} (h : LaAt W B p b C) (o : RfAt W B' q v L) (hg : W.grownBy W' (some q)) : LaAt W' B p b C :=
  ⟨h.hp, h.blk.grown hg (fun e => by
    have e2 : p = q := Option.some.inj e
    have h1 : W.heap[p]? = some (.cells #[.map (some b)] 56 (0, 0)) := h.blk
    have h2 : W.heap[q]? = some (.cells #[v] 42 (0, 0)) := o.blk
    rw [e2, h2] at h1; cases h1), ⟨h.own.1, h.own.2.kept hg (fun e => by
    have e2 : b = q := Option.some.inj e
    obtain ⟨es, clock, hm, _⟩ := h.own.2
    have h2 : W.heap[q]? = some (.cells #[v] 42 (0, 0)) := o.blk
    rw [← e2, hm] at h2; cases h2)⟩, h.ok⟩
theorem rf_cell {W W' : World} {B B' q q2 : Nat} {v u : Value} {L M : List Ct} (h : RfAt W B q2 u M) (o : RfAt W B' q v L) (hg : W.grownBy W' (some q)) (hq : q2 ≠ q) : RfAt W' B q2 u M :=
  h.grown hg (fun e => hq (Option.some.inj e)) (fun k hk e => by
    have e2 : k = q := Option.some.inj e
    obtain ⟨cur, hc⟩ := HOwn.tag h.own k hk
    have h2 : W.heap[q]? = some (.cells #[v] 42 (0, 0)) := o.blk
    rw [e2, h2] at hc; cases hc)
theorem RfAt.below {w W W' : World} {q : Nat} {v : Value} {L : List Ct} (h : RfAt W w.heap.size q v L) (hb : Below w.heap.size w W) (hg : W.grownBy W' (some q)) : Below w.heap.size w W' := hb.grown hg hb.size (fun k e => by cases e; exact h.hp)
/-- all that the law holds; the second pair is the first, or a copy of each -/
structure All (w W : World) (p b : Nat) (C : List Ct) (q : Nat) (v : Value) (L : List Ct) (pc qc : Nat) (D : List Ct) : Prop where
  d : LaAt W w.heap.size p b C
  r : RfAt W w.heap.size q v L
  x : (pc = p ∧ qc = q) ∨ ∃ bc u, LaAt W w.heap.size pc bc D ∧ RfAt W w.heap.size qc u D ∧ bc ≠ b ∧ qc ≠ q
  hb : Below w.heap.size w W
section
variable {w W W' : World} {p b q pc qc : Nat} {C C' D : List Ct} {v v' : Value} {L L' : List Ct}
theorem All.later (h : All w W p b C q v L pc qc D) (hb : Below W.heap.size W W') : All w W' p b C q v L pc qc D :=
  ⟨h.d.later hb, h.r.later hb, h.x.elim (fun e => .inl e) (fun ⟨bc, u, h1, h2, h3⟩ => .inr ⟨bc, u, h1.later hb, h2.later hb, h3⟩), stepB h.hb hb⟩
theorem All.stepD (h : All w W p b C q v L pc qc D) (ho : LaAt W' w.heap.size p b C') (hg : W.grownBy W' (some b)) : All w W' p b C' q v L pc qc D :=
  ⟨ho, rf_map h.r h.d hg, h.x.elim (fun e => .inl e) (fun ⟨bc, u, h1, h2, h3⟩ => .inr ⟨bc, u, h1.other h.d hg h3.1, rf_map h2 h.d hg, h3⟩), h.d.below h.hb hg⟩
theorem All.stepR (h : All w W p b C q v L pc qc D) (ho : RfAt W' w.heap.size q v' L') (hg : W.grownBy W' (some q)) : All w W' p b C q v' L' pc qc D :=
  ⟨la_cell h.d h.r hg, ho, h.x.elim (fun e => .inl e) (fun ⟨bc, u, h1, h2, h3⟩ => .inr ⟨bc, u, la_cell h1 h.r hg, rf_cell h2 h.r hg h3.2, h3⟩), h.r.below h.hb hg⟩
/-- the second pair, whichever -/
theorem All.two (h : All w W p b C q v C pc qc D) : ∃ bc u M, LaAt W w.heap.size pc bc M ∧ RfAt W w.heap.size qc u M ∧ (M = C ∨ M = D) := by
  rcases h.x with ⟨rfl, rfl⟩ | ⟨bc, u, h1, h2, _⟩
  · exact ⟨b, v, C, h.d, h.r, .inl rfl⟩
  · exact ⟨bc, u, D, h1, h2, .inr rfl⟩
end
/-- and the name's own cells -/
structure All2 (w W : World) (p b : Nat) (C : List Ct) (q : Nat) (v : Value) (L : List Ct) (pc qc : Nat) (D : List Ct) (gn : Nat) (zk zi : Int) : Prop where
  a : All w W p b C q v L pc qc D
  n : Blk W gn #[.int .u8 zk, .int .u64 zi] 37
section
variable {w W W' : World} {p b q pc qc gn : Nat} {C C' D : List Ct} {v v' : Value} {L L' : List Ct} {zk zi : Int}
theorem All2.later (h : All2 w W p b C q v L pc qc D gn zk zi) (hb : Below W.heap.size W W') : All2 w W' p b C q v L pc qc D gn zk zi := ⟨h.a.later hb, h.n.later hb⟩
theorem All2.drew (h : All2 w W p b C q v L pc qc D gn zk zi) : All2 w W.drew p b C q v L pc qc D gn zk zi := h.later (Below.drew (Below.refl _ _))
theorem All2.stepD (h : All2 w W p b C q v L pc qc D gn zk zi) (ho : LaAt W' w.heap.size p b C') (hg : W.grownBy W' (some b)) : All2 w W' p b C' q v L pc qc D gn zk zi :=
  ⟨h.a.stepD ho hg, h.n.mp h.a.d hg⟩
theorem All2.stepR (h : All2 w W p b C q v L pc qc D gn zk zi) (ho : RfAt W' w.heap.size q v' L') (hg : W.grownBy W' (some q)) : All2 w W' p b C q v' L' pc qc D gn zk zi :=
  ⟨h.a.stepR ho hg, h.n.grown hg (fun e => by
    have e2 : gn = q := Option.some.inj e
    have h1 : W.heap[gn]? = some (.cells #[.int .u8 zk, .int .u64 zi] 37 (0, 0)) := h.n
    have h2 : W.heap[q]? = some (.cells #[v] 42 (0, 0)) := h.a.r.blk
    rw [e2, h2] at h1; cases h1)⟩
end
/-- what the step's region reads -/
abbrev S5 (g o gn : Nat) (zk zi t : Int) (W : World) : Prop := W.cell? ⟨g, o + 1, none⟩ = some (.int .u8 zk) ∧ W.cell? ⟨g, o + 2, none⟩ = some (.int .u64 zi) ∧ W.cell? ⟨g, o + 3, none⟩ = some (.int .i64 t) ∧ W.cell? ⟨gn, 0, none⟩ = some (.int .u8 zk) ∧ W.cell? ⟨gn, 1, none⟩ = some (.int .u64 zi)
/-- what was told: it may be written -/
def NTl (W : World) (B : Nat) (A : Option Addr) (m : Nat) : Prop := 0 < m → ∃ g, A = some ⟨g, 0, none⟩ ∧ B ≤ g ∧ ∀ j, j < m → (∃ x : Int, W.cell? ⟨g, j * 2 + 1, none⟩ = some (.int .u64 x)) ∧ W.frozen? ⟨g, j * 2 + 1, none⟩ = false
theorem NSl.tl {W : World} {B : Nat} {A : Option Addr} {L : List Int} (h : NSl W B A L) : NTl W B A L.length := fun hL => by
  obtain ⟨g, hA, hB, _, hc⟩ := h hL
  exact ⟨g, hA, hB, fun j hj => ⟨⟨_, (hc j hj).2.1⟩, (hc j hj).2.2.2⟩⟩
theorem NTl.set {W : World} {B m g j : Nat} {A : Option Addr} (h : NTl W B A m) (y : Int) : NTl (W.setCell ⟨g, j * 2 + 1, none⟩ (.int .u64 y)) B A m := fun hL => by
  obtain ⟨g', hA, hB, hc⟩ := h hL
  refine ⟨g', hA, hB, fun i hi => ?_⟩
  obtain ⟨⟨x, hx⟩, hf⟩ := hc i hi
  refine ⟨?_, by rw [World.frozen?_setCell]; exact hf⟩
  by_cases e : (⟨g, j * 2 + 1, none⟩ : Addr) = ⟨g', i * 2 + 1, none⟩
  · rw [e]; exact ⟨y, by first | exact World.cell?_setCell_same _ _ _ hx | exact World.cell?_setCell_same _ _ hx | exact World.cell?_setCell_same hx⟩
  · exact ⟨x, Eq.trans (by first | exact World.cell?_setCell_other _ _ _ _ e | exact World.cell?_setCell_other _ _ _ e | exact World.cell?_setCell_other e) hx⟩
/-- what the last regions keep: all that there was, and what they read -/
abbrev SP (w6 : World) (a : Addr) (x : Value) (a2 : Addr) (x2 : Value) (W : World) : Prop := Below w6.heap.size w6 W ∧ W.cell? a = some x ∧ W.cell? a2 = some x2
end Go.Proofs.Ytgjponobiplipaa
