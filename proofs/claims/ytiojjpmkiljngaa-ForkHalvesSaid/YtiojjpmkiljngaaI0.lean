/- Nodes: what a region that draws keeps; what a call tells. -/
import Derived.Test.YtiojjpmkiljngaaH1
import Derived.Test.YtiojjpmkiljngaaH2
import Derived.Test.YtiojjpmkiljngaaH3
namespace Go.Proofs.Ytiojjpmkiljngaa
open Go.ChangeShapes Go.WideShapes Go.ChangeAt Go.RowKit
set_option linter.unusedVariables false
set_option linter.unusedSimpArgs false

abbrev C4 (W : World) (g : Nat) (a b c d : Value) : Prop := W.cell? ⟨g, 0, none⟩ = some a ∧ W.cell? ⟨g, 1, none⟩ = some b ∧ W.cell? ⟨g, 2, none⟩ = some c ∧ W.cell? ⟨g, 3, none⟩ = some d
theorem Blk.c4 {W : World} {g : Nat} {a b c d : Value} {t : TypeId} (h : Blk W g #[a, b, c, d] t) : C4 W g a b c d := ⟨h.cell 0, h.cell 1, h.cell 2, h.cell 3⟩
/-- what a cell holds, whatever that is -/
def oldc (W : World) (g j : Nat) : Value := (W.cell? ⟨g, j, none⟩).getD (.int .i64 0)
theorem oldc_of {W : World} {g j : Nat} {v : Value} (h : W.cell? ⟨g, j, none⟩ = some v) : W.cell? ⟨g, j, none⟩ = some (oldc W g j) := by unfold oldc; rw [h]; rfl
abbrev L4 (W : World) (g : Nat) : Prop := W.cell? ⟨g, 0, none⟩ = some (oldc W g 0) ∧ W.cell? ⟨g, 1, none⟩ = some (oldc W g 1) ∧ W.cell? ⟨g, 2, none⟩ = some (oldc W g 2) ∧ W.cell? ⟨g, 3, none⟩ = some (oldc W g 3) ∧ W.frozen? ⟨g, 0, none⟩ = false ∧ W.frozen? ⟨g, 1, none⟩ = false ∧ W.frozen? ⟨g, 2, none⟩ = false ∧ W.frozen? ⟨g, 3, none⟩ = false
theorem Blk.l4 {W : World} {g : Nat} {a b c d : Value} {t : TypeId} (h : Blk W g #[a, b, c, d] t) : L4 W g := ⟨oldc_of (h.cell 0), oldc_of (h.cell 1), oldc_of (h.cell 2), oldc_of (h.cell 3), h.frozen 0, h.frozen 1, h.frozen 2, h.frozen 3⟩
theorem C4.later {W W' : World} {g : Nat} {a b c d : Value} (h : C4 W g a b c d) (hb : Below W.heap.size W W') : C4 W' g a b c d :=
  have hl := lt_of_cell h.1
  ⟨(hb.cell (p := ⟨g, 0, none⟩) hl).trans h.1, (hb.cell (p := ⟨g, 1, none⟩) hl).trans h.2.1, (hb.cell (p := ⟨g, 2, none⟩) hl).trans h.2.2.1, (hb.cell (p := ⟨g, 3, none⟩) hl).trans h.2.2.2⟩
theorem L4.later {W W' : World} {g : Nat} (h : L4 W g) (hb : Below W.heap.size W W') : L4 W' g :=
  have hl := lt_of_cell h.1
  ⟨oldc_of ((hb.cell (p := ⟨g, 0, none⟩) hl).trans h.1), oldc_of ((hb.cell (p := ⟨g, 1, none⟩) hl).trans h.2.1), oldc_of ((hb.cell (p := ⟨g, 2, none⟩) hl).trans h.2.2.1), oldc_of ((hb.cell (p := ⟨g, 3, none⟩) hl).trans h.2.2.2.1),
   (hb.frozen (p := ⟨g, 0, none⟩) hl).trans h.2.2.2.2.1, (hb.frozen (p := ⟨g, 1, none⟩) hl).trans h.2.2.2.2.2.1, (hb.frozen (p := ⟨g, 2, none⟩) hl).trans h.2.2.2.2.2.2.1, (hb.frozen (p := ⟨g, 3, none⟩) hl).trans h.2.2.2.2.2.2.2⟩
theorem cell_set_ne (W : World) {g g' j i : Nat} (h : g ≠ g') (v : Value) : (W.setCell ⟨g', i, none⟩ v).cell? ⟨g, j, none⟩ = W.cell? ⟨g, j, none⟩ := World.cell?_setCell_other W _ _ v (fun e => h (by cases e; rfl))
/-- what a region keeps that loads from a block and stores into another one -/
abbrev SB (w : World) (g h : Nat) (a b c d : Value) (W : World) : Prop := Aft w W ∧ C4 W g a b c d ∧ L4 W h
theorem SB.later {w W W' : World} {g h : Nat} {a b c d : Value} (s : SB w g h a b c d W) (hb : Below W.heap.size W W') : SB w g h a b c d W' := ⟨Aft.below s.1 hb, s.2.1.later hb, s.2.2.later hb⟩
theorem SB.drew {w W : World} {g h : Nat} {a b c d : Value} (s : SB w g h a b c d W) : SB w g h a b c d W.drew := s.later ((Below.refl _ _).drew)
theorem SB.drewN {w W : World} {g h n : Nat} {a b c d : Value} (s : SB w g h a b c d W) : SB w g h a b c d (W.drewN n) := s.later (below_drewN (Below.refl _ _) n)
theorem SB.drewN2 {w W : World} {g h m n : Nat} {a b c d : Value} (s : SB w g h a b c d (W.drewN m)) : SB w g h a b c d (W.drewN (m + n)) := s.later (W' := W.drewN (m + n)) ⟨rfl, rfl, rfl, Nat.le_refl _, fun _ _ => rfl⟩
theorem SB.alloc {w W : World} {g h : Nat} {a b c d : Value} (s : SB w g h a b c d W) (o : Obj) : SB w g h a b c d (W.alloc o) := s.later ((Below.refl _ _).alloc (Nat.le_refl _) _)
theorem some_set {W : World} {g i j : Nat} {u : Value} (h : W.cell? ⟨g, i, none⟩ = some u) (v : Value) : ∃ u', (W.setCell ⟨g, j, none⟩ v).cell? ⟨g, i, none⟩ = some u' := by
  by_cases e : i = j
  · subst e; exact ⟨v, World.cell?_setCell_same W _ v h⟩
  · exact ⟨u, (World.cell?_setCell_other W ⟨g, j, none⟩ ⟨g, i, none⟩ v (fun k => e (by cases k; rfl))).trans h⟩
theorem L4.set {W : World} {g j : Nat} (h : L4 W g) (v : Value) : L4 (W.setCell ⟨g, j, none⟩ v) g := by
  obtain ⟨h0, h1, h2, h3, f0, f1, f2, f3⟩ := h
  obtain ⟨u0, k0⟩ := some_set (j := j) h0 v
  obtain ⟨u1, k1⟩ := some_set (j := j) h1 v
  obtain ⟨u2, k2⟩ := some_set (j := j) h2 v
  obtain ⟨u3, k3⟩ := some_set (j := j) h3 v
  exact ⟨oldc_of k0, oldc_of k1, oldc_of k2, oldc_of k3, by rw [World.frozen?_setCell]; exact f0, by rw [World.frozen?_setCell]; exact f1, by rw [World.frozen?_setCell]; exact f2, by rw [World.frozen?_setCell]; exact f3⟩
theorem C4.set {W : World} {g h j : Nat} {a b c d : Value} (s : C4 W g a b c d) (hne : g ≠ h) (v : Value) : C4 (W.setCell ⟨h, j, none⟩ v) g a b c d :=
  ⟨(cell_set_ne W hne v).trans s.1, (cell_set_ne W hne v).trans s.2.1, (cell_set_ne W hne v).trans s.2.2.1, (cell_set_ne W hne v).trans s.2.2.2⟩
theorem SB.set4 {w W : World} {g h : Nat} {a b c d a' b' c' d' : Value} (s : SB w g h a b c d W) (hh : w.heap.size ≤ h) (hne : g ≠ h) : SB w g h a b c d ((((W.setCell ⟨h, 0, none⟩ a').setCell ⟨h, 1, none⟩ b').setCell ⟨h, 2, none⟩ c').setCell ⟨h, 3, none⟩ d') :=
  ⟨(((Below.setCell s.1 hh _).setCell hh _).setCell hh _).setCell hh _, (((s.2.1.set hne _).set hne _).set hne _).set hne _, (((s.2.2.set _).set _).set _).set _⟩
theorem Aft.set {w W : World} {g j : Nat} (h : Aft w W) (hg : w.heap.size ≤ g) (v : Value) : Aft w (W.setCell ⟨g, j, none⟩ v) := Below.setCell h hg _
/-- Ow, a cell of a lesser block written -/
theorem ow_low {α : Type} {enc : α → Value} {W : World} {B B' j n : Nat} {e : TypeId} {v u : Value} {xs : List α} (h : Ow enc W B e v n xs) (hl : B' < B) : Ow enc (W.setCell ⟨B', j, none⟩ u) B e v n xs :=
  World.ownsRow.kept h (row := some B') ⟨rfl, rfl, rfl, by simp [World.setCell], fun k hk hkr => Below.heap_setCell W ⟨B', j, none⟩ u k (fun e => hkr (by rw [e]))⟩ (by
    by_cases h0 : v.ownBlock = none
    · exact .inl h0
    · right; intro e
      have := (Ow.lt h B' e).1
      omega)
theorem set4 {w W : World} {g : Nat} {a b c d : Value} (h : Below w.heap.size w W) (hg : w.heap.size ≤ g) : Below w.heap.size w ((((W.setCell ⟨g, 0, none⟩ a).setCell ⟨g, 1, none⟩ b).setCell ⟨g, 2, none⟩ c).setCell ⟨g, 3, none⟩ d) := (((h.setCell hg _).setCell hg _).setCell hg _).setCell hg _
theorem ow_low4 {α : Type} {enc : α → Value} {W : World} {B g n : Nat} {e : TypeId} {v a b c d : Value} {xs : List α} (h : Ow enc W B e v n xs) (hl : g < B) : Ow enc ((((W.setCell ⟨g, 0, none⟩ a).setCell ⟨g, 1, none⟩ b).setCell ⟨g, 2, none⟩ c).setCell ⟨g, 3, none⟩ d) B e v n xs :=
  ow_low (ow_low (ow_low (ow_low h hl) hl) hl) hl
theorem ow_none4 {α : Type} {enc : α → Value} {W : World} {B g : Nat} {e : TypeId} {a b c d : Value} : Ow enc ((((W.setCell ⟨g, 0, none⟩ a).setCell ⟨g, 1, none⟩ b).setCell ⟨g, 2, none⟩ c).setCell ⟨g, 3, none⟩ d) B e (.slice Option.none 0 0) 0 [] := Ow.none _ _ _
theorem fin4 {W : World} {g : Nat} {z0 z1 z2 z3 a b c d : Value} {t : TypeId} (h : Blk W g #[z0, z1, z2, z3] t) : C4 ((((W.setCell ⟨g, 0, none⟩ a).setCell ⟨g, 1, none⟩ b).setCell ⟨g, 2, none⟩ c).setCell ⟨g, 3, none⟩ d) g a b c d := by
  have h4 : Blk ((((W.setCell ⟨g, 0, none⟩ a).setCell ⟨g, 1, none⟩ b).setCell ⟨g, 2, none⟩ c).setCell ⟨g, 3, none⟩ d) g #[a, b, c, d] t := (((h.set a).set b).set c).set d
  exact h4.c4
/-- a node of the call's own -/
def NdO (W : World) (B : Nat) (v : Value) (lf : Bool) (xs : List ByteArray) (ks rs : List Int) : Prop := ∃ v1 v2 v3, v = .agg #[.bool lf, v1, v2, v3] ∧ Ow sv W B 9 v1 xs.length xs ∧ Ow iv W B 3 v2 ks.length ks ∧ Ow hv W B 24 v3 rs.length rs
theorem NdO.later {W W' : World} {B : Nat} {v : Value} {lf : Bool} {xs : List ByteArray} {ks rs : List Int} (h : NdO W B v lf xs ks rs) (hb : Below W.heap.size W W') : NdO W' B v lf xs ks rs := by
  obtain ⟨v1, v2, v3, e, h1, h2, h3⟩ := h
  exact ⟨v1, v2, v3, e, h1.later hb, h2.later hb, h3.later hb⟩
theorem NdO.base {W : World} {B B' : Nat} {v : Value} {lf : Bool} {xs : List ByteArray} {ks rs : List Int} (h : NdO W B v lf xs ks rs) (hb : B' ≤ B) : NdO W B' v lf xs ks rs := by
  obtain ⟨v1, v2, v3, e, h1, h2, h3⟩ := h
  exact ⟨v1, v2, v3, e, h1.base hb, h2.base hb, h3.base hb⟩
/-- a node that is read -/
structure Nd (W : World) (A B C : Option Addr) (n c m d k e : Nat) (xs : List ByteArray) (ks rs : List Int) : Prop where
  K : Sl sv W A n c xs
  D : Sl iv W B m d ks
  R : Sl hv W C k e rs
  sz : n + m + k ≤ 200000
theorem Nd.later {W W' : World} {A B C : Option Addr} {n c m d k e : Nat} {xs : List ByteArray} {ks rs : List Int} (h : Nd W A B C n c m d k e xs ks rs) (hb : Below W.heap.size W W') : Nd W' A B C n c m d k e xs ks rs := ⟨h.K.later hb, h.D.later hb, h.R.later hb, h.sz⟩
theorem NdO.nd {W : World} {B : Nat} {v : Value} {lf : Bool} {xs : List ByteArray} {ks rs : List Int} (h : NdO W B v lf xs ks rs) (hz : xs.length + ks.length + rs.length ≤ 200000) :
    ∃ A B C c d e, v = .agg #[.bool lf, .slice A xs.length c, .slice B ks.length d, .slice C rs.length e] ∧ Nd W A B C xs.length c ks.length d rs.length e xs ks rs := by
  obtain ⟨v1, v2, v3, rfl, h1, h2, h3⟩ := h
  obtain ⟨A, c, rfl, s1⟩ := h1.sl
  obtain ⟨B, d, rfl, s2⟩ := h2.sl
  obtain ⟨C, e, rfl, s3⟩ := h3.sl
  exact ⟨A, B, C, c, d, e, rfl, s1, s2, s3, hz⟩
def NdEnd (lf : Bool) (xs : List ByteArray) (ks rs : List Int) (code : Int) (w : World) (x : Ending) (w' : World) : Prop := ∃ v, x = .returned (.tuple #[v, .int .i64 code]) ∧ NdO w' w.heap.size v lf xs ks rs ∧ Below w.heap.size w w'
theorem may_true {lf : Bool} {xs : List ByteArray} {m k : Nat} (h : mayB lf xs m k = true) : (if lf then k = xs.length ∧ m = 0 else m = xs.length + 1 ∧ k = 0) := by
  unfold mayB at h
  rw [Bool.and_eq_true] at h
  cases lf <;> simpa using h.2
theorem has_lt {xs : List ByteArray} {key : ByteArray} (h : hasB xs key = true) : lowN xs key < xs.length := by
  unfold hasB at h
  rw [Bool.and_eq_true, decide_eq_true_eq] at h
  exact h.1
/-- the node of nothing -/
def zv : Value := .agg #[.bool false, .slice none 0 0, .slice none 0 0, .slice none 0 0]
theorem NdO.zero (W : World) (B : Nat) : NdO W B (.agg #[.bool false, .slice none 0 0, .slice none 0 0, .slice none 0 0]) false [] [] [] := ⟨_, _, _, rfl, Ow.none _ _ _, Ow.none _ _ _, Ow.none _ _ _⟩
theorem nd_zero {w w' : World} {code : Int} (hb : Below w.heap.size w w') : NdEnd false [] [] [] code w (.returned (.tuple #[.agg #[.bool false, .slice none 0 0, .slice none 0 0, .slice none 0 0], .int .i64 code])) w' := ⟨_, rfl, NdO.zero _ _, hb⟩
end Go.Proofs.Ytiojjpmkiljngaa
