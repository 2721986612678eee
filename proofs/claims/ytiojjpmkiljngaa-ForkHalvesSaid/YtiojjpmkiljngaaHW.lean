/- How far the chains are that put two rows together. -/
import Derived.Test.YtiojjpmkiljngaaHV
namespace Go.Proofs.Ytiojjpmkiljngaa
open Go.ChangeShapes Go.WideShapes Go.ChangeAt Go.RowKit
set_option linter.unusedVariables false
set_option linter.unusedSimpArgs false

/-- a row put together of two: made at j = 1, the first behind it at i = s + 1, the second at i = s + 2 -/
structure K3 {α : Type} (enc : α → Value) (G : Nat) (e : TypeId) (n1 n2 : Nat) (Z1 Z2 : List α) (s i j : Nat) (a b c : Value) (W : World) : Prop where
  a0 : j = 0 → a = undef
  b0 : i ≤ s → b = undef
  c0 : i ≤ s + 1 → c = undef
  a1 : i ≤ s → 1 ≤ j → Ow enc W G e a 0 []
  b1 : i = s + 1 → Ow enc W G e b n1 Z1
  c1 : s + 2 ≤ i → Ow enc W G e c (n1 + n2) (Z1 ++ Z2)
section
variable {α : Type} {enc : α → Value} {G : Nat} {e : TypeId} {n1 n2 : Nat} {Z1 Z2 : List α} {s i j : Nat} {a b c v : Value} {W W' : World}
theorem K3.keep (h : K3 enc G e n1 n2 Z1 Z2 s i j a b c W) (hk : ∀ (v : Value) (n : Nat) (xs : List α), Ow enc W G e v n xs → Ow enc W' G e v n xs) : K3 enc G e n1 n2 Z1 Z2 s i j a b c W' :=
  ⟨h.a0, h.b0, h.c0, fun e1 e2 => hk _ _ _ (h.a1 e1 e2), fun e1 => hk _ _ _ (h.b1 e1), fun e1 => hk _ _ _ (h.c1 e1)⟩
theorem K3.make (h : K3 enc G e n1 n2 Z1 Z2 s i 0 a b c W) (ho : Ow enc W' G e v 0 []) (hk : ∀ (v : Value) (n : Nat) (xs : List α), Ow enc W G e v n xs → Ow enc W' G e v n xs) : K3 enc G e n1 n2 Z1 Z2 s i 1 v b c W' :=
  ⟨fun e1 => absurd e1 (by omega), h.b0, h.c0, fun _ _ => ho, fun e1 => hk _ _ _ (h.b1 e1), fun e1 => hk _ _ _ (h.c1 e1)⟩
theorem K3.make1 (h : K3 enc G e n1 n2 Z1 Z2 1 0 0 a b c W) (ho : Ow enc W' G e v 0 []) : K3 enc G e n1 n2 Z1 Z2 1 1 1 v b c W' :=
  ⟨fun e1 => absurd e1 (by omega), fun _ => h.b0 (by omega), fun _ => h.c0 (by omega), fun _ _ => ho, fun e1 => absurd e1 (by omega), fun e1 => absurd e1 (by omega)⟩
theorem K3.first (h : K3 enc G e n1 n2 Z1 Z2 s s j a b c W) (hj : 1 ≤ j) {j' : Nat} (hj' : 1 ≤ j') (ho : Ow enc W' G e v n1 Z1) : K3 enc G e n1 n2 Z1 Z2 s (s + 1) j' a v c W' :=
  ⟨fun e1 => absurd e1 (by omega), fun e1 => absurd e1 (by omega), fun _ => h.c0 (by omega), fun e1 => absurd e1 (by omega), fun _ => ho, fun e1 => absurd e1 (by omega)⟩
theorem K3.second {j' : Nat} (hj' : j' = 0 → a = undef) (ho : Ow enc W' G e v (n1 + n2) (Z1 ++ Z2)) : K3 enc G e n1 n2 Z1 Z2 s (s + 2) j' a b v W' :=
  ⟨hj', fun e1 => absurd e1 (by omega), fun e1 => absurd e1 (by omega), fun e1 => absurd e1 (by omega), fun e1 => absurd e1 (by omega), fun _ => ho⟩
theorem K3.pass (h : K3 enc G e n1 n2 Z1 Z2 s i j a b c W) {i' : Nat} (h1 : i' ≤ s) (h2 : i ≤ s) : K3 enc G e n1 n2 Z1 Z2 s i' j a b c W :=
  ⟨h.a0, fun _ => h.b0 h2, fun _ => h.c0 (by omega), fun _ e2 => h.a1 h2 e2, fun e1 => absurd e1 (by omega), fun e1 => absurd e1 (by omega)⟩
theorem K3.over (h : K3 enc G e n1 n2 Z1 Z2 s i j a b c W) {i' j' : Nat} (h1 : s + 2 ≤ i') (h2 : s + 2 ≤ i) (hj : j' = 0 → j = 0) : K3 enc G e n1 n2 Z1 Z2 s i' j' a b c W :=
  ⟨fun e1 => h.a0 (hj e1), fun e1 => absurd e1 (by omega), fun e1 => absurd e1 (by omega), fun e1 => absurd e1 (by omega), fun e1 => absurd e1 (by omega), fun _ => h.c1 h2⟩
end
/-- keys of an inner node put together: of the low ones, the one that goes up, the high ones -/
structure K4 (G h t : Nat) (X1 X2 : List ByteArray) (up : ByteArray) (i j : Nat) (a b m c u : Value) (W : World) : Prop where
  a0 : i = 0 → a = undef
  b0 : i ≤ 1 → b = undef
  m0 : i ≤ 2 → m = undef
  c0 : i ≤ 3 → c = undef
  u0 : j = 0 → u = undef
  a1 : i = 1 → ∃ g, a = .slice (some ⟨g, 0, none⟩) 0 0 ∧ G ≤ g ∧ Blk W g #[] 9
  b1 : i = 2 → Ow sv W G 9 b h X1
  m1 : i = 3 → Ow sv W G 9 m (h + 1) (X1 ++ [up])
  c1 : 4 ≤ i → Ow sv W G 9 c (h + 1 + t) (X1 ++ [up] ++ X2)
  u1 : i ≤ 2 → 1 ≤ j → ∃ g, u = .slice (some ⟨g, 0, none⟩) 1 1 ∧ Blk W g #[.string up] 9
section
variable {G h t i j : Nat} {X1 X2 : List ByteArray} {up : ByteArray} {a b m c u v : Value} {W W' : World}
theorem K4.keep (k : K4 G h t X1 X2 up i j a b m c u W) (hk : ∀ (v : Value) (n : Nat) (xs : List ByteArray), Ow sv W G 9 v n xs → Ow sv W' G 9 v n xs) (hb : ∀ g cs, Blk W g cs 9 → Blk W' g cs 9) : K4 G h t X1 X2 up i j a b m c u W' :=
  ⟨k.a0, k.b0, k.m0, k.c0, k.u0, fun e => (k.a1 e).imp fun g h => ⟨h.1, h.2.1, hb _ _ h.2.2⟩, fun e => hk _ _ _ (k.b1 e), fun e => hk _ _ _ (k.m1 e), fun e => hk _ _ _ (k.c1 e), fun e1 e2 => (k.u1 e1 e2).imp fun g h => ⟨h.1, hb _ _ h.2⟩⟩
theorem ow_nil {g : Nat} (hg : G ≤ g) (h : Blk W g #[] 9) : Ow sv W G 9 (.slice (some ⟨g, 0, none⟩) 0 0) 0 [] := ⟨rfl, .inr ⟨g, 0, #[], rfl, hg, h, Nat.le_refl _, by unfold maxLen; omega, rfl, rfl⟩⟩
theorem sl_one {g : Nat} (h : Blk W g #[.string up] 9) : Sl sv W (some ⟨g, 0, none⟩) 1 1 [up] := Blk.sl (enc := sv) (xs := [up]) h
theorem blk_ne {g g' : Nat} {x : Value} {e : TypeId} (h : Blk W g #[] e) (h' : Blk W g' #[x] e) : g' ≠ g := fun e1 => by
  subst e1
  have h1 : W.heap[g']? = some (.cells #[] e (0, 0)) := h
  have h2 : W.heap[g']? = some (.cells #[x] e (0, 0)) := h'
  rw [h1] at h2
  cases h2
end
def YL (i : Nat) (c r y : Value) : Prop := (i ≤ 5 → y = undef) ∧ (6 ≤ i → y = .agg #[.bool true, c, .slice none 0 0, r])
def YI (i : Nat) (c r y : Value) : Prop := (i ≤ 6 → y = undef) ∧ (7 ≤ i → y = .agg #[.bool false, c, r, .slice none 0 0])
abbrev SI (w : World) (n f g gN oN gF oF : Nat) (y : Int) (a0 a1 a2 a3 b0 b1 b2 b3 c0 c1 c2 c3 : Value) (R : World → Prop) (W : World) : Prop := (Below w.heap.size w W ∧ R W) ∧ C4 W n a0 a1 a2 a3 ∧ C4 W f b0 b1 b2 b3 ∧ C4 W g c0 c1 c2 c3 ∧ W.cell? ⟨gN, oN, none⟩ = some (.int .i64 y) ∧ W.cell? ⟨gF, oF, none⟩ = some (.int .i64 y)
section
variable {w W W' : World} {n f g gN oN gF oF : Nat} {y : Int} {a0 a1 a2 a3 b0 b1 b2 b3 c0 c1 c2 c3 : Value} {R : World → Prop}
theorem SI.later (hR : ∀ W W' : World, R W → Below W.heap.size W W' → R W') (s : SI w n f g gN oN gF oF y a0 a1 a2 a3 b0 b1 b2 b3 c0 c1 c2 c3 R W) (hb : Below W.heap.size W W') : SI w n f g gN oN gF oF y a0 a1 a2 a3 b0 b1 b2 b3 c0 c1 c2 c3 R W' :=
  ⟨⟨stepB s.1.1 hb, hR _ _ s.1.2 hb⟩, s.2.1.later hb, s.2.2.1.later hb, s.2.2.2.1.later hb, (hb.cell (p := ⟨gN, oN, none⟩) (lt_of_cell s.2.2.2.2.1)).trans s.2.2.2.2.1, (hb.cell (p := ⟨gF, oF, none⟩) (lt_of_cell s.2.2.2.2.2)).trans s.2.2.2.2.2⟩
theorem SI.drew (hR : ∀ W W' : World, R W → Below W.heap.size W W' → R W') (s : SI w n f g gN oN gF oF y a0 a1 a2 a3 b0 b1 b2 b3 c0 c1 c2 c3 R W) : SI w n f g gN oN gF oF y a0 a1 a2 a3 b0 b1 b2 b3 c0 c1 c2 c3 R W.drew := SI.later hR s ((Below.refl _ _).drew)
theorem SI.drewN (hR : ∀ W W' : World, R W → Below W.heap.size W W' → R W') {j : Nat} (s : SI w n f g gN oN gF oF y a0 a1 a2 a3 b0 b1 b2 b3 c0 c1 c2 c3 R W) : SI w n f g gN oN gF oF y a0 a1 a2 a3 b0 b1 b2 b3 c0 c1 c2 c3 R (W.drewN j) := SI.later hR s (below_drewN (Below.refl _ _) j)
end
theorem halves_up {xs : List ByteArray} {up : ByteArray} {h : Nat} (hup : xs[h]? = some up) : xs.take h ++ ([up] ++ xs.drop (h + 1)) = xs := by
  obtain ⟨hl, he⟩ := List.getElem?_eq_some_iff.1 hup
  have e := List.take_append_drop h xs
  rw [List.drop_eq_getElem_cons hl, he] at e
  exact e
theorem step_callw {P : Program} {ops : Array Oper} {Q : Exit → Act → World → Prop} {o : Oper} {a : Act} {w : World} {K : Act → World → Prop} {D : Prop} (hw : Region.wanted o (yielded ops a.tmps) = true) (f : FuncId) (args : Array Value) (hrun : (execOp a.eval o).run P w = .ok (.enter f args) w) (h : Calls P f args w fun e w' => ∃ v, e = .returned v ∧ K (a.put o.dst v) w') :
    if Region.wanted o (yielded ops a.tmps) = true then Oper.wp P o a w K Q else D := by
  rw [if_pos hw]
  unfold Oper.wp
  rw [hrun, Oper.upon_enter]
  refine h.mono fun e w' hh => ?_
  obtain ⟨v, rfl, hk⟩ := hh
  exact hk
theorem cell_later {W W' : World} {g o : Nat} {v : Value} (h : W.cell? ⟨g, o, none⟩ = some v) (hb : Below W.heap.size W W') : W'.cell? ⟨g, o, none⟩ = some v := (hb.cell (p := ⟨g, o, none⟩) (lt_of_cell h)).trans h
theorem Blk.grown_tag {α : Type} {enc : α → Value} {W W' : World} {B g n : Nat} {cs : Array Value} {t e : TypeId} {v : Value} {xs : List α} (h : Blk W g cs t) (h2 : Ow enc W B e v n xs) (hne : t ≠ e) (hg : W.grownBy W' v.ownBlock) : Blk W' g cs t :=
  h.grown hg (fun e3 => by
    obtain ⟨c1, t1⟩ := Ow.tag h2 g e3.symm
    have t2 : W.heap[g]? = some (.cells cs t (0, 0)) := h
    rw [t1] at t2
    cases t2
    exact hne rfl)
theorem ChB.grown {α : Type} {enc : α → Value} {w0 W W' : World} {B n i : Nat} {t e : TypeId} {u v : Value} {xs : List α} (h : ChB w0 t i u W) (h2 : Ow enc W B e v n xs) (hne : t ≠ e) (hg : W.grownBy W' v.ownBlock) : ChB w0 t i u W' := by
  match i, h with
  | 0, h => exact h
  | i + 1, h => obtain ⟨b, h1, h3, h4⟩ := h; exact ⟨b, h1, h3, h4.grown_tag h2 hne hg⟩
theorem aft_grown {α : Type} {enc : α → Value} {w0 W W' : World} {n : Nat} {e : TypeId} {v : Value} {xs : List α} (h : Aft w0 W) (h2 : Ow enc W w0.heap.size e v n xs) (hg : W.grownBy W' v.ownBlock) : Aft w0 W' := Below.grown h hg h.size (fun k hk => (Ow.lt h2 k hk).1)
end Go.Proofs.Ytiojjpmkiljngaa
