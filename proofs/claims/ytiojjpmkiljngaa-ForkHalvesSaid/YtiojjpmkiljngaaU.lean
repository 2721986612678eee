/- A node of its own. -/
import Derived.Test.YtiojjpmkiljngaaJ1
import Derived.Test.YtiojjpmkiljngaaT
namespace Go.Proofs.Ytiojjpmkiljngaa
open Go.ChangeShapes Go.WideShapes Go.ChangeAt Go.RowKit
set_option linter.unusedVariables false
set_option linter.unusedSimpArgs false

/-- how far a chain is: nothing, an empty row, the row -/
def Ch {α : Type} (enc : α → Value) (B : Nat) (e : TypeId) (n : Nat) (xs : List α) : Nat → Value → Value → World → Prop
  | 0, u, v, w => u = undef ∧ v = undef
  | 1, u, v, w => v = undef ∧ Ow enc w B e u 0 []
  | _, u, v, w => Ow enc w B e v n xs
def quietOwn : List Nat := [0, 1, 2, 3, 4, 5, 7, 8, 10, 11, 12, 13, 15, 16, 18, 19, 20, 21, 23, 24]
def pOwn (i : Nat) : Nat := if i = 0 then 6 else 9
def qOwn (i : Nat) : Nat := if i = 0 then 14 else 17
def rOwn (i : Nat) : Nat := if i = 0 then 22 else 25
def lOwn (i j k : Nat) : Array Bool := (Array.range 28).map fun o => quietOwn.contains o || (o == 6 && decide (1 ≤ i)) || (o == 9 && decide (2 ≤ i)) || (o == 14 && decide (1 ≤ j)) || (o == 17 && decide (2 ≤ j)) || (o == 22 && decide (1 ≤ k)) || (o == 25 && decide (2 ≤ k))
theorem ow_grown_none {α : Type} {enc : α → Value} {W W' : World} {B n : Nat} {e : TypeId} {v : Value} {xs : List α} (h : Ow enc W B e v n xs) (hg : W.grownBy W' Option.none) : Ow enc W' B e v n xs :=
  World.ownsRow.kept h hg (by cases h0 : v.ownBlock <;> simp)
theorem ow_grown_tag {α β : Type} {enc : α → Value} {enc2 : β → Value} {W W' : World} {B B2 n n2 : Nat} {e e2 : TypeId} {v v2 : Value} {xs : List α} {ys : List β} (h : Ow enc W B e v n xs) (h2 : Ow enc2 W B2 e2 v2 n2 ys) (hne : e ≠ e2) (hg : W.grownBy W' v2.ownBlock) : Ow enc W' B e v n xs :=
  World.ownsRow.kept h hg (by
    cases h0 : v.ownBlock with
    | none => exact .inl rfl
    | some k =>
      right; intro e3
      obtain ⟨c1, t1⟩ := Ow.tag h k h0
      obtain ⟨c2, t2⟩ := Ow.tag h2 k e3.symm
      rw [t1] at t2
      cases t2
      exact hne rfl)
theorem Ch.keep {α : Type} {enc : α → Value} {B n : Nat} {e : TypeId} {xs : List α} {i : Nat} {u v : Value} {W W' : World} (h : Ch enc B e n xs i u v W) (hk : ∀ (v : Value) (n : Nat) (xs : List α), Ow enc W B e v n xs → Ow enc W' B e v n xs) : Ch enc B e n xs i u v W' := by
  match i, h with
  | 0, h => exact h
  | 1, h => exact ⟨h.1, hk _ _ _ h.2⟩
  | i + 2, h => exact hk _ _ _ h
theorem SB.grown {w W W' : World} {g h : Nat} {a b c d : Value} {r : Option Nat} (s : SB w g h a b c d W) (hg : W.grownBy W' r) (h1 : ∀ k, r = some k → w.heap.size ≤ k ∧ k ≠ g ∧ k ≠ h) : SB w g h a b c d W' := by
  have hl1 := lt_of_cell s.2.1.1
  have hl2 := lt_of_cell s.2.2.1
  have e1 : W'.heap[g]? = W.heap[g]? := hg.block g hl1 (fun e => (h1 g e.symm).2.1 rfl)
  have e2 : W'.heap[h]? = W.heap[h]? := hg.block h hl2 (fun e => (h1 h e.symm).2.2 rfl)
  have f1 : ∀ j, W'.cell? ⟨g, j, none⟩ = W.cell? ⟨g, j, none⟩ := fun j => World.cell?_of_block (a := ⟨g, j, none⟩) e1
  have f2 : ∀ j, W'.cell? ⟨h, j, none⟩ = W.cell? ⟨h, j, none⟩ := fun j => World.cell?_of_block (a := ⟨h, j, none⟩) e2
  have f3 : ∀ j, W'.frozen? ⟨h, j, none⟩ = W.frozen? ⟨h, j, none⟩ := fun j => World.frozen?_of_block (a := ⟨h, j, none⟩) e2
  obtain ⟨s1, ⟨c0, c1, c2, c3⟩, l0, l1, l2, l3, z0, z1, z2, z3⟩ := s
  exact ⟨Below.grown s1 hg (Below.size s1) (fun k hk => (h1 k hk).1), ⟨(f1 0).trans c0, (f1 1).trans c1, (f1 2).trans c2, (f1 3).trans c3⟩,
    oldc_of ((f2 0).trans l0), oldc_of ((f2 1).trans l1), oldc_of ((f2 2).trans l2), oldc_of ((f2 3).trans l3), (f3 0).trans z0, (f3 1).trans z1, (f3 2).trans z2, (f3 3).trans z3⟩
theorem step_make {α : Type} {enc : α → Value} {P : Program} {t e : TypeId} {bytes : Nat} {ops : Array Oper} {Q : Exit → Act → World → Prop} {o : Oper} {a : Act} {w : World} {K : Act → World → Prop} {D : Prop} (E : Elem P t e enc bytes) (hgd : o.guard = Option.none) (x : Operand)
    (ho : o.op = .makeSlice t (.const (.int .i64 0)) x) (ci : Int) (cc : Nat) (hx : a.eval x = .int .i64 ci) (hc : ci = cc) (B : Nat) (hbase : B ≤ w.heap.size) (hb : cc ≤ 2000000) (hbb : bytes ≤ 1000)
    (h : ∀ v w', Ow enc w' B e v 0 [] → w.grownBy w' Option.none → K (a.put o.dst v) w') : if Region.wanted o (yielded ops a.tmps) = true then Oper.wp P o a w K Q else D := by
  have hw : Region.wanted o (yielded ops a.tmps) = true := by simp [Region.wanted, hgd]
  rw [if_pos hw]
  subst hc
  obtain ⟨i0, z, hi, hz0, hz1, hz2, hz3⟩ := E.info
  have hbt : bytes * cc ≤ 1000 * 2000000 := Nat.mul_le_mul hbb hb
  obtain ⟨w', hrun, hown, hg⟩ := run_make_own (P := P) w B t e i0 z 1 E.und hi hz0 hz1 .i64 .i64 cc (by rw [hz2]; omega) (by unfold maxLen; omega) hbase
  have hh := h _ w' hown hg
  have hc0 : a.eval (.const (.int .i64 0)) = .int .i64 0 := rfl
  unfold Oper.wp
  simp [execOp, ho, hx, hc0, hrun, Result.andThen]
  exact hh
theorem fin4L {W : World} {g : Nat} {a b c d : Value} (h : L4 W g) : C4 ((((W.setCell ⟨g, 0, none⟩ a).setCell ⟨g, 1, none⟩ b).setCell ⟨g, 2, none⟩ c).setCell ⟨g, 3, none⟩ d) g a b c d :=
  ⟨cell_same (cell_same (cell_same (World.cell?_setCell_same W _ a h.1) (by omega)) (by omega)) (by omega),
   cell_same (cell_same (World.cell?_setCell_same _ _ b (cell_same h.2.1 (by omega))) (by omega)) (by omega),
   cell_same (World.cell?_setCell_same _ _ c (cell_same (cell_same h.2.2.1 (by omega)) (by omega))) (by omega),
   World.cell?_setCell_same _ _ d (cell_same (cell_same (cell_same h.2.2.2.1 (by omega)) (by omega)) (by omega))⟩
def OwnEnd (lf : Bool) (xs : List ByteArray) (ks rs : List Int) (w : World) (x : Ending) (w' : World) : Prop := ∃ v, x = .returned v ∧ NdO w' w.heap.size v lf xs ks rs ∧ Below w.heap.size w w'
theorem wpAnyH_cast {P : Program} {md : Region.Mode} {ops : Array Oper} {Q : Exit → Act → World → Prop} {S : World → Prop} {f f' : Nat} {l l' : Array Bool} {x : Act} {w : World} (h1 : f' = f) (h2 : l' = l) (h : wpAnyH P md ops Q S f l x w) : wpAnyH P md ops Q S f' l' x w := by subst h1 h2; exact h
set_option maxRecDepth 100000 in
set_option maxHeartbeats 4000000 in
theorem own_any (lf : Bool) (A B C : Option Addr) (n c m d k e : Nat) (xs : List ByteArray) (ks rs : List Int) (w : World) (hN : Nd w A B C n c m d k e xs ks rs) :
    Calls Try.prog 21 #[.agg #[.bool lf, .slice A n c, .slice B m d, .slice C k e]] w (OwnEnd lf xs ks rs w) := by
  have hb0 : Below w.heap.size w ((w.alloc (.cells #[.bool lf, .slice A n c, .slice B m d, .slice C k e] 28)).alloc (.cells #[.bool false, .slice none 0 0, .slice none 0 0, .slice none 0 0] 28)) := ((Below.refl _ _).alloc (Nat.le_refl _) _).alloc (by simp) _
  have H0 := Lib.hid ((Blk.new w #[.bool lf, .slice A n c, .slice B m d, .slice C k e] 28).alloc (.cells #[.bool false, .slice none 0 0, .slice none 0 0, .slice none 0 0] 28))
  have H1 := Lib.hid (Blk.new2 (w.alloc (.cells #[.bool lf, .slice A n c, .slice B m d, .slice C k e] 28)) #[.bool false, .slice none 0 0, .slice none 0 0, .slice none 0 0] 28 (B := w.heap.size + 1) (by simp))
  have HB0 := Lib.hid hb0
  have HN0 := Lib.hid (hN.later hb0)
  clear hb0
  have hz := HN0.out.sz
  have w1 : IntKind.i64.wrap ((n : Int) + 3) = (n : Int) + 3 := IntWalk.i64_in _ (by omega)
  have w2 : IntKind.i64.wrap ((m : Int) + 3) = (m : Int) + 3 := IntWalk.i64_in _ (by omega)
  have w3 : IntKind.i64.wrap ((k : Int) + 3) = (k : Int) + 3 := IntWalk.i64_in _ (by omega)
  go_enter Try.func21, Try.ntmps21
  go_wp2_with fail
  generalize (w.alloc (.cells #[.bool lf, .slice A n c, .slice B m d, .slice C k e] 28)).alloc (.cells #[.bool false, .slice none 0 0, .slice none 0 0, .slice none 0 0] 28) = w0 at *
  refine wp_region_noPanic ?_
  have K0 : Hid (SB w w.heap.size (w.heap.size + 1) (.bool lf) (.slice A n c) (.slice B m d) (.slice C k e) w0) := ⟨HB0.out, H0.out.c4, H1.out.l4⟩
  refine wp_region_held_drew (S := SB w w.heap.size (w.heap.size + 1) (.bool lf) (.slice A n c) (.slice B m d) (.slice C k e)) (by kernel_rfl) (SB.drew K0.out) (fun hHeld => ?_)
  refine wpAnyH_take (i := 0) (oi := { dst := some 3, op := Op.fieldAddr 28 (Operand.tmp 1) 0, type := 0, pos := "law.go:21", after := #[], guard := none }) (v := ?_) rfl (by kernel_rfl) (by kernel_rfl) (by kernel_rfl) (fun _ _ _ h => h) (Or.inl ⟨by rfl, ?_⟩) (by assumption) ?_
  rotate_left
  · intro W hSw
    obtain ⟨_, ⟨k0, k1, k2, k3⟩, _⟩ := hSw
    go_simp
    try with_reducible rfl
  simp only [Act.put, List.setIfInBounds_toArray, List.set_cons_zero, List.set_cons_succ]
  refine wpAnyH_take (i := 1) (oi := { dst := some 4, op := Op.load 4 (Operand.tmp 3), type := 4, pos := "law.go:21", after := #[{ on := 0, ground := Ground.data }], guard := none }) (v := ?_) rfl (by kernel_rfl) (by kernel_rfl) (by kernel_rfl) (fun _ _ _ h => h) (Or.inl ⟨by rfl, ?_⟩) (by assumption) ?_
  rotate_left
  · intro W hSw
    obtain ⟨_, ⟨k0, k1, k2, k3⟩, _⟩ := hSw
    go_simp
    try with_reducible rfl
  simp only [Act.put, List.setIfInBounds_toArray, List.set_cons_zero, List.set_cons_succ]
  refine wpAnyH_take (i := 2) (oi := { dst := some 5, op := Op.fieldAddr 28 (Operand.tmp 1) 1, type := 0, pos := "law.go:21", after := #[], guard := none }) (v := ?_) rfl (by kernel_rfl) (by kernel_rfl) (by kernel_rfl) (fun _ _ _ h => h) (Or.inl ⟨by rfl, ?_⟩) (by assumption) ?_
  rotate_left
  · intro W hSw
    obtain ⟨_, ⟨k0, k1, k2, k3⟩, _⟩ := hSw
    go_simp
    try with_reducible rfl
  simp only [Act.put, List.setIfInBounds_toArray, List.set_cons_zero, List.set_cons_succ]
  refine wpAnyH_take (i := 3) (oi := { dst := some 6, op := Op.load 22 (Operand.tmp 5), type := 22, pos := "law.go:21", after := #[{ on := 2, ground := Ground.data }], guard := none }) (v := ?_) rfl (by kernel_rfl) (by kernel_rfl) (by kernel_rfl) (fun _ _ _ h => h) (Or.inl ⟨by rfl, ?_⟩) (by assumption) ?_
  rotate_left
  · intro W hSw
    obtain ⟨_, ⟨k0, k1, k2, k3⟩, _⟩ := hSw
    go_simp
    try with_reducible rfl
  simp only [Act.put, List.setIfInBounds_toArray, List.set_cons_zero, List.set_cons_succ]
  refine wpAnyH_take (i := 4) (oi := { dst := some 7, op := Op.call { callee := Callee.builtin Builtin.len, args := #[Operand.tmp 6], argTypes := #[22] }, type := 3, pos := "law.go:21", after := #[{ on := 3, ground := Ground.data }], guard := none }) (v := ?_) rfl (by kernel_rfl) (by kernel_rfl) (by kernel_rfl) (fun _ _ _ h => h) (Or.inl ⟨by rfl, ?_⟩) (by assumption) ?_
  rotate_left
  · intro W hSw
    obtain ⟨_, ⟨k0, k1, k2, k3⟩, _⟩ := hSw
    go_simp
    try with_reducible rfl
  simp only [Act.put, List.setIfInBounds_toArray, List.set_cons_zero, List.set_cons_succ]
  refine wpAnyH_take (i := 5) (oi := { dst := some 8, op := Op.binOp BinOp.add 3 (Operand.tmp 7) (Operand.const (Value.int IntKind.i64 3)) 3, type := 3, pos := "law.go:21", after := #[{ on := 4, ground := Ground.data }], guard := none }) (v := ?_) rfl (by kernel_rfl) (by kernel_rfl) (by kernel_rfl) (fun _ _ _ h => h) (Or.inl ⟨by rfl, ?_⟩) (by assumption) ?_
  rotate_left
  · intro W hSw
    obtain ⟨_, ⟨k0, k1, k2, k3⟩, _⟩ := hSw
    go_simp
    try with_reducible rfl
  simp only [Act.put, List.setIfInBounds_toArray, List.set_cons_zero, List.set_cons_succ]
  refine wpAnyH_take (i := 7) (oi := { dst := some 10, op := Op.fieldAddr 28 (Operand.tmp 1) 1, type := 0, pos := "law.go:21", after := #[], guard := none }) (v := ?_) rfl (by kernel_rfl) (by kernel_rfl) (by kernel_rfl) (fun _ _ _ h => h) (Or.inl ⟨by rfl, ?_⟩) (by assumption) ?_
  rotate_left
  · intro W hSw
    obtain ⟨_, ⟨k0, k1, k2, k3⟩, _⟩ := hSw
    go_simp
    try with_reducible rfl
  simp only [Act.put, List.setIfInBounds_toArray, List.set_cons_zero, List.set_cons_succ]
  refine wpAnyH_take (i := 8) (oi := { dst := some 11, op := Op.load 22 (Operand.tmp 10), type := 22, pos := "law.go:21", after := #[{ on := 7, ground := Ground.data }], guard := none }) (v := ?_) rfl (by kernel_rfl) (by kernel_rfl) (by kernel_rfl) (fun _ _ _ h => h) (Or.inl ⟨by rfl, ?_⟩) (by assumption) ?_
  rotate_left
  · intro W hSw
    obtain ⟨_, ⟨k0, k1, k2, k3⟩, _⟩ := hSw
    go_simp
    try with_reducible rfl
  simp only [Act.put, List.setIfInBounds_toArray, List.set_cons_zero, List.set_cons_succ]
  refine wpAnyH_take (i := 10) (oi := { dst := some 13, op := Op.fieldAddr 28 (Operand.tmp 1) 2, type := 0, pos := "law.go:21", after := #[], guard := none }) (v := ?_) rfl (by kernel_rfl) (by kernel_rfl) (by kernel_rfl) (fun _ _ _ h => h) (Or.inl ⟨by rfl, ?_⟩) (by assumption) ?_
  rotate_left
  · intro W hSw
    obtain ⟨_, ⟨k0, k1, k2, k3⟩, _⟩ := hSw
    go_simp
    try with_reducible rfl
  simp only [Act.put, List.setIfInBounds_toArray, List.set_cons_zero, List.set_cons_succ]
  refine wpAnyH_take (i := 11) (oi := { dst := some 14, op := Op.load 26 (Operand.tmp 13), type := 26, pos := "law.go:21", after := #[{ on := 10, ground := Ground.data }], guard := none }) (v := ?_) rfl (by kernel_rfl) (by kernel_rfl) (by kernel_rfl) (fun _ _ _ h => h) (Or.inl ⟨by rfl, ?_⟩) (by assumption) ?_
  rotate_left
  · intro W hSw
    obtain ⟨_, ⟨k0, k1, k2, k3⟩, _⟩ := hSw
    go_simp
    try with_reducible rfl
  simp only [Act.put, List.setIfInBounds_toArray, List.set_cons_zero, List.set_cons_succ]
  refine wpAnyH_take (i := 12) (oi := { dst := some 15, op := Op.call { callee := Callee.builtin Builtin.len, args := #[Operand.tmp 14], argTypes := #[26] }, type := 3, pos := "law.go:21", after := #[{ on := 11, ground := Ground.data }], guard := none }) (v := ?_) rfl (by kernel_rfl) (by kernel_rfl) (by kernel_rfl) (fun _ _ _ h => h) (Or.inl ⟨by rfl, ?_⟩) (by assumption) ?_
  rotate_left
  · intro W hSw
    obtain ⟨_, ⟨k0, k1, k2, k3⟩, _⟩ := hSw
    go_simp
    try with_reducible rfl
  simp only [Act.put, List.setIfInBounds_toArray, List.set_cons_zero, List.set_cons_succ]
  refine wpAnyH_take (i := 13) (oi := { dst := some 16, op := Op.binOp BinOp.add 3 (Operand.tmp 15) (Operand.const (Value.int IntKind.i64 3)) 3, type := 3, pos := "law.go:21", after := #[{ on := 12, ground := Ground.data }], guard := none }) (v := ?_) rfl (by kernel_rfl) (by kernel_rfl) (by kernel_rfl) (fun _ _ _ h => h) (Or.inl ⟨by rfl, ?_⟩) (by assumption) ?_
  rotate_left
  · intro W hSw
    obtain ⟨_, ⟨k0, k1, k2, k3⟩, _⟩ := hSw
    go_simp
    try with_reducible rfl
  simp only [Act.put, List.setIfInBounds_toArray, List.set_cons_zero, List.set_cons_succ]
  refine wpAnyH_take (i := 15) (oi := { dst := some 18, op := Op.fieldAddr 28 (Operand.tmp 1) 2, type := 0, pos := "law.go:21", after := #[], guard := none }) (v := ?_) rfl (by kernel_rfl) (by kernel_rfl) (by kernel_rfl) (fun _ _ _ h => h) (Or.inl ⟨by rfl, ?_⟩) (by assumption) ?_
  rotate_left
  · intro W hSw
    obtain ⟨_, ⟨k0, k1, k2, k3⟩, _⟩ := hSw
    go_simp
    try with_reducible rfl
  simp only [Act.put, List.setIfInBounds_toArray, List.set_cons_zero, List.set_cons_succ]
  refine wpAnyH_take (i := 16) (oi := { dst := some 19, op := Op.load 26 (Operand.tmp 18), type := 26, pos := "law.go:21", after := #[{ on := 15, ground := Ground.data }], guard := none }) (v := ?_) rfl (by kernel_rfl) (by kernel_rfl) (by kernel_rfl) (fun _ _ _ h => h) (Or.inl ⟨by rfl, ?_⟩) (by assumption) ?_
  rotate_left
  · intro W hSw
    obtain ⟨_, ⟨k0, k1, k2, k3⟩, _⟩ := hSw
    go_simp
    try with_reducible rfl
  simp only [Act.put, List.setIfInBounds_toArray, List.set_cons_zero, List.set_cons_succ]
  refine wpAnyH_take (i := 18) (oi := { dst := some 21, op := Op.fieldAddr 28 (Operand.tmp 1) 3, type := 0, pos := "law.go:21", after := #[], guard := none }) (v := ?_) rfl (by kernel_rfl) (by kernel_rfl) (by kernel_rfl) (fun _ _ _ h => h) (Or.inl ⟨by rfl, ?_⟩) (by assumption) ?_
  rotate_left
  · intro W hSw
    obtain ⟨_, ⟨k0, k1, k2, k3⟩, _⟩ := hSw
    go_simp
    try with_reducible rfl
  simp only [Act.put, List.setIfInBounds_toArray, List.set_cons_zero, List.set_cons_succ]
  refine wpAnyH_take (i := 19) (oi := { dst := some 22, op := Op.load 25 (Operand.tmp 21), type := 25, pos := "law.go:21", after := #[{ on := 18, ground := Ground.data }], guard := none }) (v := ?_) rfl (by kernel_rfl) (by kernel_rfl) (by kernel_rfl) (fun _ _ _ h => h) (Or.inl ⟨by rfl, ?_⟩) (by assumption) ?_
  rotate_left
  · intro W hSw
    obtain ⟨_, ⟨k0, k1, k2, k3⟩, _⟩ := hSw
    go_simp
    try with_reducible rfl
  simp only [Act.put, List.setIfInBounds_toArray, List.set_cons_zero, List.set_cons_succ]
  refine wpAnyH_take (i := 20) (oi := { dst := some 23, op := Op.call { callee := Callee.builtin Builtin.len, args := #[Operand.tmp 22], argTypes := #[25] }, type := 3, pos := "law.go:21", after := #[{ on := 19, ground := Ground.data }], guard := none }) (v := ?_) rfl (by kernel_rfl) (by kernel_rfl) (by kernel_rfl) (fun _ _ _ h => h) (Or.inl ⟨by rfl, ?_⟩) (by assumption) ?_
  rotate_left
  · intro W hSw
    obtain ⟨_, ⟨k0, k1, k2, k3⟩, _⟩ := hSw
    go_simp
    try with_reducible rfl
  simp only [Act.put, List.setIfInBounds_toArray, List.set_cons_zero, List.set_cons_succ]
  refine wpAnyH_take (i := 21) (oi := { dst := some 24, op := Op.binOp BinOp.add 3 (Operand.tmp 23) (Operand.const (Value.int IntKind.i64 3)) 3, type := 3, pos := "law.go:21", after := #[{ on := 20, ground := Ground.data }], guard := none }) (v := ?_) rfl (by kernel_rfl) (by kernel_rfl) (by kernel_rfl) (fun _ _ _ h => h) (Or.inl ⟨by rfl, ?_⟩) (by assumption) ?_
  rotate_left
  · intro W hSw
    obtain ⟨_, ⟨k0, k1, k2, k3⟩, _⟩ := hSw
    go_simp
    try with_reducible rfl
  simp only [Act.put, List.setIfInBounds_toArray, List.set_cons_zero, List.set_cons_succ]
  refine wpAnyH_take (i := 23) (oi := { dst := some 26, op := Op.fieldAddr 28 (Operand.tmp 1) 3, type := 0, pos := "law.go:21", after := #[], guard := none }) (v := ?_) rfl (by kernel_rfl) (by kernel_rfl) (by kernel_rfl) (fun _ _ _ h => h) (Or.inl ⟨by rfl, ?_⟩) (by assumption) ?_
  rotate_left
  · intro W hSw
    obtain ⟨_, ⟨k0, k1, k2, k3⟩, _⟩ := hSw
    go_simp
    try with_reducible rfl
  simp only [Act.put, List.setIfInBounds_toArray, List.set_cons_zero, List.set_cons_succ]
  refine wpAnyH_take (i := 24) (oi := { dst := some 27, op := Op.load 25 (Operand.tmp 26), type := 25, pos := "law.go:21", after := #[{ on := 23, ground := Ground.data }], guard := none }) (v := ?_) rfl (by kernel_rfl) (by kernel_rfl) (by kernel_rfl) (fun _ _ _ h => h) (Or.inl ⟨by rfl, ?_⟩) (by assumption) ?_
  rotate_left
  · intro W hSw
    obtain ⟨_, ⟨k0, k1, k2, k3⟩, _⟩ := hSw
    go_simp
    try with_reducible rfl
  simp only [Act.put, List.setIfInBounds_toArray, List.set_cons_zero, List.set_cons_succ]
  refine wpAnyH_cast (f := 8) (l := lOwn 0 0 0) (by kernel_rfl) (by kernel_rfl) ?_
  have hsz0 : w.heap.size + 1 < w0.heap.size := H1.out.lt
  have hbx : w.heap.size < w0.heap.size := by omega
  refine chains3 2 2 2 2 pOwn qOwn rOwn lOwn (fun i j kk x W => ∃ v9 v12 v17 v20 v25 v28 : Value, x = ({ tmps := #[.agg #[.bool lf, .slice A n c, .slice B m d, .slice C k e], .pointer (some ⟨w.heap.size, 0, none⟩), .pointer (some ⟨w.heap.size + 1, 0, none⟩), .pointer (some ⟨w.heap.size, 0, none⟩), .bool lf, .pointer (some ⟨w.heap.size, 1, none⟩), .slice A n c, .int .i64 n, .int .i64 ((n : Int) + 3), v9, .pointer (some ⟨w.heap.size, 1, none⟩), .slice A n c, v12, .pointer (some ⟨w.heap.size, 2, none⟩), .slice B m d, .int .i64 m, .int .i64 ((m : Int) + 3), v17, .pointer (some ⟨w.heap.size, 2, none⟩), .slice B m d, v20, .pointer (some ⟨w.heap.size, 3, none⟩), .slice C k e, .int .i64 k, .int .i64 ((k : Int) + 3), v25, .pointer (some ⟨w.heap.size, 3, none⟩), .slice C k e, v28, undef], defers := [] } : Act) ∧ w0.heap.size ≤ W.heap.size ∧ Ch sv w0.heap.size 9 n xs i v9 v12 W ∧ Ch iv w0.heap.size 3 m ks j v17 v20 W ∧ Ch hv w0.heap.size 24 k rs kk v25 v28 W) (by decide +kernel) (by decide +kernel) (by decide +kernel) (by decide +kernel) ?s1 ?s2 ?s3 ?fin 6 0 0 0 _ _ (by omega) (by omega) (by omega) rfl ⟨undef, undef, undef, undef, undef, undef, rfl, by first | exact Nat.le_refl _ | simp, ⟨rfl, rfl⟩, ⟨rfl, rfl⟩, ⟨rfl, rfl⟩⟩ hHeld
  case s1 =>
    intro i j kk x W hi hI hS
    obtain ⟨v9, v12, v17, v20, v25, v28, rfl, hw, c1, c2, c3⟩ := hI
    have hst : i = 0 ∨ i = 1 := by omega
    rcases hst with rfl | rfl
    · obtain ⟨rfl, rfl⟩ := c1
      show wpOp _ _ _ 6 _ _ _
      refine wpOp_step (o := { dst := some 9, op := Op.makeSlice 22 (Operand.const (Value.int IntKind.i64 0)) (Operand.tmp 8), type := 22, pos := "law.go:21", after := #[{ on := 5, ground := Ground.data }], guard := none }) rfl (fun K' hK => ?_)
      refine step_make selem rfl (.tmp 8) rfl ((n : Int) + 3) (n + 3) rfl (by omega) w0.heap.size hw (by omega) (by omega) (fun v W' ho hg => hK _ _ ⟨hS.grown hg (fun k hk => by cases hk), ?_⟩)
      exact ⟨v, undef, v17, v20, v25, v28, rfl, Nat.le_trans hw hg.size, ⟨rfl, ho⟩, c2.keep (fun _ _ _ h => ow_grown_none h hg), c3.keep (fun _ _ _ h => ow_grown_none h hg)⟩
    · obtain ⟨rfl, ho⟩ := c1
      have hsl : Sl sv W A n c xs := (hN.later hS.1).K
      show wpOp _ _ _ 9 _ _ _
      refine wpOp_step (o := { dst := some 12, op := Op.call { callee := Callee.builtin Builtin.append, args := #[Operand.tmp 9, Operand.tmp 11], argTypes := #[22, 22] }, type := 22, pos := "law.go:21", after := #[{ on := 6, ground := Ground.data }, { on := 8, ground := Ground.data }], guard := none }) rfl (fun K' hK => ?_)
      refine step_append_sl selem rfl (.tmp 9) (.tmp 11) rfl w0.heap.size v9 0 [] rfl ho A n c xs rfl hsl (by omega) (by omega) hw (fun v W' ho2 hg => hK _ _ ⟨hS.grown hg (fun k hk => by have h := Ow.lt ho k hk; omega), ?_⟩)
      rw [Nat.zero_add, List.nil_append] at ho2
      exact ⟨v9, v, v17, v20, v25, v28, rfl, Nat.le_trans hw hg.size, ho2, c2.keep (fun _ _ _ h => ow_grown_tag h ho (show (3 : TypeId) ≠ 9 by decide) hg), c3.keep (fun _ _ _ h => ow_grown_tag h ho (show (24 : TypeId) ≠ 9 by decide) hg)⟩
  case s2 =>
    intro i j kk x W hi hI hS
    obtain ⟨v9, v12, v17, v20, v25, v28, rfl, hw, c1, c2, c3⟩ := hI
    have hst : j = 0 ∨ j = 1 := by omega
    rcases hst with rfl | rfl
    · obtain ⟨rfl, rfl⟩ := c2
      show wpOp _ _ _ 14 _ _ _
      refine wpOp_step (o := { dst := some 17, op := Op.makeSlice 26 (Operand.const (Value.int IntKind.i64 0)) (Operand.tmp 16), type := 26, pos := "law.go:21", after := #[{ on := 13, ground := Ground.data }], guard := none }) rfl (fun K' hK => ?_)
      refine step_make ielem rfl (.tmp 16) rfl ((m : Int) + 3) (m + 3) rfl (by omega) w0.heap.size hw (by omega) (by omega) (fun v W' ho hg => hK _ _ ⟨hS.grown hg (fun k hk => by cases hk), ?_⟩)
      exact ⟨v9, v12, v, undef, v25, v28, rfl, Nat.le_trans hw hg.size, c1.keep (fun _ _ _ h => ow_grown_none h hg), ⟨rfl, ho⟩, c3.keep (fun _ _ _ h => ow_grown_none h hg)⟩
    · obtain ⟨rfl, ho⟩ := c2
      have hsl : Sl iv W B m d ks := (hN.later hS.1).D
      show wpOp _ _ _ 17 _ _ _
      refine wpOp_step (o := { dst := some 20, op := Op.call { callee := Callee.builtin Builtin.append, args := #[Operand.tmp 17, Operand.tmp 19], argTypes := #[26, 26] }, type := 26, pos := "law.go:21", after := #[{ on := 14, ground := Ground.data }, { on := 16, ground := Ground.data }, { on := 9, ground := Ground.chain }], guard := none }) rfl (fun K' hK => ?_)
      refine step_append_sl ielem rfl (.tmp 17) (.tmp 19) rfl w0.heap.size v17 0 [] rfl ho B m d ks rfl hsl (by omega) (by omega) hw (fun v W' ho2 hg => hK _ _ ⟨hS.grown hg (fun k hk => by have h := Ow.lt ho k hk; omega), ?_⟩)
      rw [Nat.zero_add, List.nil_append] at ho2
      exact ⟨v9, v12, v17, v, v25, v28, rfl, Nat.le_trans hw hg.size, c1.keep (fun _ _ _ h => ow_grown_tag h ho (show (9 : TypeId) ≠ 3 by decide) hg), ho2, c3.keep (fun _ _ _ h => ow_grown_tag h ho (show (24 : TypeId) ≠ 3 by decide) hg)⟩
  case s3 =>
    intro i j kk x W hi hI hS
    obtain ⟨v9, v12, v17, v20, v25, v28, rfl, hw, c1, c2, c3⟩ := hI
    have hst : kk = 0 ∨ kk = 1 := by omega
    rcases hst with rfl | rfl
    · obtain ⟨rfl, rfl⟩ := c3
      show wpOp _ _ _ 22 _ _ _
      refine wpOp_step (o := { dst := some 25, op := Op.makeSlice 25 (Operand.const (Value.int IntKind.i64 0)) (Operand.tmp 24), type := 25, pos := "law.go:21", after := #[{ on := 21, ground := Ground.data }], guard := none }) rfl (fun K' hK => ?_)
      refine step_make helem rfl (.tmp 24) rfl ((k : Int) + 3) (k + 3) rfl (by omega) w0.heap.size hw (by omega) (by omega) (fun v W' ho hg => hK _ _ ⟨hS.grown hg (fun k hk => by cases hk), ?_⟩)
      exact ⟨v9, v12, v17, v20, v, undef, rfl, Nat.le_trans hw hg.size, c1.keep (fun _ _ _ h => ow_grown_none h hg), c2.keep (fun _ _ _ h => ow_grown_none h hg), ⟨rfl, ho⟩⟩
    · obtain ⟨rfl, ho⟩ := c3
      have hsl : Sl hv W C k e rs := (hN.later hS.1).R
      show wpOp _ _ _ 25 _ _ _
      refine wpOp_step (o := { dst := some 28, op := Op.call { callee := Callee.builtin Builtin.append, args := #[Operand.tmp 25, Operand.tmp 27], argTypes := #[25, 25] }, type := 25, pos := "law.go:21", after := #[{ on := 22, ground := Ground.data }, { on := 24, ground := Ground.data }, { on := 17, ground := Ground.chain }], guard := none }) rfl (fun K' hK => ?_)
      refine step_append_sl helem rfl (.tmp 25) (.tmp 27) rfl w0.heap.size v25 0 [] rfl ho C k e rs rfl hsl (by omega) (by omega) hw (fun v W' ho2 hg => hK _ _ ⟨hS.grown hg (fun k hk => by have h := Ow.lt ho k hk; omega), ?_⟩)
      rw [Nat.zero_add, List.nil_append] at ho2
      exact ⟨v9, v12, v17, v20, v25, v, rfl, Nat.le_trans hw hg.size, c1.keep (fun _ _ _ h => ow_grown_tag h ho (show (9 : TypeId) ≠ 24 by decide) hg), c2.keep (fun _ _ _ h => ow_grown_tag h ho (show (3 : TypeId) ≠ 24 by decide) hg), ho2⟩
  case fin =>
    intro x W hI hS
    obtain ⟨v9, v12, v17, v20, v25, v28, rfl, hw, c1, c2, c3⟩ := hI
    obtain ⟨A1, k1, rfl, s1⟩ := Ow.sl c1
    obtain ⟨A2, k2, rfl, s2⟩ := Ow.sl c2
    obtain ⟨A3, k3, rfl, s3⟩ := Ow.sl c3
    refine wpAnyH_take (i := 26) (oi := { dst := some 29, op := Op.build 28 #[(0, Operand.tmp 4), (1, Operand.tmp 12), (2, Operand.tmp 20), (3, Operand.tmp 28)], type := 28, pos := "law.go:21", after := #[{ on := 1, ground := Ground.data }, { on := 9, ground := Ground.data }, { on := 17, ground := Ground.data }, { on := 25, ground := Ground.data }], guard := none }) (v := ?_) rfl (by kernel_rfl) (by kernel_rfl) (by kernel_rfl) (fun _ _ _ h => h) (Or.inl ⟨by rfl, ?_⟩) hS ?_
    rotate_left
    · intro W hSw
      clear hSw
      go_simp
      try with_reducible rfl
    simp only [Act.put, List.setIfInBounds_toArray, List.set_cons_zero, List.set_cons_succ]
    have hS2 := Lib.hid hS
    have HC1 : Hid (Ow sv W w0.heap.size 9 (.slice A1 n k1) n xs) := c1
    have HC2 : Hid (Ow iv W w0.heap.size 3 (.slice A2 m k2) m ks) := c2
    have HC3 : Hid (Ow hv W w0.heap.size 24 (.slice A3 k k3) k rs) := c3
    refine wpAnyH_ready (rs := [27]) (by kernel_rfl) (by simp) (AllReadyH.cons (o := { dst := none, op := Op.store 28 (Operand.tmp 2) (Operand.tmp 29), type := 0, pos := "law.go:21", after := #[{ on := 26, ground := Ground.data }, { on := 25, ground := Ground.chain }, { on := 0, ground := Ground.phase }, { on := 1, ground := Ground.phase }, { on := 2, ground := Ground.phase }, { on := 3, ground := Ground.phase }, { on := 4, ground := Ground.phase }, { on := 5, ground := Ground.phase }, { on := 6, ground := Ground.phase }, { on := 7, ground := Ground.phase }, { on := 8, ground := Ground.phase }, { on := 9, ground := Ground.phase }, { on := 10, ground := Ground.phase }, { on := 11, ground := Ground.phase }, { on := 12, ground := Ground.phase }, { on := 13, ground := Ground.phase }, { on := 14, ground := Ground.phase }, { on := 15, ground := Ground.phase }, { on := 16, ground := Ground.phase }, { on := 17, ground := Ground.phase }, { on := 18, ground := Ground.phase }, { on := 19, ground := Ground.phase }, { on := 20, ground := Ground.phase }, { on := 21, ground := Ground.phase }, { on := 22, ground := Ground.phase }, { on := 23, ground := Ground.phase }, { on := 24, ground := Ground.phase }, { on := 25, ground := Ground.phase }, { on := 26, ground := Ground.phase }], guard := none }) rfl (fun K hK => ?_) AllReadyH.nil)
    obtain ⟨_, ⟨_, _, _, _⟩, l0, l1, l2, l3, z0, z1, z2, z3⟩ := hS
    clear s1 s2 s3 c1 c2 c3 w1 w2 w3 hHeld
    go_simp
    refine hK.out _ _ (SB.set4 hS2.out (by omega) (by omega)) (fun hHeld2 => wpAnyH_done (by kernel_rfl) (NoPanic.normal ?_) _)
    obtain ⟨f0, f1, f2, f3⟩ := fin4L (a := .bool lf) (b := .slice A1 n k1) (c := .slice A2 m k2) (d := .slice A3 k k3) hS2.out.2.2
    clear hHeld2 l0 l1 l2 l3 hK K
    go_wp2
    exact bodyPost_ret (v := .agg #[.bool lf, .slice A1 n k1, .slice A2 m k2, .slice A3 k k3]) (by simp [results, Try.results21, go_sem, f0, f1, f2, f3]) rfl ⟨_, rfl, ⟨_, _, _, rfl, by rw [hN.K.len]; exact (ow_low4 HC1.out hsz0).base (by omega), by rw [hN.D.len]; exact (ow_low4 HC2.out hsz0).base (by omega), by rw [hN.R.len]; exact (ow_low4 HC3.out hsz0).base (by omega)⟩, set4 hS2.out.1 (by omega)⟩
end Go.Proofs.Ytiojjpmkiljngaa
