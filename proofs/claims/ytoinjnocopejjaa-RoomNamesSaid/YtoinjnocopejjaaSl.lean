/- Slices of elements of one cell, of whatever type: what they read as, cut, put behind what the call made; blocks known whole. A template: Ytoinjnocopejjaa is the seat's name; nothing here names a number of the program. -/
import Derived.Test.YtoinjnocopejjaaChecked
import Derived.WalkKit
import Derived.ProofKit
import Derived.LoopTactic
import Derived.Below
import Derived.BigQuiet
import Derived.Deep.QuietTactic
import Derived.Laws.OwnMore
import Derived.OwnWalk
import Derived.Lib.Hide
import Derived.Outline
import Derived.IntWalk
import Derived.WalkSpells
import Derived.WalkLawsBesides
import Derived.RegionTactic
import Derived.Deep.RegionWith
import Derived.Deep.RegionHeld3
import Derived.Deep.RegionLaw
import Derived.Deep.DeepCutAuto
import Derived.Deep.CutBlock
import Derived.Laws.AppendOwnNone
import Derived.Laws.MakeOwn
import Derived.ChangeSlices
namespace Go.Proofs.Ytoinjnocopejjaa
open Go.ChangeShapes Go.WideShapes Go.ChangeAt Go.RowKit
set_option linter.unusedVariables false
set_option linter.unusedSimpArgs false
theorem stepB {w0 a b : World} (h : Below w0.heap.size w0 a) (k : Below a.heap.size a b) : Below w0.heap.size w0 b := h.trans (k.mono h.size)
theorem below_drewN {B : Nat} {a w : World} (h : Below B a w) (n : Nat) : Below B a (w.drewN n) := h.trans ⟨rfl, rfl, rfl, Nat.le_refl _, fun _ _ => rfl⟩
theorem belowD {W W' : World} {d : Nat} (h : W' = W.drewN d) : Below W.heap.size W W' := by rw [h]; exact below_drewN (Below.refl _ _) d
theorem below_of_grownN {w w' : World} (h : w.grownBy w' none) : Below w.heap.size w w' := (Below.refl _ w).grown h (Nat.le_refl _) (fun j e => by cases e)
theorem ret_int {k : IntKind} {a b : Int} (h : a = b) : Ending.returned (.int k a) = .returned (.int k b) := by rw [h]
theorem ret_bool {a b : Bool} (h : a = b) : Ending.returned (.bool a) = .returned (.bool b) := by rw [h]
theorem add_plain (b off n : Nat) : (⟨b, off, none⟩ : Addr).add n = ⟨b, off + n, none⟩ := by
  unfold Addr.add
  by_cases h : n = 0
  · subst h; rfl
  · rw [if_neg h]
theorem lt_of_cell {W : World} {b o : Nat} {v : Value} (h0 : W.cell? ⟨b, o, none⟩ = some v) : b < W.heap.size := World.block_lt_of_cell? _ _ h0
/-- a block known whole -/
def Blk (W : World) (B : Nat) (c : Array Value) (t : TypeId) : Prop := W.heap[B]? = some (.cells c t (0, 0))
section
variable {W W' : World} {B B' j : Nat} {c : Array Value} {t : TypeId}
theorem Blk.lt (h : Blk W B c t) : B < W.heap.size := (Array.getElem?_eq_some_iff.1 (show W.heap[B]? = _ from h)).1
theorem Blk.cell (h : Blk W B c t) (j : Nat) : W.cell? ⟨B, j, none⟩ = c[j]? := by unfold World.cell?; rw [show W.heap[B]? = _ from h]; rfl
theorem Blk.frozen (h : Blk W B c t) (j : Nat) : W.frozen? ⟨B, j, none⟩ = false := by unfold World.frozen?; rw [show W.heap[B]? = _ from h]; simp
theorem Blk.new (W : World) (c : Array Value) (t : TypeId) : Blk (W.alloc (.cells c t)) W.heap.size c t := heap_alloc_new W _
theorem Blk.new2 (W : World) (c : Array Value) (t : TypeId) (hB : W.heap.size = B) : Blk (W.alloc (.cells c t)) B c t := by subst hB; exact Blk.new W c t
theorem Blk.later (h : Blk W B c t) (hb : Below W.heap.size W W') : Blk W' B c t := (hb.block B h.lt).trans h
theorem Blk.alloc (h : Blk W B c t) (o : Obj) : Blk (W.alloc o) B c t := h.later ((Below.refl _ _).alloc (Nat.le_refl _) _)
theorem Blk.other (h : Blk W B c t) (hne : B ≠ B') (v : Value) : Blk (W.setCell ⟨B', j, none⟩ v) B c t := (Below.heap_setCell W ⟨B', j, none⟩ v B hne).trans h
theorem Blk.set (h : Blk W B c t) (v : Value) : Blk (W.setCell ⟨B, j, none⟩ v) B (c.setIfInBounds j v) t := by
  have h' : W.heap[B]? = some (.cells c t (0, 0)) := h
  show (W.heap.modify B _)[B]? = _
  rw [Array.getElem?_modify, if_pos rfl, h']
  rfl
theorem Blk.grown {r : Option Nat} (h : Blk W B c t) (hg : W.grownBy W' r) (hr : some B ≠ r) : Blk W' B c t := (hg.block B h.lt hr).trans h
end
theorem grown_trans {a b c : World} {g : Option Nat} (h : a.grownBy b g) (k : b.grownBy c g) : a.grownBy c g :=
  ⟨k.os.trans h.os, k.tape.trans h.tape, k.output.trans h.output, Nat.le_trans h.size k.size, fun i hi hg => (k.block i (Nat.lt_of_lt_of_le hi h.size) hg).trans (h.block i hi hg)⟩
theorem grown_set (W : World) (g j : Nat) (u : Value) : W.grownBy (W.setCell ⟨g, j, none⟩ u) (some g) :=
  ⟨rfl, rfl, rfl, by simp [World.setCell], fun k hk hkr => Below.heap_setCell W ⟨g, j, none⟩ u k (fun e => hkr (by rw [e]))⟩
section
variable {α : Type} (enc : α → Value)
/-- a slice that reads as a list, in a block below a number; nil let in -/
def Rd (n₀ : Nat) (W : World) (A : Option Addr) (n : Nat) (xs : List α) : Prop :=
  xs.length = n ∧ (0 < n → ∃ g off, A = some ⟨g, off, none⟩ ∧ g < n₀ ∧ ∀ j x, xs[j]? = some x → W.cell? ⟨g, off + j, none⟩ = some (enc x))
/-- .. with what nil has -/
structure Sl (W : World) (A : Option Addr) (n c : Nat) (xs : List α) : Prop where
  rd : Rd enc W.heap.size W A n xs
  le : n ≤ c
  nil : A = none → n = 0 ∧ c = 0
/-- a row that the call made -/
def Ow (W : World) (B : Nat) (e : TypeId) (v : Value) (n : Nat) (xs : List α) : Prop := W.ownsRow B e 1 v n (xs.map enc)
variable {enc} {n₀ n₁ : Nat} {W W' : World} {A : Option Addr} {n c : Nat} {xs ys : List α} {B B' : Nat} {e e' : TypeId} {v v' : Value}
theorem Rd.below (h : Rd enc n₀ W A n xs) (hb : Below n₀ W W') : Rd enc n₀ W' A n xs :=
  ⟨h.1, fun hn => by
    obtain ⟨g, off, hA, hg, hc⟩ := h.2 hn
    exact ⟨g, off, hA, hg, fun j x hx => (hb.cell (p := ⟨g, off + j, none⟩) hg).trans (hc j x hx)⟩⟩
theorem Rd.mono (h : Rd enc n₀ W A n xs) (hn : n₀ ≤ n₁) : Rd enc n₁ W A n xs :=
  ⟨h.1, fun hp => by
    obtain ⟨g, off, hA, hg, hc⟩ := h.2 hp
    exact ⟨g, off, hA, Nat.lt_of_lt_of_le hg hn, hc⟩⟩
theorem Rd.later (h : Rd enc W.heap.size W A n xs) (hb : Below W.heap.size W W') : Rd enc W'.heap.size W' A n xs := (h.below hb).mono hb.size
theorem Sl.later (h : Sl enc W A n c xs) (hb : Below W.heap.size W W') : Sl enc W' A n c xs := ⟨h.rd.later hb, h.le, h.nil⟩
theorem Sl.len (h : Sl enc W A n c xs) : xs.length = n := h.rd.1
theorem Sl.empty (W : World) : Sl enc W none 0 0 [] := ⟨⟨rfl, fun h => by omega⟩, Nat.le_refl _, fun _ => ⟨rfl, rfl⟩⟩
/-- an element's cell -/
theorem Rd.at (h : Rd enc n₀ W A n xs) {j : Nat} (hj : j < n) : ∃ g off x, A = some ⟨g, off, none⟩ ∧ xs[j]? = some x ∧ W.cell? ⟨g, off + j, none⟩ = some (enc x) := by
  obtain ⟨g, off, hA, _, hc⟩ := h.2 (by omega)
  have hl := h.1
  exact ⟨g, off, xs[j], hA, List.getElem?_eq_getElem (by omega), hc j _ (List.getElem?_eq_getElem (by omega))⟩
theorem Blk.sl {t : TypeId} (h : Blk W B (xs.map enc).toArray t) : Sl enc W (some ⟨B, 0, none⟩) xs.length xs.length xs :=
  ⟨⟨rfl, fun _ => ⟨B, 0, rfl, h.lt, fun j x hx => by
    rw [Nat.zero_add, h.cell]; simp [hx]⟩⟩, Nat.le_refl _, fun e => by cases e⟩
theorem Ow.sl (h : Ow enc W B e v n xs) : ∃ A c, v = .slice A n c ∧ Sl enc W A n c xs := by
  have hl : xs.length = n := by simpa using h.1
  obtain ⟨h1, hc⟩ := h
  rcases hc with ⟨rfl, rfl⟩ | ⟨g, cap, cur, rfl, hB, hg, hn, hm, hs, ht⟩
  · exact ⟨none, 0, rfl, ⟨hl, fun h => by omega⟩, Nat.le_refl _, fun _ => ⟨rfl, rfl⟩⟩
  · refine ⟨_, _, rfl, ⟨hl, fun _ => ⟨g, 0, rfl, (Array.getElem?_eq_some_iff.1 hg).1, fun j x hx => ?_⟩⟩, hn, fun e => by cases e⟩
    have hO : W.ownsRow B e 1 (.slice (some ⟨g, 0, none⟩) n cap) n (xs.map enc) := ⟨h1, .inr ⟨g, cap, cur, rfl, hB, hg, hn, hm, hs, ht⟩⟩
    have hj : j < n := by
      have := (List.getElem?_eq_some_iff.1 hx).1
      omega
    rw [Nat.zero_add, World.ownsRow.cellAt hO j (by omega), List.getElem?_map, hx]; rfl
theorem Ow.later (h : Ow enc W B e v n xs) (hb : Below W.heap.size W W') : Ow enc W' B e v n xs :=
  World.ownsRow.kept h (row := none) ⟨hb.os, hb.tape, hb.output, hb.size, fun k hk _ => hb.block k hk⟩ (by cases v.ownBlock <;> simp)
theorem Ow.base (h : Ow enc W B e v n xs) (hb : B' ≤ B) : Ow enc W B' e v n xs := by
  obtain ⟨h1, h2⟩ := h
  refine ⟨h1, ?_⟩
  rcases h2 with h2 | ⟨g', cap', cur, e, hB, rest⟩
  · exact .inl h2
  · exact .inr ⟨g', cap', cur, e, Nat.le_trans hb hB, rest⟩
theorem Ow.none (W : World) (B : Nat) (e : TypeId) : Ow enc W B e (.slice .none 0 0) 0 [] := World.ownsRow_nil _ _ _ _
/-- an empty slice that was just made -/
theorem Ow.fresh (W : World) (e : TypeId) (hB : B ≤ W.heap.size) (hk : W.heap.size = B') : Ow enc (W.alloc (.cells #[] e)) B e (.slice (some ⟨B', 0, .none⟩) 0 0) 0 [] := by
  subst hk; exact World.ownsRow_lit (base := B) (e := e) (size := 1) W #[] 0 hB (by omega) rfl
theorem Ow.tag (h : Ow enc W B e v n xs) : ∀ k, v.ownBlock = some k → ∃ cur, W.heap[k]? = some (.cells cur e (0, 0)) := fun k hk => by
  rcases h.2 with ⟨rfl, _⟩ | ⟨g, cap, cur, rfl, hb, hg, _⟩
  · cases hk
  · cases hk; exact ⟨cur, hg⟩
theorem Ow.lt (h : Ow enc W B e v n xs) : ∀ k, v.ownBlock = some k → B ≤ k ∧ k < W.heap.size := World.ownsRow.lt h
section
variable {P : Program} {t : TypeId}
theorem slice_lo (A : Option Addr) (m c k : Nat) (ht : P.underlying t = some (.slice e)) (hz : ∀ w, (Go.sizeOf e).run P w = .ok 1 w) (hk : k ≤ m) (hc : m ≤ c) (h0 : A = .none → m = 0 ∧ c = 0) :
    ∃ A2, (∀ W, (Instr.slice t (.slice A m c) (some (.int .i64 (k : Int))) .none .none).run P W = .ok (.slice A2 (m - k) (c - k)) W) ∧ ∀ {α : Type} {enc : α → Value} (W : World) (xs : List α), Rd enc W.heap.size W A m xs → Sl enc W A2 (m - k) (c - k) (xs.drop k) := by
  have ht' : P.underlying t = some (.slice (P.elem t)) := by simp [Program.elem, ht]
  have he : P.elem t = e := by simp [Program.elem, ht]
  cases A with
  | none =>
    obtain ⟨rfl, rfl⟩ := h0 rfl
    obtain rfl : k = 0 := by omega
    refine ⟨.none, fun W => ?_, fun W xs h => ⟨by simpa using h, Nat.le_refl _, fun _ => ⟨rfl, rfl⟩⟩⟩
    rw [run_slice_l W t _ _ _ ht' .i64 _ (by omega) (by omega), he, hz]
    simp [Result.andThen, sliced]
  | some a =>
    refine ⟨some (if c = k then a else a.add k), fun W => ?_, fun W xs h => ⟨⟨by rw [List.length_drop, h.1], fun hp => ?_⟩, by omega, fun e => by cases e⟩⟩
    · rw [run_slice_l W t _ _ _ ht' .i64 _ (by omega) (by omega), he, hz]
      by_cases e : c = k
      · simp [Result.andThen, sliced, e]
      · simp [Result.andThen, sliced, e]
    · obtain ⟨g, off, hA, hg, hcell⟩ := h.2 (by omega)
      cases hA
      rw [if_neg (by omega), add_plain]
      refine ⟨g, off + k, rfl, hg, fun j x hx => ?_⟩
      rw [List.getElem?_drop] at hx
      rw [Nat.add_assoc]; exact hcell (k + j) x hx
theorem slice_hi (A : Option Addr) (m c k : Nat) (ht : P.underlying t = some (.slice e)) (hz : ∀ w, (Go.sizeOf e).run P w = .ok 1 w) (hk : k ≤ m) (hc : m ≤ c) (h0 : A = .none → m = 0 ∧ c = 0) :
    (∀ W, (Instr.slice t (.slice A m c) .none (some (.int .i64 (k : Int))) .none).run P W = .ok (.slice A k c) W) ∧ ∀ {α : Type} {enc : α → Value} (W : World) (xs : List α), Rd enc W.heap.size W A m xs → Sl enc W A k c (xs.take k) := by
  have ht' : P.underlying t = some (.slice (P.elem t)) := by simp [Program.elem, ht]
  have he : P.elem t = e := by simp [Program.elem, ht]
  refine ⟨fun W => ?_, fun W xs h => ⟨⟨by rw [List.length_take, h.1]; omega, fun hp => ?_⟩, by omega, fun e => ⟨by have := h0 e; omega, (h0 e).2⟩⟩⟩
  · rw [run_slice_h W t _ _ _ ht' .i64 _ (by omega) (by omega), he, hz]
    cases A with
    | none => simp [Result.andThen, sliced]
    | some a => by_cases e : c = 0 <;> simp [Result.andThen, sliced, Addr.add, e]
  · obtain ⟨g, off, hA, hg, hcell⟩ := h.2 (by omega)
    refine ⟨g, off, hA, hg, fun j x hx => hcell j x ?_⟩
    by_cases hj : j < k
    · rwa [List.getElem?_take_of_lt hj] at hx
    · rw [List.getElem?_eq_none (by rw [List.length_take]; omega)] at hx; cases hx
/-- the type's row of the program's table, as the append laws want it -/
structure Elem (P : Program) (t e : TypeId) (enc : α → Value) (bytes : Nat) : Prop where
  und : P.underlying t = some (.slice e)
  info : ∃ i z, P.info? e = some i ∧ i.zero = some z ∧ i.size = 1 ∧ i.bytes = bytes ∧ z.cells.size = 1
  one : ∀ x, (enc x).oneCell' = true
theorem Rd.cells (h : Rd enc n₀ W A n xs) {a : Addr} (hA : A = some a) : ∀ j u, (xs.map enc)[j]? = some u → W.cell? (a.add j) = some u := fun j u hu => by
  rw [List.getElem?_map] at hu
  cases hx : xs[j]? with
  | none => rw [hx] at hu; cases hu
  | some x =>
    rw [hx] at hu
    have hj := (List.getElem?_eq_some_iff.1 hx).1
    obtain ⟨g, off, e, _, hc⟩ := h.2 (by rw [← h.1]; omega)
    rw [hA] at e; cases e
    rw [add_plain, hc j x hx]; exact hu
variable {w : World} {ops : Array Oper} {rest : List Oper} {o : Oper} {a : Act} {Q : Exit → Act → World → Prop} {bytes : Nat}
/-- 'append(s, x...)' -/
theorem wpList_append_sl (E : Elem P t e enc bytes) (hgd : o.guard = .none) (s x : Operand)
    (ho : o.op = .call { callee := .builtin .append, args := #[s, x], argTypes := #[t, t] })
    (B : Nat) (v : Value) (n : Nat) (xs : List α) (hs : a.eval s = v) (hown : Ow enc w B e v n xs)
    (A : Option Addr) (m c : Nat) (ys : List α) (hx : a.eval x = .slice A m c) (hy : Sl enc w A m c ys) (hb : n + m ≤ 2000000) (hbb : bytes ≤ 1000) (hbase : B ≤ w.heap.size)
    (h : ∀ v' w', Ow enc w' B e v' (n + m) (xs ++ ys) → w.grownBy w' v.ownBlock → wpList P ops Q rest (a.put o.dst v') w') :
    wpList P ops Q (o :: rest) a w := by
  obtain ⟨i0, z, hi, hz0, hz1, hz2, hz3⟩ := E.info
  cases A with
  | none =>
    obtain ⟨rfl, rfl⟩ := hy.nil rfl
    refine wpList_append_own_none hgd s x t ho B e i0 1 E.und hi v n _ hs hown hx ?_
    have hys : ys = [] := List.eq_nil_of_length_eq_zero hy.len
    exact h v w (by rw [hys, List.append_nil]; exact hown) (World.grownBy.refl _ _)
  | some ad =>
    have hbt : (n + m) * bytes ≤ 2000000 * 1000 := Nat.mul_le_mul hb hbb
    exact wpList_append_own w hgd s x t ho B e i0 z 1 bytes E.und hi hz0 hz1 hz2 hz3 (by decide) v n _ hs hown ad m c (ys.map enc) hx (by rw [List.length_map, hy.len, Nat.mul_one]) (hy.rd.cells rfl) (fun u hu => by obtain ⟨y, _, rfl⟩ := List.mem_map.1 hu; exact E.one y) (by unfold maxLen; omega) (by omega) hbase (fun v' w' h1 h2 _ => h v' w' (by unfold Ow; rw [List.map_append]; exact h1) h2)
/-- .. in a region that draws its order, handed to go_region_law -/
theorem step_append_sl {K : Act → World → Prop} {D : Prop} (E : Elem P t e enc bytes) (hgd : o.guard = .none) (s x : Operand)
    (ho : o.op = .call { callee := .builtin .append, args := #[s, x], argTypes := #[t, t] })
    (B : Nat) (v : Value) (n : Nat) (xs : List α) (hs : a.eval s = v) (hown : Ow enc w B e v n xs)
    (A : Option Addr) (m c : Nat) (ys : List α) (hx : a.eval x = .slice A m c) (hy : Sl enc w A m c ys) (hb : n + m ≤ 2000000) (hbb : bytes ≤ 1000) (hbase : B ≤ w.heap.size)
    (h : ∀ v' w', Ow enc w' B e v' (n + m) (xs ++ ys) → w.grownBy w' v.ownBlock → K (a.put o.dst v') w') :
    if Region.wanted o (yielded ops a.tmps) = true then Oper.wp P o a w K Q else D := by
  have hw : Region.wanted o (yielded ops a.tmps) = true := by simp [Region.wanted, hgd]
  rw [if_pos hw]
  obtain ⟨i0, z, hi, hz0, hz1, hz2, hz3⟩ := E.info
  cases A with
  | none =>
    obtain ⟨rfl, rfl⟩ := hy.nil rfl
    have hrun := run_append_owned_none (P := P) (w := w) B t o.type e i0 1 E.und hi v n _ hown
    have hys : ys = [] := List.eq_nil_of_length_eq_zero hy.len
    have hh := h v w (by rw [hys, List.append_nil]; exact hown) (World.grownBy.refl _ _)
    unfold Oper.wp
    simp [execOp, ho, resolve, invoke, builtin, hs, hx, hrun, Result.andThen]
    exact hh
  | some ad =>
    have hbt : (n + m) * bytes ≤ 2000000 * 1000 := Nat.mul_le_mul hb hbb
    exact wp_append_own w s x t ho B e i0 z 1 bytes E.und hi hz0 hz1 hz2 hz3 (by decide) v n _ hs hown ad m c (ys.map enc) hx (by rw [List.length_map, hy.len, Nat.mul_one]) (hy.rd.cells rfl) (fun u hu => by obtain ⟨y, _, rfl⟩ := List.mem_map.1 hu; exact E.one y) (by unfold maxLen; omega) (by omega) hbase (fun v' w' h1 h2 _ => h v' w' (by unfold Ow; rw [List.map_append]; exact h1) h2)
end
end
end Go.Proofs.Ytoinjnocopejjaa
