/- Rows of elements of k cells each, of whatever type: what they read as, put behind what the call made. A template: Ytoinjnocopejjaa is the seat's name; nothing here names a number of the program. -/
import Derived.Test.YtoinjnocopejjaaSl
import Derived.Deep.AppendLies
namespace Go.Proofs.Ytoinjnocopejjaa
open Go.ChangeShapes Go.WideShapes Go.ChangeAt Go.RowKit
set_option linter.unusedVariables false
set_option linter.unusedSimpArgs false

section
variable {α : Type} (enc : α → List Value) (k : Nat)
/-- the cells of a row -/
def rv : List α → List Value
  | [] => []
  | x :: l => enc x ++ rv l
/-- a slice that reads as a list of elements of k cells -/
def RSl (W : World) (A : Option Addr) (m : Nat) (L : List α) : Prop :=
  L.length = m ∧ (0 < m → ∃ g off, A = some ⟨g, off, none⟩ ∧ g < W.heap.size ∧ ∀ j x, L[j]? = some x → ∀ i, i < k → W.cell? ⟨g, off + j * k + i, none⟩ = (enc x)[i]?)
/-- .. a row that the call made -/
def ROwn (W : World) (B e : Nat) (v : Value) (n : Nat) (L : List α) : Prop := L.length = n ∧ W.ownsRow B e k v n (rv enc L)
/-- the type's row of the program's table, as the append laws want it -/
structure RElem (P : Program) (t e : TypeId) (bytes : Nat) : Prop where
  und : P.underlying t = some (.slice e)
  info : ∃ i z, P.info? e = some i ∧ i.zero = some z ∧ i.size = k ∧ i.bytes = bytes ∧ z.cells.size = k
  pos : 0 < k
  len : ∀ x, (enc x).length = k
  one : ∀ x, ∀ u ∈ enc x, u.oneCell' = true
variable {enc k}
theorem rv_len (hk : ∀ x, (enc x).length = k) : ∀ l : List α, (rv enc l).length = l.length * k
  | [] => by simp [rv]
  | v :: l => by simp [rv, hk, rv_len hk l, Nat.add_mul]; omega
theorem rv_app : ∀ (l m : List α), rv enc (l ++ m) = rv enc l ++ rv enc m
  | [], m => rfl
  | v :: l, m => by simp [rv, rv_app l m]
theorem rv_at (hk : ∀ x, (enc x).length = k) : ∀ (l : List α) (j i : Nat) (x : α), l[j]? = some x → i < k → (rv enc l)[j * k + i]? = (enc x)[i]?
  | [], j, i, x, h, _ => by simp at h
  | v :: l, 0, i, x, h, hi => by
    simp at h; subst h
    show (enc v ++ rv enc l)[0 * k + i]? = _
    rw [List.getElem?_append_left (by rw [hk]; omega)]
    simp
  | v :: l, j + 1, i, x, h, hi => by
    have ih := rv_at hk l j i x (by simpa using h) hi
    show (enc v ++ rv enc l)[(j + 1) * k + i]? = _
    rw [List.getElem?_append_right (by rw [hk, Nat.add_mul]; omega), hk, show (j + 1) * k + i - k = j * k + i from by rw [Nat.add_mul]; omega, ih]
theorem rv_one (h1 : ∀ x, ∀ u ∈ enc x, u.oneCell' = true) : ∀ (l : List α), ∀ u ∈ rv enc l, u.oneCell' = true
  | [], u, h => by cases h
  | v :: l, u, h => by
    rcases List.mem_append.1 (show u ∈ enc v ++ rv enc l from h) with h | h
    · exact h1 v u h
    · exact rv_one h1 l u h
variable {W W' : World} {B B' e n m : Nat} {v : Value} {L : List α} {A : Option Addr}
theorem RSl.later (h : RSl enc k W A m L) (hb : Below W.heap.size W W') : RSl enc k W' A m L :=
  ⟨h.1, fun hn => by
    obtain ⟨g, off, hA, hg, hc⟩ := h.2 hn
    exact ⟨g, off, hA, Nat.lt_of_lt_of_le hg hb.size, fun j x hx i hi => (hb.cell (p := ⟨g, off + j * k + i, none⟩) hg).trans (hc j x hx i hi)⟩⟩
theorem RSl.keep (h : RSl enc k W A m L) (hz : W.heap.size ≤ W'.heap.size) (hk : ∀ g, A.map (fun a => a.block) = some g → W'.heap[g]? = W.heap[g]?) : RSl enc k W' A m L :=
  ⟨h.1, fun hn => by
    obtain ⟨g, off, rfl, hg, hc⟩ := h.2 hn
    refine ⟨g, off, rfl, Nat.lt_of_lt_of_le hg hz, fun j x hx i hi => ?_⟩
    rw [← hc j x hx i hi]
    unfold World.cell?
    rw [hk g rfl]⟩
theorem RSl.nil (W : World) (A : Option Addr) : RSl enc k W A 0 [] := ⟨rfl, fun h => absurd h (Nat.lt_irrefl _)⟩
theorem ROwn.nil0 (W : World) (B e : Nat) : ROwn enc k W B e (.slice none 0 0) 0 [] := ⟨rfl, World.ownsRow_nil _ _ _ _⟩
theorem ROwn.fresh {g : Nat} (W : World) (e : Nat) (hB : B ≤ W.heap.size) (hk : W.heap.size = g) : ROwn enc k (W.alloc (.cells #[] e)) B e (.slice (some ⟨g, 0, .none⟩) 0 0) 0 [] := by
  subst hk
  refine ⟨rfl, by simp [rv], .inr ⟨W.heap.size, 0, #[], rfl, hB, ?_, by omega, by simp, by simp, by simp [rv]⟩⟩
  simpa using heap_alloc_new W (.cells #[] e)
theorem ROwn.sl (h : ROwn enc k W B e v n L) : ∃ A c, v = .slice A n c ∧ n ≤ c ∧ (A = none → n = 0 ∧ c = 0) := by
  rcases h.2.2 with ⟨rfl, h2⟩ | ⟨g, cap, cur, rfl, hB, hg, hn, hm, hs, ht⟩
  · exact ⟨none, 0, by rw [h2], by omega, fun _ => ⟨h2, rfl⟩⟩
  · exact ⟨_, cap, rfl, hn, fun h => by cases h⟩
theorem ROwn.later (h : ROwn enc k W B e v n L) (hb : Below W.heap.size W W') : ROwn enc k W' B e v n L := ⟨h.1, World.ownsRow.kept h.2 (row := .none) ⟨hb.os, hb.tape, hb.output, hb.size, fun k hk _ => hb.block k hk⟩ (by cases v.ownBlock <;> simp)⟩
theorem ROwn.base (h : ROwn enc k W B e v n L) (hb : B' ≤ B) : ROwn enc k W B' e v n L := by
  refine ⟨h.1, h.2.1, ?_⟩
  rcases h.2.2 with h | ⟨g, cap, cur, e, hB, r⟩
  · exact .inl h
  · exact .inr ⟨g, cap, cur, e, Nat.le_trans hb hB, r⟩
theorem ROwn.lt (h : ROwn enc k W B e v n L) : ∀ i, v.ownBlock = some i → B ≤ i ∧ i < W.heap.size := World.ownsRow.lt h.2
theorem ROwn.tag (h : ROwn enc k W B e v n L) : ∀ i, v.ownBlock = some i → ∃ cur, W.heap[i]? = some (.cells cur e (0, 0)) := fun i hi => by
  rcases h.2.2 with ⟨rfl, _⟩ | ⟨g, cap, cur, rfl, hb, hg, _⟩
  · cases hi
  · cases hi; exact ⟨cur, hg⟩
theorem ROwn.kept {r : Option Nat} (h : ROwn enc k W B e v n L) (hg : W.grownBy W' r) (hr : ∀ i, v.ownBlock = some i → some i ≠ r) : ROwn enc k W' B e v n L :=
  ⟨h.1, World.ownsRow.kept h.2 hg (by
    cases ho : v.ownBlock with
    | none => exact .inl rfl
    | some i => exact .inr (fun e => hr i ho e))⟩
theorem ROwn.keepS (h : ROwn enc k W B e v n L) (hk : ∀ i, v.ownBlock = some i → W'.heap[i]? = W.heap[i]?) : ROwn enc k W' B e v n L := by
  refine ⟨h.1, h.2.1, ?_⟩
  rcases h.2.2 with h1 | ⟨g, cap, cur, rfl, hB, hg, r⟩
  · exact .inl h1
  · exact .inr ⟨g, cap, cur, rfl, hB, (hk g rfl).trans hg, r⟩
theorem ROwn.nq {c : Array Value} {t q : Nat} (h : ROwn enc k W B e v n L) (hb : Blk W q c t) (ht : t ≠ e) : v.ownBlock ≠ some q := fun e2 => by
  obtain ⟨cur, hc⟩ := h.tag q e2
  have h2 : W.heap[q]? = some (.cells c t (0, 0)) := hb
  rw [h2] at hc; simp only [Option.some.injEq, Obj.cells.injEq] at hc; exact ht hc.2.1
theorem ROwn.rsl {A : Option Addr} {c : Nat} (h : ROwn enc k W B e (.slice A n c) n L) (hk : ∀ x, (enc x).length = k) : RSl enc k W A n L := by
  refine ⟨h.1, fun hn => ?_⟩
  have hO := h.2
  rcases h.2.2 with ⟨e, h2⟩ | ⟨g, cap, cur, e, hB, hg, _⟩
  · omega
  · cases e
    refine ⟨g, 0, rfl, (Array.getElem?_eq_some_iff.1 hg).1, fun j x hx i hi => ?_⟩
    have hj : j < n := by have := (List.getElem?_eq_some_iff.1 hx).1; rw [h.1] at this; exact this
    have hlt : j * k + i < n * k := by
      have h1 : (j + 1) * k ≤ n * k := Nat.mul_le_mul_right k hj
      rw [Nat.add_mul] at h1; omega
    rw [Nat.zero_add, hO.cellAt (j * k + i) hlt, rv_at hk L j i x hx hi]
theorem Blk.rsl {g : Nat} {x : α} {t : TypeId} (h : Blk W g (enc x).toArray t) : RSl enc k W (some ⟨g, 0, .none⟩) 1 [x] :=
  ⟨rfl, fun _ => ⟨g, 0, rfl, h.lt, fun j y hy i hi => by
    have : j = 0 := by have := (List.getElem?_eq_some_iff.1 hy).1; simp at this; exact this
    subst this
    simp at hy; subst hy
    rw [show 0 + 0 * k + i = i from by omega, h.cell]; simp⟩⟩
theorem rs_cells {ad : Addr} (hk : ∀ x, (enc x).length = k) (hp : 0 < k) (hy : RSl enc k W (some ad) m L) : ∀ j u, (rv enc L)[j]? = some u → W.cell? (ad.add j) = some u := fun j u hu => by
  have hj : j < (rv enc L).length := (List.getElem?_eq_some_iff.1 hu).1
  rw [rv_len hk, hy.1] at hj
  have h4 : j / k < m := (Nat.div_lt_iff_lt_mul hp).2 hj
  obtain ⟨g, off, e, _, hc⟩ := hy.2 (Nat.lt_of_le_of_lt (Nat.zero_le _) h4)
  cases e
  have hx : L[j / k]? = some (L[j / k]'(by rw [hy.1]; exact h4)) := List.getElem?_eq_getElem _
  rw [add_plain]
  have ej : j / k * k + j % k = j := Nat.div_add_mod' j k
  have hi := Nat.mod_lt j hp
  have h5 := hc _ _ hx (j % k) hi
  have h6 := rv_at hk L (j / k) (j % k) _ hx hi
  rw [ej] at h6
  rw [h6] at hu
  rw [Nat.add_assoc, ej] at h5
  rw [h5]; exact hu
section
variable {P : Program} {t : TypeId} {bytes : Nat} {w : World} {ops : Array Oper} {rest : List Oper} {o : Oper} {a : Act} {Q : Exit → Act → World → Prop}
/-- 'append(s, x...)' -/
theorem append_row (E : RElem enc k P t e bytes) (hgd : o.guard = .none) (s x : Operand)
    (ho : o.op = .call { callee := .builtin .append, args := #[s, x], argTypes := #[t, t] })
    (B : Nat) (v : Value) (n : Nat) (xs : List α) (hs : a.eval s = v) (hown : ROwn enc k w B e v n xs)
    (A : Option Addr) (m c : Nat) (ys : List α) (hx : a.eval x = .slice A m c) (hy : RSl enc k w A m ys) (hnil : A = .none → m = 0 ∧ c = 0) (hb : n + m ≤ 1000000) (hbb : bytes ≤ 1000) (hbase : B ≤ w.heap.size)
    (h : ∀ v' w', ROwn enc k w' B e v' (n + m) (xs ++ ys) → w.grownBy w' v.ownBlock → wpList P ops Q rest (a.put o.dst v') w') :
    wpList P ops Q (o :: rest) a w := by
  obtain ⟨i0, z, hi, hz0, hz1, hz2, hz3⟩ := E.info
  cases A with
  | none =>
    obtain ⟨rfl, rfl⟩ := hnil rfl
    refine wpList_append_own_none hgd s x t ho B e i0 k E.und hi v n _ hs hown.2 hx ?_
    have hys : ys = [] := List.eq_nil_of_length_eq_zero hy.1
    exact h v w (by rw [hys, List.append_nil]; exact hown) (World.grownBy.refl _ _)
  | some ad =>
    have hbt : (n + m) * bytes ≤ 1000000 * 1000 := Nat.mul_le_mul hb hbb
    exact wpList_append_own w hgd s x t ho B e i0 z k bytes E.und hi hz0 hz1 hz2 hz3 E.pos v n _ hs hown.2 ad m c (rv enc ys) hx (by rw [rv_len E.len, hy.1]) (rs_cells E.len E.pos hy) (fun u hu => rv_one E.one ys u hu) (by unfold maxLen; omega) (by omega) hbase (fun v' w' h1 h2 _ => h v' w' ⟨by rw [List.length_append, hown.1, hy.1], by rw [rv_app]; exact h1⟩ h2)
theorem step_append_row {K : Act → World → Prop} {D : Prop} (E : RElem enc k P t e bytes) (hgd : o.guard = .none) (s x : Operand)
    (ho : o.op = .call { callee := .builtin .append, args := #[s, x], argTypes := #[t, t] })
    (B : Nat) (v : Value) (n : Nat) (xs : List α) (hs : a.eval s = v) (hown : ROwn enc k w B e v n xs)
    (A : Option Addr) (m c : Nat) (ys : List α) (hx : a.eval x = .slice A m c) (hy : RSl enc k w A m ys) (hnil : A = .none → m = 0 ∧ c = 0) (hb : n + m ≤ 1000000) (hbb : bytes ≤ 1000) (hbase : B ≤ w.heap.size)
    (h : ∀ v' w', ROwn enc k w' B e v' (n + m) (xs ++ ys) → w.grownBy w' v.ownBlock → K (a.put o.dst v') w') :
    if Region.wanted o (yielded ops a.tmps) = true then Oper.wp P o a w K Q else D := by
  have hw : Region.wanted o (yielded ops a.tmps) = true := by simp [Region.wanted, hgd]
  rw [if_pos hw]
  obtain ⟨i0, z, hi, hz0, hz1, hz2, hz3⟩ := E.info
  cases A with
  | none =>
    obtain ⟨rfl, rfl⟩ := hnil rfl
    have hrun := run_append_owned_none (P := P) (w := w) B t o.type e i0 k E.und hi v n _ hown.2
    have hys : ys = [] := List.eq_nil_of_length_eq_zero hy.1
    have hh := h v w (by rw [hys, List.append_nil]; exact hown) (World.grownBy.refl _ _)
    unfold Oper.wp
    simp [execOp, ho, resolve, invoke, builtin, hs, hx, hrun, Result.andThen]
    exact hh
  | some ad =>
    have hbt : (n + m) * bytes ≤ 1000000 * 1000 := Nat.mul_le_mul hb hbb
    exact wp_append_own w s x t ho B e i0 z k bytes E.und hi hz0 hz1 hz2 hz3 E.pos v n _ hs hown.2 ad m c (rv enc ys) hx (by rw [rv_len E.len, hy.1]) (rs_cells E.len E.pos hy) (fun u hu => rv_one E.one ys u hu) (by unfold maxLen; omega) (by omega) hbase (fun v' w' h1 h2 _ => h v' w' ⟨by rw [List.length_append, hown.1, hy.1], by rw [rv_app]; exact h1⟩ h2)
/-- .. one element, and where the row lies then -/
theorem append_row1 (E : RElem enc k P t e bytes) (hgd : o.guard = .none) (s x : Operand)
    (ho : o.op = .call { callee := .builtin .append, args := #[s, x], argTypes := #[t, t] })
    (B : Nat) (v : Value) (n : Nat) (xs : List α) (hs : a.eval s = v) (hown : ROwn enc k w B e v n xs)
    (g0 c : Nat) (y : α) (hx : a.eval x = .slice (some ⟨g0, 0, none⟩) 1 c) (hy : RSl enc k w (some ⟨g0, 0, none⟩) 1 [y]) (hb : n + 1 ≤ 1000000) (hbb : bytes ≤ 1000) (hbase : B ≤ w.heap.size)
    (h : ∀ A' c' w', ROwn enc k w' B e (.slice A' (n + 1) c') (n + 1) (xs ++ [y]) → w.grownBy w' v.ownBlock → (∀ j, (Value.slice A' (n + 1) c').ownBlock = some j → v.ownBlock = some j ∨ w.heap.size ≤ j) → n + 1 ≤ c' → wpList P ops Q rest (a.put o.dst (.slice A' (n + 1) c')) w') :
    wpList P ops Q (o :: rest) a w := by
  obtain ⟨i0, z, hi, hz0, hz1, hz2, hz3⟩ := E.info
  have hbt : (n + 1) * bytes ≤ 1000000 * 1000 := Nat.mul_le_mul hb hbb
  refine wpList_append_lies w hgd s x t ho B e i0 z k bytes E.und hi hz0 hz1 hz2 hz3 E.pos v n _ hs hown.2 ⟨g0, 0, none⟩ 1 c (rv enc [y]) hx (by rw [rv_len E.len]; rfl) (rs_cells E.len E.pos hy) (fun u hu => rv_one E.one [y] u hu) (by decide) (by unfold maxLen; omega) (by omega) hbase w.heap.size rfl (fun g cap w' h1 h2 h3 _ => ?_)
  have ho2 : ROwn enc k w' B e (.slice (some ⟨g, 0, none⟩) (n + 1) cap) (n + 1) (xs ++ [y]) := ⟨by rw [List.length_append, hown.1]; rfl, by rw [rv_app]; exact h1⟩
  obtain ⟨_, _, e2, hl, _⟩ := ho2.sl
  cases e2
  refine h _ _ _ ho2 h2 (fun j e => ?_) hl
  have e3 : j = g := by simpa [Value.ownBlock] using e.symm
  subst e3
  rcases h3 with h3 | h3
  · exact .inl h3
  · exact .inr (by omega)
theorem step_append_row1 {K : Act → World → Prop} {D : Prop} (E : RElem enc k P t e bytes) (hgd : o.guard = .none) (s x : Operand)
    (ho : o.op = .call { callee := .builtin .append, args := #[s, x], argTypes := #[t, t] })
    (B : Nat) (v : Value) (n : Nat) (xs : List α) (hs : a.eval s = v) (hown : ROwn enc k w B e v n xs)
    (g0 c : Nat) (y : α) (hx : a.eval x = .slice (some ⟨g0, 0, none⟩) 1 c) (hy : RSl enc k w (some ⟨g0, 0, none⟩) 1 [y]) (hb : n + 1 ≤ 1000000) (hbb : bytes ≤ 1000) (hbase : B ≤ w.heap.size)
    (h : ∀ A' c' w', ROwn enc k w' B e (.slice A' (n + 1) c') (n + 1) (xs ++ [y]) → w.grownBy w' v.ownBlock → (∀ j, (Value.slice A' (n + 1) c').ownBlock = some j → v.ownBlock = some j ∨ w.heap.size ≤ j) → n + 1 ≤ c' → K (a.put o.dst (.slice A' (n + 1) c')) w') :
    if Region.wanted o (yielded ops a.tmps) = true then Oper.wp P o a w K Q else D := by
  have hw : Region.wanted o (yielded ops a.tmps) = true := by simp [Region.wanted, hgd]
  rw [if_pos hw]
  obtain ⟨i0, z, hi, hz0, hz1, hz2, hz3⟩ := E.info
  have hbt : (n + 1) * bytes ≤ 1000000 * 1000 := Nat.mul_le_mul hb hbb
  refine wp_append_lies w s x t ho B e i0 z k bytes E.und hi hz0 hz1 hz2 hz3 E.pos v n _ hs hown.2 ⟨g0, 0, none⟩ 1 c (rv enc [y]) hx (by rw [rv_len E.len]; rfl) (rs_cells E.len E.pos hy) (fun u hu => rv_one E.one [y] u hu) (by decide) (by unfold maxLen; omega) (by omega) hbase w.heap.size rfl (fun g cap w' h1 h2 h3 _ => ?_)
  have ho2 : ROwn enc k w' B e (.slice (some ⟨g, 0, none⟩) (n + 1) cap) (n + 1) (xs ++ [y]) := ⟨by rw [List.length_append, hown.1]; rfl, by rw [rv_app]; exact h1⟩
  obtain ⟨_, _, e2, hl, _⟩ := ho2.sl
  cases e2
  refine h _ _ _ ho2 h2 (fun j e => ?_) hl
  have e3 : j = g := by simpa [Value.ownBlock] using e.symm
  subst e3
  rcases h3 with h3 | h3
  · exact .inl h3
  · exact .inr (by omega)
end
end
theorem step_callw {P : Program} {ops : Array Oper} {Q : Exit → Act → World → Prop} {o : Oper} {a : Act} {w : World} {K : Act → World → Prop} {D : Prop} (hw : Region.wanted o (yielded ops a.tmps) = true) (f : FuncId) (args : Array Value) (hrun : (execOp a.eval o).run P w = .ok (.enter f args) w) (h : Calls P f args w fun e w' => ∃ v, e = .returned v ∧ K (a.put o.dst v) w') :
    if Region.wanted o (yielded ops a.tmps) = true then Oper.wp P o a w K Q else D := by
  rw [if_pos hw]
  unfold Oper.wp
  rw [hrun, Oper.upon_enter]
  refine h.mono fun e w' hh => ?_
  obtain ⟨v, rfl, hk⟩ := hh
  exact hk
end Go.Proofs.Ytoinjnocopejjaa
