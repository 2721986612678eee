/- Rows of holds; the document's object. -/
import Derived.Test.YtgjponobiplipaaQ2
import Derived.Laws.AppendOwnNone
namespace Go.Proofs.Ytgjponobiplipaa
open Go.ChangeShapes Go.WideShapes Go.ChangeAt Go.RowKit Go.Maps
set_option linter.unusedVariables false
set_option linter.unusedSimpArgs false

theorem h61info : (Try.prog.info? 61).map (fun i => (i.zero, i.size, i.bytes)) = some (some (.agg #[.int .u8 0, .int .u64 0, .int .i64 0]), 3, 24) := by kernel_rfl
abbrev ct0 : Ct := (0, 0)
def hd1 (p : Ct) : List Value := [.int .u8 (p.1 / 18446744073709551616), .int .u64 (p.1 % 18446744073709551616), .int .i64 p.2]
def hdv : List Ct → List Value
  | [] => []
  | p :: l => hd1 p ++ hdv l
theorem hdv_len : ∀ l : List Ct, (hdv l).length = l.length * 3
  | [] => rfl
  | v :: l => by simp [hdv, hd1, hdv_len l]; omega
theorem hdv_app : ∀ (l m : List Ct), hdv (l ++ m) = hdv l ++ hdv m
  | [], m => rfl
  | v :: l, m => by simp [hdv, hdv_app l m]
theorem hdv_at : ∀ (l : List Ct) (j i : Nat), j < l.length → i < 3 → (hdv l)[j * 3 + i]? = (hd1 (l.getD j ct0))[i]?
  | [], j, i, h, _ => by simp at h
  | v :: l, 0, i, h, hi => by
    show (hd1 v ++ hdv l)[0 * 3 + i]? = _
    rw [List.getElem?_append_left (by simp [hd1]; omega)]
    simp
  | v :: l, j + 1, i, h, hi => by
    have ih := hdv_at l j i (by simp at h; omega) hi
    show (hd1 v ++ hdv l)[(j + 1) * 3 + i]? = _
    rw [List.getElem?_append_right (by simp [hd1]; omega), show (j + 1) * 3 + i - (hd1 v).length = j * 3 + i from by simp [hd1]; omega, ih]
    rfl
theorem hdv_one : ∀ (l : List Ct), ∀ u ∈ hdv l, u.oneCell' = true
  | [], u, h => by cases h
  | v :: l, u, h => by
    rcases List.mem_append.1 (show u ∈ hd1 v ++ hdv l from h) with h | h
    · simp [hd1] at h
      rcases h with rfl | rfl | rfl <;> rfl
    · exact hdv_one l u h
structure HCell (W : World) (g o : Nat) (p : Ct) : Prop where
  c0 : W.cell? ⟨g, o, none⟩ = some (.int .u8 (p.1 / 18446744073709551616))
  c1 : W.cell? ⟨g, o + 1, none⟩ = some (.int .u64 (p.1 % 18446744073709551616))
  c2 : W.cell? ⟨g, o + 2, none⟩ = some (.int .i64 p.2)
/-- a slice that reads as holds -/
def HSl (W : World) (A : Option Addr) (m : Nat) (L : List Ct) : Prop :=
  L.length = m ∧ (0 < m → ∃ g off, A = some ⟨g, off, none⟩ ∧ g < W.heap.size ∧ ∀ j, j < m → HCell W g (off + j * 3) (L.getD j ct0))
theorem HSl.later {W W' : World} {A : Option Addr} {m : Nat} {L : List Ct} (h : HSl W A m L) (hb : Below W.heap.size W W') : HSl W' A m L :=
  ⟨h.1, fun hn => by
    obtain ⟨g, off, hA, hg, hc⟩ := h.2 hn
    exact ⟨g, off, hA, Nat.lt_of_lt_of_le hg hb.size, fun j hj => ⟨(hb.cell (p := ⟨g, off + j * 3, none⟩) hg).trans (hc j hj).c0, (hb.cell (p := ⟨g, off + j * 3 + 1, none⟩) hg).trans (hc j hj).c1, (hb.cell (p := ⟨g, off + j * 3 + 2, none⟩) hg).trans (hc j hj).c2⟩⟩⟩
def HOwn (W : World) (B : Nat) (v : Value) (n : Nat) (L : List Ct) : Prop := L.length = n ∧ W.ownsRow B 61 3 v n (hdv L)
section
variable {W W' : World} {B B' n : Nat} {v : Value} {L : List Ct}
theorem HOwn.sl (h : HOwn W B v n L) : ∃ A c, v = .slice A n c ∧ n ≤ c ∧ (A = none → n = 0 ∧ c = 0) := by
  rcases h.2.2 with ⟨rfl, h2⟩ | ⟨g, cap, cur, rfl, hB, hg, hn, hm, hs, ht⟩
  · exact ⟨none, 0, by rw [h2], by omega, fun _ => ⟨h2, rfl⟩⟩
  · exact ⟨_, cap, rfl, hn, fun h => by cases h⟩
theorem HOwn.none (W : World) (B : Nat) : HOwn W B (.slice none 0 0) 0 [] := ⟨rfl, World.ownsRow_nil _ _ _ _⟩
theorem HOwn.fresh {g : Nat} (W : World) (hB : B ≤ W.heap.size) (hk : W.heap.size = g) : HOwn (W.alloc (.cells #[] 61)) B (.slice (some ⟨g, 0, .none⟩) 0 0) 0 [] := by
  subst hk
  refine ⟨rfl, rfl, .inr ⟨W.heap.size, 0, #[], rfl, hB, ?_, by omega, by simp, ?_, ?_⟩⟩
  · simpa using heap_alloc_new W (.cells #[] 61)
  · simp [hdv]
  · simp [hdv]
theorem HOwn.later (h : HOwn W B v n L) (hb : Below W.heap.size W W') : HOwn W' B v n L := ⟨h.1, World.ownsRow.kept h.2 (row := .none) ⟨hb.os, hb.tape, hb.output, hb.size, fun k hk _ => hb.block k hk⟩ (by cases v.ownBlock <;> simp)⟩
theorem HOwn.base (h : HOwn W B v n L) (hb : B' ≤ B) : HOwn W B' v n L := by
  refine ⟨h.1, h.2.1, ?_⟩
  rcases h.2.2 with h | ⟨g, cap, cur, e, hB, r⟩
  · exact .inl h
  · exact .inr ⟨g, cap, cur, e, Nat.le_trans hb hB, r⟩
theorem HOwn.lt (h : HOwn W B v n L) : ∀ k, v.ownBlock = some k → B ≤ k ∧ k < W.heap.size := World.ownsRow.lt h.2
theorem HOwn.tag (h : HOwn W B v n L) : ∀ k, v.ownBlock = some k → ∃ cur, W.heap[k]? = some (.cells cur 61 (0, 0)) := fun k hk => by
  rcases h.2.2 with ⟨rfl, _⟩ | ⟨g, cap, cur, rfl, hb, hg, _⟩
  · cases hk
  · cases hk; exact ⟨cur, hg⟩
theorem HOwn.kept {r : Option Nat} (h : HOwn W B v n L) (hg : W.grownBy W' r) (hr : ∀ k, v.ownBlock = some k → some k ≠ r) : HOwn W' B v n L :=
  ⟨h.1, World.ownsRow.kept h.2 hg (by
    cases ho : v.ownBlock with
    | none => exact .inl rfl
    | some k => exact .inr (fun e => hr k ho e))⟩
theorem HOwn.hsl {A : Option Addr} {c : Nat} (h : HOwn W B (.slice A n c) n L) : HSl W A n L := by
  refine ⟨h.1, fun hn => ?_⟩
  have hO := h.2
  rcases h.2.2 with ⟨e, h2⟩ | ⟨g, cap, cur, e, hB, hg, _⟩
  · omega
  · cases e
    refine ⟨g, 0, rfl, (Array.getElem?_eq_some_iff.1 hg).1, fun j hj => ?_⟩
    have hc : ∀ i, i < 3 → W.cell? ⟨g, j * 3 + i, .none⟩ = (hd1 (L.getD j ct0))[i]? := fun i hi => by
      rw [hO.cellAt (j * 3 + i) (by omega), hdv_at L j i (by rw [h.1]; exact hj) hi]
    rw [Nat.zero_add]
    exact ⟨hc 0 (by omega), hc 1 (by omega), hc 2 (by omega)⟩
theorem Blk.hsl {g : Nat} {p : Ct} {t : TypeId} (h : Blk W g (hd1 p).toArray t) : HSl W (some ⟨g, 0, .none⟩) 1 [p] :=
  ⟨rfl, fun _ => ⟨g, 0, rfl, h.lt, fun j hj => by
    obtain rfl : j = 0 := by omega
    exact ⟨h.cell _, h.cell _, h.cell _⟩⟩⟩
end
theorem hs_cells {W : World} {ad : Addr} {m : Nat} {ys : List Ct} (hy : HSl W (some ad) m ys) : ∀ j u, (hdv ys)[j]? = some u → W.cell? (ad.add j) = some u := fun j u hu => by
  have hj : j < (hdv ys).length := (List.getElem?_eq_some_iff.1 hu).1
  rw [hdv_len, hy.1] at hj
  obtain ⟨g, off, e, _, hc⟩ := hy.2 (by omega)
  cases e
  have h4 : j / 3 < m := by omega
  have hcc := hc (j / 3) h4
  rw [add_plain]
  have ej : j = j / 3 * 3 + j % 3 := by omega
  have hi := hdv_at ys (j / 3) (j % 3) (by rw [hy.1]; exact h4) (by omega)
  rw [← ej] at hi
  rw [hi] at hu
  generalize ys.getD (j / 3) ct0 = s at *
  have hr : j % 3 = 0 ∨ j % 3 = 1 ∨ j % 3 = 2 := by omega
  rcases hr with hr | hr | hr
  · rw [hr] at hu; rw [show off + j = off + j / 3 * 3 from by omega, hcc.c0]; exact hu
  · rw [hr] at hu; rw [show off + j = off + j / 3 * 3 + 1 from by omega, hcc.c1]; exact hu
  · rw [hr] at hu; rw [show off + j = off + j / 3 * 3 + 2 from by omega, hcc.c2]; exact hu
section
variable {w : World} {ops : Array Oper} {rest : List Oper} {o : Oper} {a : Act} {Q : Exit → Act → World → Prop}
/-- 'append(s, x...)' at holds -/
theorem append_hd (hgd : o.guard = .none) (s x : Operand)
    (ho : o.op = .call { callee := .builtin .append, args := #[s, x], argTypes := #[40, 40] })
    (B : Nat) (v : Value) (n : Nat) (xs : List Ct) (hs : a.eval s = v) (hown : HOwn w B v n xs)
    (A : Option Addr) (m c : Nat) (ys : List Ct) (hx : a.eval x = .slice A m c) (hy : HSl w A m ys) (hnil : A = .none → m = 0 ∧ c = 0) (hb : n + m ≤ 2000) (hbase : B ≤ w.heap.size)
    (h : ∀ v' w', HOwn w' B v' (n + m) (xs ++ ys) → w.grownBy w' v.ownBlock → wpList Try.prog ops Q rest (a.put o.dst v') w') :
    wpList Try.prog ops Q (o :: rest) a w := by
  obtain ⟨i0, hi, hz0, hz1, hz2⟩ := info_parts h61info
  cases A with
  | none =>
    obtain ⟨rfl, rfl⟩ := hnil rfl
    refine wpList_append_own_none hgd s x 40 ho B 61 i0 3 Try.underlying40 hi v n _ hs hown.2 hx ?_
    have hys : ys = [] := List.eq_nil_of_length_eq_zero hy.1
    exact h v w (by rw [hys, List.append_nil]; exact hown) (World.grownBy.refl _ _)
  | some ad =>
    exact wpList_append_own w hgd s x 40 ho B 61 i0 _ 3 24 Try.underlying40 hi hz0 hz1 hz2 rfl (by decide) v n _ hs hown.2 ad m c (hdv ys) hx (by rw [hdv_len, hy.1]) (hs_cells hy) (fun u hu => hdv_one ys u hu) (by unfold maxLen; omega) (by omega) hbase (fun v' w' h1 h2 _ => h v' w' ⟨by rw [List.length_append, hown.1, hy.1], by rw [hdv_app]; exact h1⟩ h2)
theorem step_append_hd {K : Act → World → Prop} {D : Prop} (hgd : o.guard = .none) (s x : Operand)
    (ho : o.op = .call { callee := .builtin .append, args := #[s, x], argTypes := #[40, 40] })
    (B : Nat) (v : Value) (n : Nat) (xs : List Ct) (hs : a.eval s = v) (hown : HOwn w B v n xs)
    (A : Option Addr) (m c : Nat) (ys : List Ct) (hx : a.eval x = .slice A m c) (hy : HSl w A m ys) (hnil : A = .none → m = 0 ∧ c = 0) (hb : n + m ≤ 2000) (hbase : B ≤ w.heap.size)
    (h : ∀ v' w', HOwn w' B v' (n + m) (xs ++ ys) → w.grownBy w' v.ownBlock → K (a.put o.dst v') w') :
    if Region.wanted o (yielded ops a.tmps) = true then Oper.wp Try.prog o a w K Q else D := by
  have hw : Region.wanted o (yielded ops a.tmps) = true := by simp [Region.wanted, hgd]
  rw [if_pos hw]
  obtain ⟨i0, hi, hz0, hz1, hz2⟩ := info_parts h61info
  cases A with
  | none =>
    obtain ⟨rfl, rfl⟩ := hnil rfl
    have hrun := run_append_owned_none (P := Try.prog) (w := w) B 40 o.type 61 i0 3 Try.underlying40 hi v n _ hown.2
    have hys : ys = [] := List.eq_nil_of_length_eq_zero hy.1
    have hh := h v w (by rw [hys, List.append_nil]; exact hown) (World.grownBy.refl _ _)
    unfold Oper.wp
    simp [execOp, ho, resolve, invoke, builtin, hs, hx, hrun, Result.andThen]
    exact hh
  | some ad =>
    exact wp_append_own w s x 40 ho B 61 i0 _ 3 24 Try.underlying40 hi hz0 hz1 hz2 rfl (by decide) v n _ hs hown.2 ad m c (hdv ys) hx (by rw [hdv_len, hy.1]) (hs_cells hy) (fun u hu => hdv_one ys u hu) (by unfold maxLen; omega) (by omega) hbase (fun v' w' h1 h2 _ => h v' w' ⟨by rw [List.length_append, hown.1, hy.1], by rw [hdv_app]; exact h1⟩ h2)
end
/-- the document's object: its block, its row -/
structure RfAt (W : World) (B p : Nat) (v : Value) (L : List Ct) : Prop where
  hp : B ≤ p
  blk : Blk W p #[v] 42
  own : HOwn W B v L.length L
section
variable {W W' : World} {B B' p q : Nat} {v : Value} {L : List Ct}
theorem RfAt.later (h : RfAt W B p v L) (hb : Below W.heap.size W W') : RfAt W' B p v L := ⟨h.hp, h.blk.later hb, h.own.later hb⟩
theorem RfAt.base (h : RfAt W B p v L) (hb : B' ≤ B) : RfAt W B' p v L := ⟨Nat.le_trans hb h.hp, h.blk, h.own.base hb⟩
theorem RfAt.plt (h : RfAt W B p v L) : p < W.heap.size := h.blk.lt
theorem RfAt.grown {r : Option Nat} (h : RfAt W B p v L) (hg : W.grownBy W' r) (h1 : some p ≠ r) (h2 : ∀ k, v.ownBlock = some k → some k ≠ r) : RfAt W' B p v L :=
  ⟨h.hp, h.blk.grown hg h1, h.own.kept hg h2⟩
theorem RfAt.row (h : RfAt W B p v L) : ∃ A c, v = .slice A L.length c ∧ L.length ≤ c ∧ (A = none → L.length = 0 ∧ c = 0) ∧ HSl W A L.length L := by
  obtain ⟨A, c, rfl, h1, h2⟩ := h.own.sl
  exact ⟨A, c, rfl, h1, h2, h.own.hsl⟩
theorem ho_fr {n : Nat} (h : HOwn W B v n L) {g j : Nat} {x : Value} {cs : Array Value} {t : TypeId} (hb : Blk W g cs t) (ht : t ≠ 61) : HOwn (W.setCell ⟨g, j, none⟩ x) B v n L :=
  h.kept (grown_set W g j x) (fun k hk e => by
    cases e
    obtain ⟨cur, hc⟩ := h.tag g hk
    have h2 : W.heap[g]? = some (.cells cs t (0, 0)) := hb
    rw [hc] at h2; cases h2; exact ht rfl)
end
theorem hindex (g off m c k : Nat) (i : Int) (hi : i = (k : Int)) (h : k < m) (W : World) : (Instr.indexAt 40 (.slice (some ⟨g, off, none⟩) m c) (.int .i64 i)).run Try.prog W = .ok (.pointer (some ⟨g, off + k * 3, none⟩)) W := by
  subst hi
  have h1 : (0 : Int) ≤ (k : Int) ∧ (k : Int) < (m : Int) := by omega
  go_simp
theorem size61 (w : World) : (Go.sizeOf 61).run Try.prog w = .ok 3 w := by kernel_rfl
theorem hslice_lo (A : Option Addr) (m c k : Nat) (hk : k ≤ m) (hc : m ≤ c) (h0 : A = .none → m = 0 ∧ c = 0) :
    ∃ A2, (∀ W, (Instr.slice 40 (.slice A m c) (some (.int .i64 (k : Int))) .none .none).run Try.prog W = .ok (.slice A2 (m - k) (c - k)) W) ∧ (A2 = none → m - k = 0 ∧ c - k = 0) ∧ ∀ (W : World) (xs : List Ct), HSl W A m xs → HSl W A2 (m - k) (xs.drop k) := by
  have ht' : Try.prog.underlying 40 = some (.slice (Try.prog.elem 40)) := by simp [Program.elem, Try.underlying40]
  have he : Try.prog.elem 40 = 61 := by simp [Program.elem, Try.underlying40]
  cases A with
  | none =>
    obtain ⟨rfl, rfl⟩ := h0 rfl
    obtain rfl : k = 0 := by omega
    refine ⟨.none, fun W => ?_, fun _ => ⟨rfl, rfl⟩, fun W xs h => by simpa using h⟩
    rw [run_slice_l W 40 _ _ _ ht' .i64 _ (by omega) (by omega), he, size61]
    simp [Result.andThen, sliced]
  | some a =>
    refine ⟨some (if c = k then a else a.add (k * 3)), fun W => ?_, (fun e => by cases e), fun W xs h => ⟨by rw [List.length_drop, h.1], fun hp => ?_⟩⟩
    · rw [run_slice_l W 40 _ _ _ ht' .i64 _ (by omega) (by omega), he, size61]
      by_cases e : c = k
      · simp [Result.andThen, sliced, e]
      · simp [Result.andThen, sliced, e]
    · obtain ⟨g, off, hA, hg, hcell⟩ := h.2 (by omega)
      cases hA
      rw [if_neg (by omega), add_plain]
      refine ⟨g, off + k * 3, rfl, hg, fun j hj => ?_⟩
      have := hcell (k + j) (by omega)
      rw [show off + (k + j) * 3 = off + k * 3 + j * 3 from by omega] at this
      rw [show (xs.drop k).getD j ct0 = xs.getD (k + j) ct0 from by rw [List.getD_eq_getElem?_getD, List.getD_eq_getElem?_getD, List.getElem?_drop]]
      exact this
theorem hslice_hi (A : Option Addr) (m c k : Nat) (hk : k ≤ m) (hc : m ≤ c) (h0 : A = .none → m = 0 ∧ c = 0) :
    (∀ W, (Instr.slice 40 (.slice A m c) .none (some (.int .i64 (k : Int))) .none).run Try.prog W = .ok (.slice A k c) W) ∧ ∀ (W : World) (xs : List Ct), HSl W A m xs → HSl W A k (xs.take k) := by
  have ht' : Try.prog.underlying 40 = some (.slice (Try.prog.elem 40)) := by simp [Program.elem, Try.underlying40]
  have he : Try.prog.elem 40 = 61 := by simp [Program.elem, Try.underlying40]
  refine ⟨fun W => ?_, fun W xs h => ⟨by rw [List.length_take, h.1]; omega, fun hp => ?_⟩⟩
  · rw [run_slice_h W 40 _ _ _ ht' .i64 _ (by omega) (by omega), he, size61]
    cases A with
    | none => simp [Result.andThen, sliced]
    | some a => by_cases e : c = 0 <;> simp [Result.andThen, sliced, Addr.add, e]
  · obtain ⟨g, off, hA, hg, hcell⟩ := h.2 (by omega)
    refine ⟨g, off, hA, hg, fun j hj => ?_⟩
    rw [show (xs.take k).getD j ct0 = xs.getD j ct0 from by rw [List.getD_eq_getElem?_getD, List.getD_eq_getElem?_getD, List.getElem?_take_of_lt hj]]
    exact hcell j (by omega)
theorem eq37 (y z : Int) (w : World) : (binOp BinOp.eql 37 (.agg #[.int .u8 (y / 18446744073709551616), .int .u64 (y % 18446744073709551616)]) (.agg #[.int .u8 (z / 18446744073709551616), .int .u64 (z % 18446744073709551616)])).run Try.prog w = .ok (.bool (decide (y = z))) w := by
  have h : (y = z) = (y / 18446744073709551616 = z / 18446744073709551616 ∧ y % 18446744073709551616 = z % 18446744073709551616) := by
    apply propext; omega
  simp only [h]
  generalize y / 18446744073709551616 = k1
  generalize y % 18446744073709551616 = i1
  generalize z / 18446744073709551616 = k2
  generalize z % 18446744073709551616 = i2
  go_simp
  by_cases a : k1 = k2 <;> by_cases b : i1 = i2 <;> simp [a, b]
theorem ne37 (y z : Int) (w : World) : (binOp BinOp.neq 37 (.agg #[.int .u8 (y / 18446744073709551616), .int .u64 (y % 18446744073709551616)]) (.agg #[.int .u8 (z / 18446744073709551616), .int .u64 (z % 18446744073709551616)])).run Try.prog w = .ok (.bool (!decide (y = z))) w := by
  have h : (y = z) = (y / 18446744073709551616 = z / 18446744073709551616 ∧ y % 18446744073709551616 = z % 18446744073709551616) := by
    apply propext; omega
  simp only [h]
  generalize y / 18446744073709551616 = k1
  generalize y % 18446744073709551616 = i1
  generalize z / 18446744073709551616 = k2
  generalize z % 18446744073709551616 = i2
  go_simp
  by_cases a : k1 = k2 <;> by_cases b : i1 = i2 <;> simp [a, b]
/-! ### what a search finds -/
theorem first_hit : ∀ {L : List Ct} {z : Int} {k : Nat}, k < L.length → (∀ j, j < k → (L.getD j ct0).1 ≠ z) → (L.getD k ct0).1 = z → isC L z = true ∧ ofC L z = (L.getD k ct0).2
  | [], _, _, h, _, _ => by simp at h
  | p :: L, z, 0, _, _, e => by
    have e' : p.1 = z := e
    exact ⟨by simp [isC, e'], if_pos e'⟩
  | p :: L, z, k + 1, h, ha, e => by
    have h0 : p.1 ≠ z := ha 0 (by omega)
    obtain ⟨i1, i2⟩ := first_hit (L := L) (z := z) (k := k) (by simpa using h) (fun j hj => ha (j + 1) (by omega)) e
    exact ⟨by simp only [isC, List.any_cons] at i1 ⊢; rw [i1]; simp, (if_neg h0).trans i2⟩
theorem no_hit {L : List Ct} {z : Int} (h : ∀ j, j < L.length → (L.getD j ct0).1 ≠ z) : isC L z = false := by
  rw [isC, List.any_eq_false]
  intro p hp
  obtain ⟨i, hi, rfl⟩ := List.getElem_of_mem hp
  have := h i hi
  rw [List.getD_eq_getElem?_getD, List.getElem?_eq_getElem hi] at this
  simpa using this
theorem take_snocC {L : List Ct} {k : Nat} (h : k < L.length) : L.take (k + 1) = L.take k ++ [L.getD k ct0] := by
  rw [List.take_add_one, List.getD_eq_getElem?_getD, List.getElem?_eq_getElem h]; rfl
theorem held_take {L : List Ct} {k : Nat} (t : Int) (h : k < L.length) : heldC (L.take (k + 1)) t = heldC (L.take k) t ++ (if (L.getD k ct0).2 = t then [(L.getD k ct0).1] else []) := by
  rw [take_snocC h]
  unfold heldC
  rw [List.filter_append, List.map_append]
  congr 1
  generalize L.getD k ct0 = q
  by_cases e : q.2 = t <;> simp [e]
theorem del_take {L : List Ct} {k : Nat} (z : Int) (h : k < L.length) : delC (L.take (k + 1)) z = delC (L.take k) z ++ (if (L.getD k ct0).1 ≠ z then [L.getD k ct0] else []) := by
  rw [take_snocC h]
  unfold delC
  rw [List.filter_append]
  congr 1
  generalize L.getD k ct0 = q
  by_cases e : q.1 = z <;> simp [e]
theorem ins_at : ∀ {L : List Ct} {z : Int} (x : Ct) {k : Nat}, x.1 = z → k ≤ L.length → (∀ j, j < k → (L.getD j ct0).1 < z) → (k < L.length → z < (L.getD k ct0).1) → insC x L = L.take k ++ x :: L.drop k
  | [], z, x, k, _, hk, _, _ => by
    obtain rfl : k = 0 := by simpa using hk
    rfl
  | p :: L, z, x, 0, hx, _, _, h2 => by
    have : z < p.1 := h2 (by simp)
    unfold insC
    rw [if_pos (by rw [hx]; exact this)]; rfl
  | p :: L, z, x, k + 1, hx, hk, h1, h2 => by
    have h0 : p.1 < z := h1 0 (by omega)
    unfold insC
    rw [if_neg (by rw [hx]; omega), ins_at (L := L) (z := z) x (k := k) hx (by simpa using hk) (fun j hj => h1 (j + 1) (by omega)) (fun h => h2 (by simpa using h))]
    rfl
theorem del_no {C : List Ct} {z : Int} (h : isC C z = false) : delC C z = C := List.filter_eq_self.2 (fun p hp => by
  have := List.any_eq_false.1 h p hp
  simpa using this)
end Go.Proofs.Ytgjponobiplipaa
