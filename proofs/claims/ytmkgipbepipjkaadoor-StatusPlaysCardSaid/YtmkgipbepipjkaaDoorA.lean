/- Writers: their rows, and the object that has them. -/
import Derived.Test.YtmkgipbepipjkaaDoorSl
namespace Go.Proofs.YtmkgipbepipjkaaDoor
open Go.ChangeShapes Go.WideShapes Go.ChangeAt Go.RowKit
set_option linter.unusedVariables false
set_option linter.unusedSimpArgs false

/-- a writer: its state, its timestamp -/
abbrev Wr := Int × Int
abbrev w0r : Wr := (0, 0)
def wrv : List Wr → List Value
  | [] => []
  | v :: l => .int .u8 v.1 :: .int .i64 v.2 :: wrv l
theorem wrv_len : ∀ l : List Wr, (wrv l).length = l.length * 2
  | [] => rfl
  | v :: l => by simp [wrv, wrv_len l]; omega
theorem wrv_app : ∀ (l m : List Wr), wrv (l ++ m) = wrv l ++ wrv m
  | [], m => rfl
  | v :: l, m => by simp [wrv, wrv_app l m]
theorem wrv_at : ∀ (l : List Wr) (j : Nat), j < l.length → (wrv l)[j * 2]? = some (.int .u8 (l.getD j w0r).1) ∧ (wrv l)[j * 2 + 1]? = some (.int .i64 (l.getD j w0r).2)
  | [], j, h => by simp at h
  | v :: l, 0, h => ⟨rfl, rfl⟩
  | v :: l, j + 1, h => by
    have ih := wrv_at l j (by simp at h; omega)
    rw [show (j + 1) * 2 = j * 2 + 1 + 1 from by omega]
    simp only [wrv, List.getElem?_cons_succ, List.getD_cons_succ]
    exact ih
theorem wrv_one : ∀ (l : List Wr), ∀ u ∈ wrv l, u.oneCell' = true
  | [], u, h => by cases h
  | v :: l, u, h => by
    simp only [wrv, List.mem_cons] at h
    rcases h with rfl | rfl | h
    · rfl
    · rfl
    · exact wrv_one l u h
theorem wrv_set : ∀ (l : List Wr) (j : Nat) (x : Wr), ((wrv l).set (j * 2) (.int .u8 x.1)).set (j * 2 + 1) (.int .i64 x.2) = wrv (l.set j x)
  | [], j, x => rfl
  | v :: l, 0, x => rfl
  | v :: l, j + 1, x => by
    rw [show (j + 1) * 2 = j * 2 + 1 + 1 from by omega]
    simp only [wrv, List.set_cons_succ, wrv_set l j x]
/-- a row of writers that the call made -/
def WOwn (W : World) (B : Nat) (v : Value) (L : List Wr) : Prop := W.ownsRow B 49 2 v L.length (wrv L)
section
variable {W W' : World} {B B' p q : Nat} {v u : Value} {L M : List Wr} {la lb : Int}
theorem WOwn.sl (h : WOwn W B v L) : ∃ A c, v = .slice A L.length c ∧ L.length ≤ c ∧ ∀ j, j < L.length → ∃ g, A = some ⟨g, 0, none⟩ ∧ v.ownBlock = some g ∧ B ≤ g ∧ g < W.heap.size ∧ W.cell? ⟨g, j * 2, none⟩ = some (.int .u8 (L.getD j w0r).1) ∧ W.cell? ⟨g, j * 2 + 1, none⟩ = some (.int .i64 (L.getD j w0r).2) ∧ W.frozen? ⟨g, j * 2, none⟩ = false ∧ W.frozen? ⟨g, j * 2 + 1, none⟩ = false := by
  have hO := h
  unfold WOwn at hO
  rcases h.2 with ⟨rfl, h2⟩ | ⟨g, cap, cur, rfl, hB, hg, hn, hm, hs, ht⟩
  · have hL : L.length = 0 := h2
    exact ⟨none, 0, by rw [hL], by omega, fun j hj => by omega⟩
  · refine ⟨_, cap, rfl, hn, fun j hj => ⟨g, rfl, rfl, hB, (Array.getElem?_eq_some_iff.1 hg).1, ?_, ?_, hO.frozenAt _, hO.frozenAt _⟩⟩
    · rw [hO.cellAt _ (by omega)]; exact (wrv_at L j hj).1
    · rw [hO.cellAt _ (by omega)]; exact (wrv_at L j hj).2
theorem WOwn.nil (W : World) (B : Nat) : WOwn W B (.slice none 0 0) [] := World.ownsRow_nil _ _ _ _
theorem WOwn.tag (h : WOwn W B v L) : ∀ k, v.ownBlock = some k → ∃ cur, W.heap[k]? = some (.cells cur 49 (0, 0)) := fun k hk => by
  rcases h.2 with ⟨rfl, _⟩ | ⟨g, cap, cur, rfl, hb, hg, _⟩
  · cases hk
  · cases hk; exact ⟨cur, hg⟩
theorem WOwn.lt (h : WOwn W B v L) : ∀ k, v.ownBlock = some k → B ≤ k ∧ k < W.heap.size := World.ownsRow.lt h
theorem WOwn.base (h : WOwn W B v L) (hb : B' ≤ B) : WOwn W B' v L := by
  obtain ⟨h1, h2⟩ := h
  refine ⟨h1, ?_⟩
  rcases h2 with h2 | ⟨g', cap', cur, e, hB, rest⟩
  · exact .inl h2
  · exact .inr ⟨g', cap', cur, e, Nat.le_trans hb hB, rest⟩
theorem WOwn.set (h : WOwn W B v L) {g j : Nat} (hg : v.ownBlock = some g) (x : Wr) : WOwn ((W.setCell ⟨g, j * 2, none⟩ (.int .u8 x.1)).setCell ⟨g, j * 2 + 1, none⟩ (.int .i64 x.2)) B v (L.set j x) := by
  have hO := h
  unfold WOwn at hO ⊢
  rcases h.2 with ⟨rfl, h2⟩ | ⟨g', cap, cur, rfl, _⟩
  · cases hg
  · cases hg
    have e := ((hO.stored (j * 2) (.int .u8 x.1)).1.stored (j * 2 + 1) (.int .i64 x.2)).1
    rw [wrv_set] at e
    simpa using e
/-- what a call keeps that turns one object: all but that, and its row -/
structure Fr (W W' : World) (p : Nat) (v : Value) : Prop where
  os : W'.os = W.os
  tape : W'.tape = W.tape
  output : W'.output = W.output
  size : W.heap.size ≤ W'.heap.size
  block : ∀ k, k < W.heap.size → k ≠ p → v.ownBlock ≠ some k → W'.heap[k]? = W.heap[k]?
theorem Fr.of_below (h : Below W.heap.size W W') : Fr W W' p v := ⟨h.os, h.tape, h.output, h.size, fun k hk _ _ => h.block k hk⟩
theorem Fr.trans {W2 : World} (h : Fr W W' p v) (k : Fr W' W2 p v) : Fr W W2 p v :=
  ⟨k.os.trans h.os, k.tape.trans h.tape, k.output.trans h.output, Nat.le_trans h.size k.size, fun i hi h1 h2 => (k.block i (Nat.lt_of_lt_of_le hi h.size) h1 h2).trans (h.block i hi h1 h2)⟩
theorem Fr.setp (W : World) (p j : Nat) (x : Value) (v : Value) : Fr W (W.setCell ⟨p, j, none⟩ x) p v :=
  ⟨rfl, rfl, rfl, by simp [World.setCell], fun k hk h1 h2 => Below.heap_setCell W ⟨p, j, none⟩ x k h1⟩
theorem Fr.setr {g : Nat} (hg : v.ownBlock = some g) (j : Nat) (x : Value) : Fr W (W.setCell ⟨g, j, none⟩ x) p v :=
  ⟨rfl, rfl, rfl, by simp [World.setCell], fun k hk h1 h2 => Below.heap_setCell W ⟨g, j, none⟩ x k (fun e => h2 (by rw [hg, e]))⟩
theorem Fr.grown (hg : W.grownBy W' v.ownBlock) : Fr W W' p v := ⟨hg.os, hg.tape, hg.output, hg.size, fun k hk _ h2 => hg.block k hk (fun e => h2 e.symm)⟩
theorem Fr.below {w : World} (h : Below B w W) (f : Fr W W' p v) (hB : B ≤ W.heap.size) (hp : B ≤ p) (hv : ∀ k, v.ownBlock = some k → B ≤ k) : Below B w W' :=
  h.trans ⟨f.os, f.tape, f.output, f.size, fun k hk => f.block k (by omega) (by omega) (fun e => by have := hv k e; omega)⟩
/-- is a writer busy? -/
def busyB (x : Wr) : Bool := decide (x.1 = 1) || decide (x.1 = 2)
/-- an object of writers: its block, its row, its writers, its last timestamp -/
structure WrAt (W : World) (B p : Nat) (v : Value) (L : List Wr) (la : Int) (en : Nat) : Prop where
  hp : B ≤ p
  blk : Blk W p #[v, .int .i64 en, .int .i64 la] 47
  own : WOwn W B v L
  le : en ≤ L.length
  nb : ∀ j, j < en → busyB (L.getD j w0r) = false
  la0 : 0 ≤ la
  la1 : la ≤ 1048576
  st : ∀ x ∈ L, 0 ≤ x.1 ∧ x.1 ≤ 4
variable {en : Nat}
theorem WrAt.later (h : WrAt W B p v L la en) (hb : Below W.heap.size W W') : WrAt W' B p v L la en :=
  ⟨h.hp, h.blk.later hb, World.ownsRow.kept h.own (row := none) ⟨hb.os, hb.tape, hb.output, hb.size, fun k hk _ => hb.block k hk⟩ (by cases v.ownBlock <;> simp), h.le, h.nb, h.la0, h.la1, h.st⟩
theorem WrAt.plt (h : WrAt W B p v L la en) : p < W.heap.size := h.blk.lt
theorem WrAt.base (h : WrAt W B p v L la en) (hb : B' ≤ B) : WrAt W B' p v L la en := ⟨Nat.le_trans hb h.hp, h.blk, h.own.base hb, h.le, h.nb, h.la0, h.la1, h.st⟩
/-- two rows share nothing -/
def Apart (u v : Value) : Prop := ∀ k, u.ownBlock = some k → v.ownBlock ≠ some k
theorem WOwn.fr (h : WOwn W B u M) (f : Fr W W' p v) (h1 : ∀ k, u.ownBlock = some k → k ≠ p) (h2 : Apart u v) : WOwn W' B u M := by
  obtain ⟨h3, h4⟩ := h
  refine ⟨h3, ?_⟩
  rcases h4 with h4 | ⟨g, cap, cur, rfl, hB, hg, rest⟩
  · exact .inl h4
  · exact .inr ⟨g, cap, cur, rfl, hB, (f.block g (Array.getElem?_eq_some_iff.1 hg).1 (h1 g rfl) (h2 g rfl)).trans hg, rest⟩
theorem WOwn.ne (h : WOwn W B u M) {cs : Array Value} {t : TypeId} (hb : Blk W p cs t) (ht : t ≠ 49) : ∀ k, u.ownBlock = some k → k ≠ p := fun k hk e => by
  obtain ⟨cur, hc⟩ := h.tag k hk
  have h2 : W.heap[p]? = some (.cells cs t (0, 0)) := hb
  rw [e, h2] at hc
  cases hc
  exact ht rfl
/-- another object stays -/
theorem WrAt.fr (h : WrAt W B q u M lb en) (f : Fr W W' p v) {cs : Array Value} (hb : Blk W p cs 47) {L : List Wr} {B' : Nat} (hv : WOwn W B' v L) (hq : q ≠ p) (h2 : Apart u v) : WrAt W' B q u M lb en :=
  ⟨h.hp, (f.block q h.blk.lt hq (fun e => hv.ne h.blk (by decide) q e rfl)).trans h.blk, h.own.fr f (h.own.ne hb (by decide)) h2, h.le, h.nb, h.la0, h.la1, h.st⟩
end
end Go.Proofs.YtmkgipbepipjkaaDoor
