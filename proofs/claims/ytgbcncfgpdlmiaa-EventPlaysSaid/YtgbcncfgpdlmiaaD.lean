/- An event that comes to a recorder. -/
import Derived.Test.YtgbcncfgpdlmiaaC
import Derived.StillTailTactics
namespace Go.Proofs.Ytgbcncfgpdlmiaa
open Go.ChangeShapes Go.WideShapes Go.ChangeAt Go.RowKit Go.Maps
set_option linter.unusedVariables false
set_option linter.unusedSimpArgs false

theorem elemEv : RElem evc 7 Try.prog 32 40 80 where
  und := Try.underlying32
  info := by
    have h : (Try.prog.info? 40).map (fun i => (i.zero, i.size, i.bytes)) = some (some (.agg #[.int .u8 0, .int .i64 0, .int .i64 0, .int .i64 0, .bool false, .string { data := #[] }, .slice none 0 0]), 7, 80) := by kernel_rfl
    cases hi : Try.prog.info? 40 with
    | none => rw [hi] at h; cases h
    | some i => rw [hi] at h; simp only [Option.map_some, Option.some.injEq, Prod.mk.injEq] at h; exact ⟨i, _, rfl, h.1, h.2.1, h.2.2, rfl⟩
  pos := by decide
  len := evc_len
  one := fun x u hu => by simp [evc, hdv] at hu; rcases hu with rfl | rfl | rfl | rfl | rfl | rfl | rfl <;> rfl
def OwnX (wh t cl er : Int) (fo : Bool) (va : ByteArray) (ps : List Pr) (w : World) (x : Ending) (w' : World) : Prop := ∃ A n c, x = .returned (.agg #[.int .u8 wh, .int .i64 t, .int .i64 cl, .int .i64 er, .bool fo, .string va, .slice A n c]) ∧ POn w' w.heap.size (A, n, c) ps ∧ n = ps.length ∧ Below w.heap.size w w'
theorem own_x (wh t cl er : Int) (fo : Bool) (va : ByteArray) (ps : List Pr) (A : Option Addr) (n c : Nat) (w : World) (hp : PO w (A, n, c) ps) (hn : n ≤ 100000) : Calls Try.prog 50 #[.agg #[.int .u8 wh, .int .i64 t, .int .i64 cl, .int .i64 er, .bool fo, .string va, .slice A n c]] w (OwnX wh t cl er fo va ps w) := by
  refine (own_any (wh, t, cl, er, fo, va, ps) (A, n, c) w hp hn).mono ?_
  rintro e w1 ⟨⟨A1, n1, c1⟩, rfl, h1, h2, h3⟩
  exact ⟨A1, n1, c1, rfl, h1, h2, h3⟩
theorem cnt_app (L : List Ev) (e : Ev) (t : Int) : cnt (L ++ [e]) t = cnt L t + if e.2.1 = t then 1 else 0 := by
  unfold cnt
  rw [List.filter_append, List.length_append]
  by_cases h : e.2.1 = t <;> simp [h]
theorem cnt_le (L : List Ev) (t : Int) : cnt L t ≤ L.length := List.length_filter_le _ _
/-- whether it may come; the history then -/
def addC (tasks : Int) (L : List Ev) (wh t : Int) : Int := if t < 0 ∨ tasks ≤ t then 1 else if wh = 1 + (cnt L t % 3 : Nat) then 0 else 7
def addL (tasks : Int) (L : List Ev) (wh t : Int) (a : An) : List Ev := if addC tasks L wh t = 0 then L ++ [(wh, t, ((cnt L t / 3 : Nat) : Int), a)] else L
theorem recc_inc {tasks : Int} {L : List Ev} {v : Value} {e : Ev} {k : Nat} (hk : k < 6) (he : e.2.1 = (k : Int)) : (recc tasks L v).toArray.setIfInBounds (1 + k) (.int .i64 ((cnt L (k : Int) : Nat) + 1 : Int)) = (recc tasks (L ++ [e]) v).toArray := by
  obtain ⟨a, t, c, an⟩ := e
  simp only at he
  subst he
  have hc : k = 0 ∨ k = 1 ∨ k = 2 ∨ k = 3 ∨ k = 4 ∨ k = 5 := by omega
  rcases hc with rfl | rfl | rfl | rfl | rfl | rfl <;> simp [recc, cnts, cnt_app]
theorem recc_at {tasks : Int} {L : List Ev} {v : Value} {k : Nat} (hk : k < 6) : (recc tasks L v)[1 + k]? = some (.int .i64 (cnt L (k : Int) : Nat)) := by
  have hc : k = 0 ∨ k = 1 ∨ k = 2 ∨ k = 3 ∨ k = 4 ∨ k = 5 := by omega
  rcases hc with rfl | rfl | rfl | rfl | rfl | rfl <;> rfl
theorem recc_row {tasks : Int} {L : List Ev} {v v' : Value} : (recc tasks L v).toArray.setIfInBounds 7 v' = (recc tasks L v').toArray := by simp [recc, cnts]
/-- all but the recorder and its row stays -/
structure FrR (w w' : World) (p : Nat) (v : Value) : Prop where
  os : w'.os = w.os
  tape : w'.tape = w.tape
  output : w'.output = w.output
  size : w.heap.size ≤ w'.heap.size
  block : ∀ k, k < w.heap.size → k ≠ p → v.ownBlock ≠ some k → w'.heap[k]? = w.heap[k]?
def Nw (w : World) (v v' : Value) : Prop := ∀ k, v'.ownBlock = some k → v.ownBlock = some k ∨ w.heap.size ≤ k
theorem Nw.refl {w : World} {v : Value} : Nw w v v := fun _ h => .inl h
section
variable {W W' w w' w2 : World} {B p : Nat} {tasks : Int} {v v' v2 : Value} {Rs : List RE}
variable {hd : Hd} {ps : List Pr}
theorem RcAt.later (h : RcAt W B p tasks v Rs) (hb : Below W.heap.size W W') : RcAt W' B p tasks v Rs := ⟨h.hp, h.blk.later hb, h.row.later hb⟩
theorem RcAt.base {B' : Nat} (h : RcAt W B p tasks v Rs) (hb : B' ≤ B) : RcAt W B' p tasks v Rs := ⟨Nat.le_trans hb h.hp, h.blk, h.row.base hb⟩
theorem FrR.of_below (h : Below w.heap.size w w') : FrR w w' p v := ⟨h.os, h.tape, h.output, h.size, fun k hk _ _ => h.block k hk⟩
theorem FrR.trans (h : FrR w w' p v) (k : FrR w' w2 p v') (hn : Nw w v v') : FrR w w2 p v :=
  ⟨k.os.trans h.os, k.tape.trans h.tape, k.output.trans h.output, Nat.le_trans h.size k.size, fun i hi h1 h2 => (k.block i (Nat.lt_of_lt_of_le hi h.size) h1 (fun e => by
    rcases hn i e with e | e
    · exact h2 e
    · omega)).trans (h.block i hi h1 h2)⟩
theorem FrR.set (j : Nat) (u : Value) : FrR W (W.setCell ⟨p, j, none⟩ u) p v := ⟨rfl, rfl, rfl, by simp, fun k hk h1 _ => (grown_set W p j u).block k hk (fun e => h1 (Option.some.inj e))⟩
theorem FrR.grow (hg : W.grownBy W' v.ownBlock) : FrR W W' p v := ⟨hg.os, hg.tape, hg.output, hg.size, fun k hk _ h2 => hg.block k hk (fun e => h2 e.symm)⟩
theorem FrR.below (h : FrR w w' p v) {B : Nat} {w0 : World} (hb : Below B w0 w) (hB : B ≤ w.heap.size) (hp : B ≤ p) (hv : ∀ k, v.ownBlock = some k → B ≤ k) (hsz : B ≤ w0.heap.size ∨ True) : Below B w0 w' :=
  ⟨h.os.trans hb.os, h.tape.trans hb.tape, h.output.trans hb.output, Nat.le_trans hb.size h.size, fun k hk => (h.block k (Nat.lt_of_lt_of_le hk hB) (by omega) (fun e => by have := hv k e; omega)).trans (hb.block k hk)⟩
theorem POn.notR (h : POn W B hd ps) (hr : RcAt W B p tasks v Rs) : ∀ g, hd.1.map (fun a => a.block) = some g → g ≠ p ∧ v.ownBlock ≠ some g := fun g e => by
  obtain ⟨_, cur, hc⟩ := h.own g e
  refine ⟨fun e2 => ?_, fun e2 => ?_⟩
  · have hb : W.heap[p]? = some (.cells _ 72 (0, 0)) := hr.blk
    rw [← e2, hc] at hb; cases hb
  · obtain ⟨cur2, hc2⟩ := hr.row.row.tag g e2
    rw [hc] at hc2; cases hc2
end
end Go.Proofs.Ytgbcncfgpdlmiaa
