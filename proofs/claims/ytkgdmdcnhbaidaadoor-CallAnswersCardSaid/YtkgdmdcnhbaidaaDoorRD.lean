/- Read. -/
import Derived.Test.YtkgdmdcnhbaidaaDoorG
import Derived.Test.YtkgdmdcnhbaidaaDoorM
import Derived.Deep.LoopGhost
import Derived.Lib.Hide
namespace Go.Proofs.YtkgdmdcnhbaidaaDoor
open Go.ChangeShapes Go.WideShapes Go.ChangeAt Go.RowKit
set_option linter.unusedVariables false
set_option linter.unusedSimpArgs false

def pairsR : Nat → Rd_ → List Pr × Rd_
  | 0, r => ([], r)
  | f + 1, r => if (!overR r && !r.2) = true then (((txtR true r).1, (txtR true (txtR true r).2).1) :: (pairsR f (txtR true (txtR true r).2).2).1, (pairsR f (txtR true (txtR true r).2).2).2) else ([], r)
def ra1 (s : ByteArray) : Int × Rd_ := numR true (wordsOf s, false)
def ra2 (s : ByteArray) : ByteArray × Rd_ := nextR (ra1 s).2
def ra3 (s : ByteArray) : ByteArray × Rd_ := txtR true (ra2 s).2
def ra4 (s : ByteArray) : List Pr × Rd_ := pairsR (ra3 s).2.1.length (ra3 s).2
/-- an answer: err, found, value, pairs -/
abbrev As := Int × Bool × ByteArray × List Pr
def as0 : As := (0, false, emp, [])
def okA (s : ByteArray) : Bool := !(ra4 s).2.2 && (decide ((ra2 s).1 = { data := #[48] }) || decide ((ra2 s).1 = { data := #[49] }))
def asP (s : ByteArray) : As := if okA s then ((ra1 s).1, decide ((ra2 s).1 = { data := #[49] }), (ra3 s).1, (ra4 s).1) else as0
def asV (a : As) (v : Value) : Value := .agg #[.int .i64 a.1, .bool a.2.1, .string a.2.2.1, v]
/-- what Read ends in -/
def ReadEnd (s : ByteArray) (w : World) (e : Ending) (w' : World) : Prop := ∃ v, e = .returned (.tuple #[asV (asP s) v, .int .i64 (if okA s then 0 else 4)]) ∧ ROwn pvc 2 w' w.heap.size 42 v (asP s).2.2.2.length (asP s).2.2.2 ∧ Below w.heap.size w w'
theorem pvc_len (p : Pr) : (pvc p).length = 2 := rfl
theorem elemP : RElem pvc 2 Tryd.prog 35 42 32 where
  und := Tryd.underlying35
  info := by
    have h : (Tryd.prog.info? 42).map (fun i => (i.zero, i.size, i.bytes)) = some (some (.agg #[.string ByteArray.empty, .string ByteArray.empty]), 2, 32) := by kernel_rfl
    cases hi : Tryd.prog.info? 42 with
    | none => rw [hi] at h; cases h
    | some i => rw [hi] at h; simp only [Option.map_some, Option.some.injEq, Prod.mk.injEq] at h; exact ⟨i, _, rfl, h.1, h.2.1, h.2.2, rfl⟩
  pos := by decide
  len := pvc_len
  one := fun x u hu => by simp [pvc] at hu; rcases hu with rfl | rfl <;> rfl
theorem RdO.low {W W' : World} {p B : Nat} {r : Rd_} (h : RdO W p r) (hp : p < B) (hb : Below B W W') : RdO W' p r := by
  obtain ⟨g, o, c, h⟩ := h
  have hl := h.lo
  exact ⟨g, o, c, (hb.block p hp).trans h.blk, h.ne, h.lo, Nat.lt_of_lt_of_le h.lt hb.size, h.le, fun j x e => (hb.cell (p := ⟨g, o + j, none⟩) (show g < B by omega)).trans (h.at_ j x e)⟩
theorem Gl.low {W W' : World} {B : Nat} (h : Gl W) (hB : 8 ≤ B) (hb : Below B W W') : Gl W' := h.at8 (hb.mono hB)
/-- what lies while an answer is read: the reader p, the answer p + 1, what is handed back pr, the pairs' row from p + 2 on -/
structure RW_ (w W : World) (p px pr : Nat) (r : Rd_) (er : Int) (fo : Bool) (va : ByteArray) (v : Value) (L : List Pr) : Prop where
  rd : RdO W p r
  bx : Blk W px #[.int .i64 er, .bool fo, .string va, v] 37
  br : Blk W pr #[.int .i64 0, .bool false, .string { data := #[] }, .slice none 0 0] 37
  gl : Gl W
  lo : Below w.heap.size w W
  o1 : w.heap.size ≤ pr
  o2 : pr < p
  o3 : px = p + 1
  o4 : 8 ≤ pr
  o5 : p + 2 ≤ W.heap.size
  row : ROwn pvc 2 W (p + 2) 42 v L.length L
section
variable {w W W' : World} {p px pr : Nat} {r r' : Rd_} {er : Int} {fo : Bool} {va : ByteArray} {v : Value} {L : List Pr}
theorem RW_.later (h : RW_ w W p px pr r er fo va v L) (hb : Below W.heap.size W W') : RW_ w W' p px pr r er fo va v L := ⟨h.rd.later hb, h.bx.later hb, h.br.later hb, h.gl.later hb, stepB h.lo hb, h.o1, h.o2, h.o3, h.o4, Nat.le_trans h.o5 hb.size, h.row.later hb⟩
theorem RW_.call (h : RW_ w W p px pr r er fo va v L) (hr : RdO W' p r') (hg : W.grownBy W' (some p)) : RW_ w W' p px pr r' er fo va v L := by
  have h1 := h.o1
  have h2 := h.o2
  have h3 := h.o3
  have h4 := h.o4
  exact ⟨hr, h.bx.grown hg (fun e => by have := Option.some.inj e; omega), h.br.grown hg (fun e => by have := Option.some.inj e; omega), h.gl.grown hg (by omega), h.lo.grown hg h.lo.size (fun k e => by have := Option.some.inj e; omega), h1, h2, h3, h4, Nat.le_trans h.o5 hg.size, h.row.kept hg (fun i e e2 => by have := (h.row.lt i e).1; have := Option.some.inj e2; omega)⟩
theorem RW_.st (h : RW_ w W p px pr r er fo va v L) (j : Nat) (x : Value) {er2 : Int} {fo2 : Bool} {va2 : ByteArray} (e : (#[.int .i64 er, .bool fo, .string va, v] : Array Value).setIfInBounds j x = #[.int .i64 er2, .bool fo2, .string va2, v]) : RW_ w (W.setCell ⟨px, j, none⟩ x) p px pr r er2 fo2 va2 v L := by
  have h1 := h.o1
  have h2 := h.o2
  have h3 := h.o3
  exact ⟨h.rd.other (by omega), by rw [← e]; exact h.bx.set _, h.br.other (by omega) _, h.gl.grown (p := px) (grown_set _ _ _ _) (by have := h.o4; omega), h.lo.setCell (p := ⟨px, j, none⟩) (show w.heap.size ≤ px by omega) _, h1, h2, h3, h.o4, by simp [World.setCell]; exact h.o5, h.row.kept (grown_set _ _ _ _) (fun i e e2 => by have := (h.row.lt i e).1; have h8 := Option.some.inj e2; have h7 : i = px := h8; omega)⟩
theorem RdO.oth {q j : Nat} {x : Value} (h : RdO W p r) (hq : p < q) : RdO (W.setCell ⟨q, j, none⟩ x) p r := h.other hq
theorem RW_.oth (h : RW_ w W p px pr r er fo va v L) {q j : Nat} (x : Value) (hq : px < q) (hv : v.ownBlock ≠ some q) : RW_ w (W.setCell ⟨q, j, none⟩ x) p px pr r er fo va v L := by
  have h1 := h.o1
  have h2 := h.o2
  have h3 := h.o3
  exact ⟨h.rd.other (by omega), h.bx.other (by omega) _, h.br.other (by omega) _, h.gl.grown (p := q) (grown_set _ _ _ _) (by have := h.o4; omega), h.lo.setCell (p := ⟨q, j, none⟩) (show w.heap.size ≤ q by omega) _, h1, h2, h3, h.o4, by simp [World.setCell]; exact h.o5, h.row.kept (grown_set _ _ _ _) (fun i e e2 => hv (by rw [e]; exact e2))⟩
/-- the pairs' row was put behind, and stored -/
theorem RW_.app {v2 : Value} {L2 : List Pr} (h : RW_ w W p px pr r er fo va v L) (hg : W.grownBy W' v.ownBlock) (hr : ROwn pvc 2 W' (p + 2) 42 v2 L2.length L2) : RW_ w (W'.setCell ⟨px, 3, none⟩ v2) p px pr r er fo va v2 L2 := by
  have h1 := h.o1
  have h2 := h.o2
  have h3 := h.o3
  have h4 := h.o4
  have hb : Below (p + 2) W W' := (Below.refl _ _).grown hg h.o5 (fun k e => (h.row.lt k e).1)
  have hb1 : Below (p + 1) W (W'.setCell ⟨px, 3, none⟩ v2) := (hb.mono (by omega)).setCell (p := ⟨px, 3, none⟩) (show p + 1 ≤ px by omega) _
  have hx : Blk W' px #[.int .i64 er, .bool fo, .string va, v] 37 := (hb.block px (by omega)).trans h.bx
  exact ⟨h.rd.low (by omega) hb1, hx.set (j := 3) _, (hb1.block pr (by omega)).trans h.br, h.gl.low (by omega) hb1, h.lo.trans (hb1.mono (by omega)), h1, h2, h3, h4, by simp [World.setCell]; exact Nat.le_trans h.o5 hg.size, hr.kept (grown_set _ _ _ _) (fun i e e2 => by have h9 := (hr.lt i e).1; have h8 := Option.some.inj e2; have h7 : i = px := h8; omega)⟩
theorem set37 {W : World} {q : Nat} {c : Array Value} (h : Blk W q c 37) (hc : c.size = 4) (v0 v1 v2 v3 : Value) {w : World} {B : Nat} (hb : Below B w W) (hq : B ≤ q) :
    Blk ((((W.setCell ⟨q, 0, none⟩ v0).setCell ⟨q, 1, none⟩ v1).setCell ⟨q, 2, none⟩ v2).setCell ⟨q, 3, none⟩ v3) q #[v0, v1, v2, v3] 37 ∧
    Below B w ((((W.setCell ⟨q, 0, none⟩ v0).setCell ⟨q, 1, none⟩ v1).setCell ⟨q, 2, none⟩ v2).setCell ⟨q, 3, none⟩ v3) ∧
    ∀ (B' n : Nat) (v : Value) (L : List Pr), q < B' → ROwn pvc 2 W B' 42 v n L → ROwn pvc 2 ((((W.setCell ⟨q, 0, none⟩ v0).setCell ⟨q, 1, none⟩ v1).setCell ⟨q, 2, none⟩ v2).setCell ⟨q, 3, none⟩ v3) B' 42 v n L := by
  refine ⟨?_, (((hb.setCell (p := ⟨q, 0, none⟩) hq v0).setCell (p := ⟨q, 1, none⟩) hq v1).setCell (p := ⟨q, 2, none⟩) hq v2).setCell (p := ⟨q, 3, none⟩) hq v3, fun B' n v L hB h => ?_⟩
  · have h7 := (((h.set (j := 0) v0).set (j := 1) v1).set (j := 2) v2).set (j := 3) v3
    have e : (((c.setIfInBounds 0 v0).setIfInBounds 1 v1).setIfInBounds 2 v2).setIfInBounds 3 v3 = #[v0, v1, v2, v3] := by
      obtain ⟨l⟩ := c
      have hc : l.length = 4 := hc
      match l, hc with
      | [a0, a1, a2, a3], _ => simp only [List.setIfInBounds_toArray, List.set_cons_zero, List.set_cons_succ]
    rw [e] at h7
    exact h7
  · have hk : ∀ (W' : World) (j : Nat) (x : Value), ROwn pvc 2 W' B' 42 v n L → ROwn pvc 2 (W'.setCell ⟨q, j, none⟩ x) B' 42 v n L := fun W' j x h => h.kept (grown_set _ _ _ _) (fun i e e2 => by have h9 := (h.lt i e).1; have h8 := Option.some.inj e2; have h7 : i = q := h8; omega)
    exact hk _ _ _ (hk _ _ _ (hk _ _ _ (hk _ _ _ h)))
theorem read_err {s : ByteArray} (h : okA s = false) (hlo : Below w.heap.size w W) : ReadEnd s w (.returned (.tuple #[.agg #[.int .i64 0, .bool false, .string { data := #[] }, .slice none 0 0], .int .i64 4])) W := by
  have e : asP s = as0 := by unfold asP; rw [h]; rfl
  refine ⟨.slice none 0 0, by rw [e, h]; rfl, by rw [e]; exact ROwn.nil0 _ _ _, hlo⟩
theorem read_ok {s : ByteArray} {n : Nat} (h : okA s = true) (he : asP s = (er, fo, va, L)) (hn : n = L.length) (row : ROwn pvc 2 W w.heap.size 42 v n L) (hlo : Below w.heap.size w W) : ReadEnd s w (.returned (.tuple #[.agg #[.int .i64 er, .bool fo, .string va, v], .int .i64 0])) W := by
  subst hn
  refine ⟨v, by rw [he, h]; rfl, by rw [he]; exact row, hlo⟩
theorem txtR_len (h : (!overR r && !r.2) = true) : (txtR true r).2.1.length + 1 = r.1.length := by
  obtain ⟨ws, b⟩ := r
  cases ws with
  | nil => unfold overR at h; cases b <;> simp at h
  | cons a l => rfl
theorem txtR_le : (txtR true r).2.1.length ≤ r.1.length := by
  obtain ⟨ws, b⟩ := r
  cases ws with
  | nil => exact Nat.le_refl _
  | cons a l => exact Nat.le_succ _
theorem pairsR_fuel : ∀ (f f' : Nat) (r : Rd_), r.1.length ≤ f → r.1.length ≤ f' → pairsR f r = pairsR f' r
  | 0, 0, r, _, _ => rfl
  | 0, f' + 1, r, h, _ => by
    rw [pairsR, pairsR]
    split
    · rename_i hg
      have := txtR_len hg
      omega
    · rfl
  | f + 1, 0, r, _, h => by
    rw [pairsR, pairsR]
    split
    · rename_i hg
      have := txtR_len hg
      omega
    · rfl
  | f + 1, f' + 1, r, h, h' => by
    rw [pairsR, pairsR]
    split
    · rename_i hg
      have h1 := txtR_len hg
      have h2 := txtR_le (r := (txtR true r).2)
      rw [pairsR_fuel f f' _ (by omega) (by omega)]
    · rfl
def goR (r : Rd_) : Bool := !overR r && !r.2
def prR (r : Rd_) : List Pr × Rd_ := pairsR r.1.length r
theorem prR_no (h : goR r = false) : prR r = ([], r) := by
  unfold prR
  cases hl : r.1.length with
  | zero => rfl
  | succ n => rw [pairsR, if_neg (by unfold goR at h; rw [h]; decide)]
theorem prR_yes (h : goR r = true) : prR r = (((txtR true r).1, (txtR true (txtR true r).2).1) :: (prR (txtR true (txtR true r).2).2).1, (prR (txtR true (txtR true r).2).2).2) := by
  have h1 := txtR_len h
  have h2 := txtR_le (r := (txtR true r).2)
  unfold prR
  rw [pairsR_fuel _ ((txtR true r).2.1.length + 1) r (Nat.le_refl _) (by omega), pairsR, if_pos (show (!overR r && !r.2) = true from h), pairsR_fuel _ _ (txtR true (txtR true r).2).2 h2 (Nat.le_refl _)]
end
end Go.Proofs.YtkgdmdcnhbaidaaDoor
