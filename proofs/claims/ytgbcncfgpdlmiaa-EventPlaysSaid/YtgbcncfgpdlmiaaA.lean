/- Events as they lie: their numbers, the headers of their pairs, and these. -/
import Derived.Test.YtgbcncfgpdlmiaaRW
import Derived.Test.YtgbcncfgpdlmiaaKP
namespace Go.Proofs.Ytgbcncfgpdlmiaa
open Go.ChangeShapes Go.WideShapes Go.ChangeAt Go.RowKit Go.Maps
set_option linter.unusedVariables false
set_option linter.unusedSimpArgs false

/-- a pair; an answer: which error, found, a value, pairs; an event: what, whose, which call, the answer -/
abbrev Pr := ByteArray × ByteArray
abbrev An := Int × Bool × ByteArray × List Pr
abbrev Ev := Int × Int × Int × An
def an0 : An := (0, false, { data := #[] }, [])
/-- the header of a slice -/
abbrev Hd := Option Addr × Nat × Nat
def hdv (h : Hd) : Value := .slice h.1 h.2.1 h.2.2
abbrev RE := Ev × Hd
def prc (p : Pr) : List Value := [.string p.1, .string p.2]
def evc (r : RE) : List Value := [.int .u8 r.1.1, .int .i64 r.1.2.1, .int .i64 r.1.2.2.1, .int .i64 r.1.2.2.2.1, .bool r.1.2.2.2.2.1, .string r.1.2.2.2.2.2.1, hdv r.2]
theorem prc_len (p : Pr) : (prc p).length = 2 := rfl
theorem evc_len (r : RE) : (evc r).length = 7 := rfl
/-- pairs that can be read -/
structure PO (W : World) (h : Hd) (ps : List Pr) : Prop where
  rd : RSl prc 2 W h.1 h.2.1 ps
  le : h.2.1 ≤ h.2.2
  nil : h.1 = none → h.2.1 = 0 ∧ h.2.2 = 0
/-- .. in memory of the call's own -/
structure POn (W : World) (B : Nat) (h : Hd) (ps : List Pr) : Prop where
  po : PO W h ps
  own : ∀ g, h.1.map (fun a => a.block) = some g → B ≤ g ∧ ∃ cur, W.heap[g]? = some (.cells cur 53 (0, 0))
section
variable {W W' : World} {B B' : Nat} {h : Hd} {ps : List Pr}
theorem PO.later (k : PO W h ps) (hb : Below W.heap.size W W') : PO W' h ps := ⟨k.rd.later hb, k.le, k.nil⟩
theorem PO.empty (W : World) : PO W (none, 0, 0) [] := ⟨RSl.nil W none, Nat.le_refl _, fun _ => ⟨rfl, rfl⟩⟩
theorem POn.lt (k : POn W B h ps) : ∀ g, h.1.map (fun a => a.block) = some g → B ≤ g ∧ g < W.heap.size := fun g e => by
  obtain ⟨h1, cur, hc⟩ := k.own g e
  exact ⟨h1, (Array.getElem?_eq_some_iff.1 hc).1⟩
theorem POn.later (k : POn W B h ps) (hb : Below W.heap.size W W') : POn W' B h ps := ⟨k.po.later hb, fun g e => by
  obtain ⟨h1, cur, hc⟩ := k.own g e
  exact ⟨h1, cur, (hb.block g (Array.getElem?_eq_some_iff.1 hc).1).trans hc⟩⟩
theorem POn.base (k : POn W B h ps) (hb : B' ≤ B) : POn W B' h ps := ⟨k.po, fun g e => ⟨Nat.le_trans hb (k.own g e).1, (k.own g e).2⟩⟩
theorem POn.keep (k : POn W B h ps) (hz : W.heap.size ≤ W'.heap.size) (hk : ∀ g, h.1.map (fun a => a.block) = some g → W'.heap[g]? = W.heap[g]?) : POn W' B h ps :=
  ⟨⟨k.po.rd.keep hz hk, k.po.le, k.po.nil⟩, fun g e => by
    obtain ⟨h1, cur, hc⟩ := k.own g e
    exact ⟨h1, cur, (hk g e).trans hc⟩⟩
theorem POn.empty (W : World) (B : Nat) : POn W B (none, 0, 0) [] := ⟨PO.empty W, fun g e => by cases e⟩
end
/-- a row of events that can be read; one of the call's own -/
structure EvS (W : World) (A : Option Addr) (n : Nat) (Rs : List RE) : Prop where
  rd : RSl evc 7 W A n Rs
  po : ∀ r ∈ Rs, PO W r.2 r.1.2.2.2.2.2.2
structure EvO (W : World) (B : Nat) (v : Value) (n : Nat) (Rs : List RE) : Prop where
  row : ROwn evc 7 W B 40 v n Rs
  po : ∀ r ∈ Rs, POn W B r.2 r.1.2.2.2.2.2.2
section
variable {W W' : World} {B B' n : Nat} {v : Value} {Rs : List RE} {A : Option Addr}
theorem EvS.later (k : EvS W A n Rs) (hb : Below W.heap.size W W') : EvS W' A n Rs := ⟨k.rd.later hb, fun r hr => (k.po r hr).later hb⟩
theorem EvO.later (k : EvO W B v n Rs) (hb : Below W.heap.size W W') : EvO W' B v n Rs := ⟨k.row.later hb, fun r hr => (k.po r hr).later hb⟩
theorem EvO.base (k : EvO W B v n Rs) (hb : B' ≤ B) : EvO W B' v n Rs := ⟨k.row.base hb, fun r hr => (k.po r hr).base hb⟩
theorem EvO.nil (W : World) (B : Nat) : EvO W B (.slice none 0 0) 0 [] := ⟨ROwn.nil0 _ _ _, fun r hr => by cases hr⟩
theorem EvO.evs {c : Nat} (k : EvO W B (.slice A n c) n Rs) : EvS W A n Rs := ⟨k.row.rsl evc_len, fun r hr => (k.po r hr).po⟩
theorem EvO.lt (k : EvO W B v n Rs) : ∀ i, v.ownBlock = some i → B ≤ i ∧ i < W.heap.size := k.row.lt
end
/-- how many events a task has -/
def cnt (L : List Ev) (t : Int) : Nat := (L.filter (fun e => decide (e.2.1 = t))).length
def cnts (L : List Ev) : List Value := [.int .i64 (cnt L 0 : Nat), .int .i64 (cnt L 1 : Nat), .int .i64 (cnt L 2 : Nat), .int .i64 (cnt L 3 : Nat), .int .i64 (cnt L 4 : Nat), .int .i64 (cnt L 5 : Nat)]
/-- the event that comes next of a task -/
def nextE (L : List Ev) (t : Int) (a : An) : Ev := (1 + (cnt L t % 3 : Nat), t, (cnt L t / 3 : Nat), a)
def recc (tasks : Int) (L : List Ev) (v : Value) : List Value := .int .i64 tasks :: cnts L ++ [v]
/-- a recorder -/
structure RcAt (W : World) (B p : Nat) (tasks : Int) (v : Value) (Rs : List RE) : Prop where
  hp : B ≤ p
  blk : Blk W p (recc tasks (Rs.map Prod.fst) v).toArray 72
  row : EvO W B v Rs.length Rs
end Go.Proofs.Ytgbcncfgpdlmiaa
