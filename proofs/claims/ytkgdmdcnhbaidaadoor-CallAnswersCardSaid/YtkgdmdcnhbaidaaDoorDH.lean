/- What the document's Read tells; what lies while it reads. -/
import Derived.Test.YtkgdmdcnhbaidaaDoorDG
import Derived.Test.YtkgdmdcnhbaidaaDoorDF
import Derived.Test.YtkgdmdcnhbaidaaDoorDC
import Derived.Test.YtkgdmdcnhbaidaaDoorRE
namespace Go.Proofs.YtkgdmdcnhbaidaaDoor
open Go.ChangeShapes Go.WideShapes Go.ChangeAt Go.RowKit
set_option linter.unusedVariables false
set_option linter.unusedSimpArgs false

theorem tolL_len : ∀ l : List UInt8, (tolL l).length ≤ l.length
  | [] => Nat.le_refl _
  | [_] => Nat.zero_le _
  | a :: b :: l => by
    have := tolL_len l
    show (tolL l).length + 1 ≤ l.length + 1 + 1
    omega
def tolP (s : ByteArray) : ByteArray := ofL (tolL s.data.toList)
theorem tolP_size (s : ByteArray) : (tolP s).size ≤ s.size := tolL_len s.data.toList
def rprs : List ByteArray → List Pr
  | [] => []
  | [a] => [(tolP a, tolP emp)]
  | a :: b :: l => (tolP a, tolP b) :: rprs l
theorem rprs_step (l : List ByteArray) (m : Nat) (a : ByteArray) (h : l[m]? = some a) : rprs (l.drop m) = (tolP a, tolP (l.getD (m + 1) emp)) :: rprs (l.drop (m + 2)) := by
  have h0 : (l.drop m)[0]? = some a := by rw [List.getElem?_drop]; exact h
  have h1 : l.getD (m + 1) emp = (l.drop m).getD 1 emp := by rw [List.getD_eq_getElem?_getD, List.getD_eq_getElem?_getD, List.getElem?_drop]
  have h2 : l.drop (m + 2) = (l.drop m).drop 2 := by rw [List.drop_drop]
  rw [h1, h2]
  generalize l.drop m = d at *
  match d, h0 with
  | [x], h0 =>
    have e : x = a := by simpa using h0
    rw [e]; rfl
  | x :: y :: r, h0 =>
    have e : x = a := by simpa using h0
    rw [e]; rfl
theorem rprs_nil {l : List ByteArray} {m : Nat} (h : l.length ≤ m) : rprs (l.drop m) = [] := by rw [List.drop_eq_nil_of_le h]; rfl
theorem rprs_len : ∀ l : List ByteArray, (rprs l).length ≤ l.length
  | [] => Nat.le_refl _
  | [_] => Nat.le_refl _
  | a :: b :: l => by
    have := rprs_len l
    show (rprs l).length + 1 ≤ l.length + 1 + 1
    omega
theorem rprs_sz {n : Nat} : ∀ l : List ByteArray, (∀ x ∈ l, x.size ≤ n) → ∀ p ∈ rprs l, p.1.size ≤ n ∧ p.2.size ≤ n
  | [], _, p, h => by cases h
  | [a], h, p, hp => by
    have e : p = (tolP a, tolP emp) := by simpa [rprs] using hp
    subst e
    exact ⟨Nat.le_trans (tolP_size a) (h a (by simp)), Nat.le_trans (tolP_size emp) (Nat.zero_le _)⟩
  | a :: b :: l, h, p, hp => by
    rcases List.mem_cons.1 (show p ∈ (tolP a, tolP b) :: rprs l from hp) with e | e
    · subst e
      exact ⟨Nat.le_trans (tolP_size a) (h a (by simp)), Nat.le_trans (tolP_size b) (h b (by simp))⟩
    · exact rprs_sz l (fun x hx => h x (by simp [hx])) p e
/-- what it reads, and whether that tells the text again -/
def rAs (s : ByteArray) : As := (nuV ((wordsOf s).getD 0 emp), decide ((wordsOf s).getD 1 emp = { data := #[49] }), tolP ((wordsOf s).getD 2 emp), rprs ((wordsOf s).drop 3))
def okB (s : ByteArray) : Bool := decide (telT (rAs s) = s)
def rbP (s : ByteArray) : As := if okB s then rAs s else as0
def RREnd (s : ByteArray) (w : World) (e : Ending) (w' : World) : Prop := ∃ v, e = .returned (.tuple #[asV (rbP s) v, .int .i64 (if okB s then 0 else 4)]) ∧ ROwn pvc 2 w' w.heap.size 42 v (rbP s).2.2.2.length (rbP s).2.2.2 ∧ Below w.heap.size w w'
/-- what lies while an answer is read: the words, the answer px, what is handed back pr, the pairs' row behind px -/
structure DW (w W : World) (px pr : Nat) (A : Option Addr) (n : Nat) (ws : List ByteArray) (er : Int) (fo : Bool) (va : ByteArray) (v : Value) (L : List Pr) : Prop where
  wd : RSl wdc 1 W A n ws
  wg : ∀ g o, A = some ⟨g, o, none⟩ → g < px
  bx : Blk W px #[.int .i64 er, .bool fo, .string va, v] 37
  br : Blk W pr #[.int .i64 0, .bool false, .string { data := #[] }, .slice none 0 0] 37
  lo : Below w.heap.size w W
  o1 : w.heap.size ≤ pr
  o2 : pr < px
  o5 : px + 1 ≤ W.heap.size
  row : ROwn pvc 2 W (px + 1) 42 v L.length L
section
variable {w W W' : World} {px pr n : Nat} {A : Option Addr} {ws : List ByteArray} {er : Int} {fo : Bool} {va : ByteArray} {v : Value} {L : List Pr}
theorem DW.later (h : DW w W px pr A n ws er fo va v L) (hb : Below W.heap.size W W') : DW w W' px pr A n ws er fo va v L := ⟨h.wd.later hb, h.wg, h.bx.later hb, h.br.later hb, stepB h.lo hb, h.o1, h.o2, Nat.le_trans h.o5 hb.size, h.row.later hb⟩
theorem RSl.lowW {B : Nat} (h : RSl wdc 1 W A n ws) (hg : ∀ g o, A = some ⟨g, o, none⟩ → g < B) (hb : Below B W W') : RSl wdc 1 W' A n ws :=
  ⟨h.1, fun hn => by
    obtain ⟨g, off, hA, hl, hc⟩ := h.2 hn
    exact ⟨g, off, hA, Nat.lt_of_lt_of_le hl hb.size, fun j x hx i hi => (hb.cell (p := ⟨g, off + j * 1 + i, none⟩) (hg g off hA)).trans (hc j x hx i hi)⟩⟩
/-- the pairs' row was put behind, and stored -/
theorem DW.app {v2 : Value} {L2 : List Pr} (h : DW w W px pr A n ws er fo va v L) (hg : W.grownBy W' v.ownBlock) (hr : ROwn pvc 2 W' (px + 1) 42 v2 L2.length L2) : DW w (W'.setCell ⟨px, 3, none⟩ v2) px pr A n ws er fo va v2 L2 ∧ Below px W (W'.setCell ⟨px, 3, none⟩ v2) := by
  have h1 := h.o1
  have h2 := h.o2
  have hb : Below (px + 1) W W' := (Below.refl _ _).grown hg h.o5 (fun k e => (h.row.lt k e).1)
  have hb1 : Below px W (W'.setCell ⟨px, 3, none⟩ v2) := (hb.mono (by omega)).setCell (p := ⟨px, 3, none⟩) (show px ≤ px by omega) _
  have hx : Blk W' px #[.int .i64 er, .bool fo, .string va, v] 37 := (hb.block px (by omega)).trans h.bx
  exact ⟨⟨h.wd.lowW h.wg hb1, h.wg, hx.set (j := 3) _, (hb1.block pr h2).trans h.br, h.lo.trans (hb1.mono (by omega)), h1, h2, by simp [World.setCell]; exact Nat.le_trans h.o5 hg.size, hr.kept (grown_set _ _ _ _) (fun i e e2 => by have h9 := (hr.lt i e).1; have h8 := Option.some.inj e2; have h7 : i = px := h8; omega)⟩, hb1⟩
theorem rread_err {s : ByteArray} (h : okB s = false) (hlo : Below w.heap.size w W) : RREnd s w (.returned (.tuple #[.agg #[.int .i64 0, .bool false, .string { data := #[] }, .slice none 0 0], .int .i64 4])) W := by
  have e : rbP s = as0 := by unfold rbP; rw [h]; rfl
  refine ⟨.slice none 0 0, by rw [e, h]; rfl, by rw [e]; exact ROwn.nil0 _ _ _, hlo⟩
theorem rread_ok {s : ByteArray} {m : Nat} (h : okB s = true) (he : rAs s = (er, fo, va, L)) (hn : m = L.length) (row : ROwn pvc 2 W w.heap.size 42 v m L) (hlo : Below w.heap.size w W) : RREnd s w (.returned (.tuple #[.agg #[.int .i64 er, .bool fo, .string va, v], .int .i64 0])) W := by
  subst hn
  have e : rbP s = (er, fo, va, L) := by unfold rbP; rw [h, ← he]; rfl
  refine ⟨v, by rw [e, h]; rfl, by rw [e]; exact row, hlo⟩
end
end Go.Proofs.YtkgdmdcnhbaidaaDoor
