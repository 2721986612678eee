/- What a writer is turned into. -/
import Derived.Test.YtmkgipbepipjkaaDoorC
import Derived.Deep.LoopGhost
namespace Go.Proofs.YtmkgipbepipjkaaDoor
open Go.ChangeShapes Go.WideShapes Go.ChangeAt Go.RowKit
set_option linter.unusedVariables false
set_option linter.unusedSimpArgs false

/-- the table of what a writer may become -/
def TabAt (W : World) : Prop := W.cell? ⟨0, 0, none⟩ = some (.int .u8 0) ∧ W.cell? ⟨0, 1, none⟩ = some (.int .u8 12) ∧ W.cell? ⟨0, 2, none⟩ = some (.int .u8 16) ∧ W.cell? ⟨0, 3, none⟩ = some (.int .u8 0) ∧ W.cell? ⟨0, 4, none⟩ = some (.int .u8 0)
theorem TabAt.lt {W : World} (h : TabAt W) : 0 < W.heap.size := lt_of_cell h.1
theorem TabAt.later {W W' : World} (h : TabAt W) (hb : Below W.heap.size W W') : TabAt W' :=
  have hl := h.lt
  ⟨(hb.cell (p := ⟨0, 0, none⟩) hl).trans h.1, (hb.cell (p := ⟨0, 1, none⟩) hl).trans h.2.1, (hb.cell (p := ⟨0, 2, none⟩) hl).trans h.2.2.1, (hb.cell (p := ⟨0, 3, none⟩) hl).trans h.2.2.2.1, (hb.cell (p := ⟨0, 4, none⟩) hl).trans h.2.2.2.2⟩
theorem TabAt.fr {W W' : World} {B p : Nat} {v : Value} {L : List Wr} {la : Int} {en : Nat} (h : TabAt W) (k : WrAt W B p v L la en) (f : Fr W W' p v) (hB : 0 < B) : TabAt W' := by
  have e : W'.heap[0]? = W.heap[0]? := f.block 0 h.lt (by have := k.hp; omega) (fun e => by have := (k.own.lt 0 e).1; omega)
  have c : ∀ j, W'.cell? ⟨0, j, none⟩ = W.cell? ⟨0, j, none⟩ := fun j => World.cell?_of_block (a := ⟨0, j, none⟩) e
  exact ⟨(c 0).trans h.1, (c 1).trans h.2.1, (c 2).trans h.2.2.1, (c 3).trans h.2.2.2.1, (c 4).trans h.2.2.2.2⟩
/-- may a writer that is s become st? -/
def canB (s st : Int) : Bool := (decide (s = 1) && (decide (st = 2) || decide (st = 3))) || (decide (s = 2) && decide (st = 4))
/-- what is answered -/
def turnE (L : List Wr) (la w st ts : Int) : Int := if w < 1 ∨ (L.length : Int) < w then 5 else if canB (ofL L w).1 st = false then 7 else if ts ≠ 0 ∧ (ts ≤ la ∨ 1048576 < ts) then 1 else 0
def turnS (L : List Wr) (la w st ts : Int) : List Wr := if turnE L la w st ts = 0 then L.set (w - 1).toNat (st, ts) else L
def turnT (L : List Wr) (la w st ts : Int) : Int := if turnE L la w st ts = 0 then max la ts else la
def TurnEnd (B p : Nat) (v : Value) (L : List Wr) (la w0 st ts : Int) (w : World) (x : Ending) (w' : World) : Prop := x = .returned (.int .i64 (turnE L la w0 st ts)) ∧ (∃ en', WrAt w' B p v (turnS L la w0 st ts) (turnT L la w0 st ts) en') ∧ Fr w w' p v
theorem turn_no {B p : Nat} {v : Value} {L : List Wr} {la : Int} {en : Nat} {w0 st ts c : Int} {w w' : World} (h : WrAt w B p v L la en) (he : turnE L la w0 st ts = c) (hc : c ≠ 0) (hb : Below w.heap.size w w') : TurnEnd B p v L la w0 st ts w (.returned (.int .i64 c)) w' := by
  unfold TurnEnd turnS turnT
  rw [he, if_neg hc, if_neg hc]
  exact ⟨rfl, ⟨en, h.later hb⟩, Fr.of_below hb⟩
theorem turn_yes {B p : Nat} {v : Value} {L M : List Wr} {la lb : Int} {en : Nat} {w0 st ts : Int} {w w' : World} (he : turnE L la w0 st ts = 0) (h : WrAt w' B p v M lb en) (hM : L.set (w0 - 1).toNat (st, ts) = M) (hl : max la ts = lb) (hf : Fr w w' p v) : TurnEnd B p v L la w0 st ts w (.returned (.int .i64 0)) w' := by
  unfold TurnEnd turnS turnT
  rw [he, if_pos rfl, if_pos rfl, hM, hl]
  exact ⟨rfl, ⟨en, h⟩, hf⟩
theorem bindex (k : Nat) (i : Int) (hi : i = (k : Int)) (h : k < 5) (W : World) : (Instr.indexAt 61 (.pointer (some ⟨0, 0, none⟩)) (.int .u8 i)).run Tryd.prog W = .ok (.pointer (some ⟨0, k, none⟩)) W := by
  subst hi
  have h1 : (0 : Int) ≤ (k : Int) ∧ (k : Int) < 5 := by omega
  go_simp
theorem turnE_out {L : List Wr} {la w st ts : Int} (h : w < 1 ∨ (L.length : Int) < w) : turnE L la w st ts = 5 := by unfold turnE; rw [if_pos h]
theorem turnE_in {L : List Wr} {la st ts : Int} {k : Nat} {x : Wr} (h : k < L.length) (hx : L.getD k w0r = x) : turnE L la ((k : Int) + 1) st ts = if canB x.1 st = false then 7 else if ts ≠ 0 ∧ (ts ≤ la ∨ 1048576 < ts) then 1 else 0 := by
  unfold turnE; rw [if_neg (by omega), of_in h, hx]
set_option maxRecDepth 100000 in
set_option maxHeartbeats 4000000 in
theorem turn_out (B p : Nat) (v : Value) (L : List Wr) (la : Int) (en : Nat) (i st ts : Int) (w : World) (h : WrAt w B p v L la en) (hi : i < 1 ∨ (L.length : Int) < i) : Calls Tryd.prog 31 #[.pointer (some ⟨p, 0, none⟩), .int .i64 i, .int .u8 st, .int .i64 ts] w (TurnEnd B p v L la i st ts w) := by
  have HE := Lib.hid (turnE_out (la := la) (st := st) (ts := ts) hi)
  have H := Lib.hid h
  obtain ⟨A, c, rfl, hc, k0, k1, k2, _⟩ := h.cells
  by_cases c1 : i < 1
  · have d1 : decide (i < 1) = true := decide_eq_true c1
    clear h hi
    go_enter Tryd.func31, Tryd.ntmps31
    go_wp2
    go_ret
    exact turn_no H.out HE.out (by decide) (Below.refl _ _)
  · have d1 : decide (i < 1) = false := decide_eq_false c1
    have d2 : decide ((L.length : Int) < i) = true := decide_eq_true (by omega)
    clear h hi
    go_enter Tryd.func31, Tryd.ntmps31
    go_wp2
    go_ret
    exact turn_no H.out HE.out (by decide) (Below.refl _ _)
set_option maxRecDepth 100000 in
set_option maxHeartbeats 4000000 in
theorem turn_state3 (B p : Nat) (v : Value) (L : List Wr) (la : Int) (en k : Nat) (s t ts : Int) (w : World) (h : WrAt w B p v L la en) (hT : TabAt w) (hk : k < L.length) (hn : L.length ≤ 1000000) (hx : L.getD k w0r = (s, t)) (hs : s = 0 ∨ s = 2 ∨ s = 3 ∨ s = 4) : Calls Tryd.prog 31 #[.pointer (some ⟨p, 0, none⟩), .int .i64 ((k : Int) + 1), .int .u8 3, .int .i64 ts] w (TurnEnd B p v L la ((k : Int) + 1) 3 ts w) := by
  have H := Lib.hid h
  have he := turnE_in (la := la) (st := 3) (ts := ts) hk hx
  obtain ⟨A, c, rfl, hc, k0, k1, k2, _⟩ := h.cells
  obtain ⟨A', c', e, _, hat⟩ := h.own.sl
  cases e
  obtain ⟨g, rfl, _, _, _, x0, x1, _⟩ := hat k hk
  rw [hx] at x0 x1
  simp only at x0 x1
  have i1 := windex g L.length c k (k : Int) rfl hk
  have w1 : IntKind.i64.wrap ((k : Int) + 1 - 1) = (k : Int) := (IntWalk.i64_in _ (by omega)).trans (by omega)
  have w3 : wrap64 (k : Int) = (k : Int) := by unfold wrap64; omega
  have w4 : IntKind.i64.wrap (k : Int) = (k : Int) := IntWalk.i64_in _ (by omega)
  have d1 : decide ((k : Int) + 1 < 1) = false := decide_eq_false (by omega)
  have d2 : decide ((L.length : Int) < (k : Int) + 1) = false := decide_eq_false (by omega)
  obtain ⟨t0, t1, t2, t3, t4⟩ := hT
  clear h hat hx hn hk
  rcases hs with rfl | rfl | rfl | rfl
  · have HE : Hid (turnE L la ((k : Int) + 1) 3 ts = 7) := he.trans (if_pos rfl)
    have i2 := bindex 0 0 rfl (by decide)
    clear he
    go_enter Tryd.func31, Tryd.ntmps31
    go_wp2
    go_ret
    exact turn_no H.out HE.out (by decide) (Below.refl _ _)
  · have HE : Hid (turnE L la ((k : Int) + 1) 3 ts = 7) := he.trans (if_pos rfl)
    have i2 := bindex 2 2 rfl (by decide)
    clear he
    go_enter Tryd.func31, Tryd.ntmps31
    go_wp2
    go_ret
    exact turn_no H.out HE.out (by decide) (Below.refl _ _)
  · have HE : Hid (turnE L la ((k : Int) + 1) 3 ts = 7) := he.trans (if_pos rfl)
    have i2 := bindex 3 3 rfl (by decide)
    clear he
    go_enter Tryd.func31, Tryd.ntmps31
    go_wp2
    go_ret
    exact turn_no H.out HE.out (by decide) (Below.refl _ _)
  · have HE : Hid (turnE L la ((k : Int) + 1) 3 ts = 7) := he.trans (if_pos rfl)
    have i2 := bindex 4 4 rfl (by decide)
    clear he
    go_enter Tryd.func31, Tryd.ntmps31
    go_wp2
    go_ret
    exact turn_no H.out HE.out (by decide) (Below.refl _ _)
set_option maxRecDepth 100000 in
set_option maxHeartbeats 4000000 in
theorem turn_state2 (B p : Nat) (v : Value) (L : List Wr) (la : Int) (en k : Nat) (s t ts : Int) (w : World) (h : WrAt w B p v L la en) (hT : TabAt w) (hk : k < L.length) (hn : L.length ≤ 1000000) (hx : L.getD k w0r = (s, t)) (hs : s = 0 ∨ s = 2 ∨ s = 3 ∨ s = 4) : Calls Tryd.prog 31 #[.pointer (some ⟨p, 0, none⟩), .int .i64 ((k : Int) + 1), .int .u8 2, .int .i64 ts] w (TurnEnd B p v L la ((k : Int) + 1) 2 ts w) := by
  have H := Lib.hid h
  have he := turnE_in (la := la) (st := 2) (ts := ts) hk hx
  obtain ⟨A, c, rfl, hc, k0, k1, k2, _⟩ := h.cells
  obtain ⟨A', c', e, _, hat⟩ := h.own.sl
  cases e
  obtain ⟨g, rfl, _, _, _, x0, x1, _⟩ := hat k hk
  rw [hx] at x0 x1
  simp only at x0 x1
  have i1 := windex g L.length c k (k : Int) rfl hk
  have w1 : IntKind.i64.wrap ((k : Int) + 1 - 1) = (k : Int) := (IntWalk.i64_in _ (by omega)).trans (by omega)
  have w3 : wrap64 (k : Int) = (k : Int) := by unfold wrap64; omega
  have w4 : IntKind.i64.wrap (k : Int) = (k : Int) := IntWalk.i64_in _ (by omega)
  have d1 : decide ((k : Int) + 1 < 1) = false := decide_eq_false (by omega)
  have d2 : decide ((L.length : Int) < (k : Int) + 1) = false := decide_eq_false (by omega)
  obtain ⟨t0, t1, t2, t3, t4⟩ := hT
  clear h hat hx hn hk
  rcases hs with rfl | rfl | rfl | rfl
  · have HE : Hid (turnE L la ((k : Int) + 1) 2 ts = 7) := he.trans (if_pos rfl)
    have i2 := bindex 0 0 rfl (by decide)
    clear he
    go_enter Tryd.func31, Tryd.ntmps31
    go_wp2
    go_ret
    exact turn_no H.out HE.out (by decide) (Below.refl _ _)
  · have HE : Hid (turnE L la ((k : Int) + 1) 2 ts = 7) := he.trans (if_pos rfl)
    have i2 := bindex 2 2 rfl (by decide)
    clear he
    go_enter Tryd.func31, Tryd.ntmps31
    go_wp2
    go_ret
    exact turn_no H.out HE.out (by decide) (Below.refl _ _)
  · have HE : Hid (turnE L la ((k : Int) + 1) 2 ts = 7) := he.trans (if_pos rfl)
    have i2 := bindex 3 3 rfl (by decide)
    clear he
    go_enter Tryd.func31, Tryd.ntmps31
    go_wp2
    go_ret
    exact turn_no H.out HE.out (by decide) (Below.refl _ _)
  · have HE : Hid (turnE L la ((k : Int) + 1) 2 ts = 7) := he.trans (if_pos rfl)
    have i2 := bindex 4 4 rfl (by decide)
    clear he
    go_enter Tryd.func31, Tryd.ntmps31
    go_wp2
    go_ret
    exact turn_no H.out HE.out (by decide) (Below.refl _ _)
set_option maxRecDepth 100000 in
set_option maxHeartbeats 4000000 in
theorem turn_state4 (B p : Nat) (v : Value) (L : List Wr) (la : Int) (en k : Nat) (s t ts : Int) (w : World) (h : WrAt w B p v L la en) (hT : TabAt w) (hk : k < L.length) (hn : L.length ≤ 1000000) (hx : L.getD k w0r = (s, t)) (hs : s = 0 ∨ s = 1 ∨ s = 3 ∨ s = 4) : Calls Tryd.prog 31 #[.pointer (some ⟨p, 0, none⟩), .int .i64 ((k : Int) + 1), .int .u8 4, .int .i64 ts] w (TurnEnd B p v L la ((k : Int) + 1) 4 ts w) := by
  have H := Lib.hid h
  have he := turnE_in (la := la) (st := 4) (ts := ts) hk hx
  obtain ⟨A, c, rfl, hc, k0, k1, k2, _⟩ := h.cells
  obtain ⟨A', c', e, _, hat⟩ := h.own.sl
  cases e
  obtain ⟨g, rfl, _, _, _, x0, x1, _⟩ := hat k hk
  rw [hx] at x0 x1
  simp only at x0 x1
  have i1 := windex g L.length c k (k : Int) rfl hk
  have w1 : IntKind.i64.wrap ((k : Int) + 1 - 1) = (k : Int) := (IntWalk.i64_in _ (by omega)).trans (by omega)
  have w3 : wrap64 (k : Int) = (k : Int) := by unfold wrap64; omega
  have w4 : IntKind.i64.wrap (k : Int) = (k : Int) := IntWalk.i64_in _ (by omega)
  have d1 : decide ((k : Int) + 1 < 1) = false := decide_eq_false (by omega)
  have d2 : decide ((L.length : Int) < (k : Int) + 1) = false := decide_eq_false (by omega)
  obtain ⟨t0, t1, t2, t3, t4⟩ := hT
  clear h hat hx hn hk
  rcases hs with rfl | rfl | rfl | rfl
  · have HE : Hid (turnE L la ((k : Int) + 1) 4 ts = 7) := he.trans (if_pos rfl)
    have i2 := bindex 0 0 rfl (by decide)
    clear he
    go_enter Tryd.func31, Tryd.ntmps31
    go_wp2
    go_ret
    exact turn_no H.out HE.out (by decide) (Below.refl _ _)
  · have HE : Hid (turnE L la ((k : Int) + 1) 4 ts = 7) := he.trans (if_pos rfl)
    have i2 := bindex 1 1 rfl (by decide)
    clear he
    go_enter Tryd.func31, Tryd.ntmps31
    go_wp2
    go_ret
    exact turn_no H.out HE.out (by decide) (Below.refl _ _)
  · have HE : Hid (turnE L la ((k : Int) + 1) 4 ts = 7) := he.trans (if_pos rfl)
    have i2 := bindex 3 3 rfl (by decide)
    clear he
    go_enter Tryd.func31, Tryd.ntmps31
    go_wp2
    go_ret
    exact turn_no H.out HE.out (by decide) (Below.refl _ _)
  · have HE : Hid (turnE L la ((k : Int) + 1) 4 ts = 7) := he.trans (if_pos rfl)
    have i2 := bindex 4 4 rfl (by decide)
    clear he
    go_enter Tryd.func31, Tryd.ntmps31
    go_wp2
    go_ret
    exact turn_no H.out HE.out (by decide) (Below.refl _ _)
end Go.Proofs.YtmkgipbepipjkaaDoor
