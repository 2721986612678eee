/- PA, PB in one. -/
import Derived.Test.YtoinjnocopejjaaPM
import Derived.Test.YtoinjnocopejjaaMO2
import Derived.Test.YtoinjnocopejjaaOC
import Derived.StillTailTactics
import Derived.Deep.QuietTactic
import Derived.BigQuiet
/- The player in memory. -/
namespace Go.Proofs.Ytoinjnocopejjaa
open Go.ChangeShapes Go.WideShapes Go.ChangeAt Go.RowKit Go.Maps
set_option linter.unusedVariables false
set_option linter.unusedSimpArgs false
theorem rown_setO {α : Type} {enc : α → List Value} {W : World} {B e n k q j t : Nat} {v u : Value} {L : List α} {c : Array Value} (h : ROwn enc k W B e v n L) (hb : Blk W q c t) (hne : t ≠ e) : ROwn enc k (W.setCell ⟨q, j, none⟩ u) B e v n L :=
  h.keepS (fun i hi => Below.heap_setCell W ⟨q, j, none⟩ u i (fun e2 => h.nq hb hne (by rw [hi]; exact congrArg some e2)))
theorem grown_lift {α : Type} {enc : α → List Value} {k e n B : Nat} {w W W' : World} {v : Value} {L : List α} (hb : Below B w W) (hB : B ≤ W.heap.size) (h : ROwn enc k W B e v n L) (hg : W.grownBy W' v.ownBlock) : Below B w W' :=
  hb.trans ⟨hg.os, hg.tape, hg.output, hg.size, fun j hj => hg.block j (Nat.lt_of_lt_of_le hj hB) (fun e => by have := (h.lt j e.symm).1; omega)⟩
theorem MQ_.grownT {α : Type} {enc : α → List Value} {k e n B B' p : Nat} {W W' : World} {v : Value} {L : List α} {own : Nat → Nat} {s : MS} (h : MQ_ W B' own p s) (hr : ROwn enc k W B e v n L) (hg : W.grownBy W' v.ownBlock) (h1 : e ≠ 110) (h2 : e ≠ 112) (h3 : e ≠ 85) (h4 : e ≠ 3) (h5 : e ≠ 26) : MQ_ W' B' own p s := by
  obtain ⟨S, ⟨x, hx, rfl⟩, h6⟩ := h
  refine ⟨_, ⟨x, hx.keepS (fun j hj => hg.block j (hx.lt j hj).2 (fun e2 => ?_)) (fun g cur hgc => hg.block g (Array.getElem?_eq_some_iff.1 hgc).1 (fun e2 => ?_)), rfl⟩, h6⟩
  · obtain ⟨cur, hc⟩ := hr.tag j e2.symm
    exact (hx.tags j hj).not (show Blk W j cur e from hc) h1 h2 h3 h4
  · obtain ⟨cur2, hc⟩ := hr.tag g e2.symm
    rw [hc] at hgc
    simp only [Option.some.injEq, Obj.cells.injEq] at hgc
    exact h5 hgc.2.1
theorem rv_setE {α : Type} {enc : α → List Value} {k : Nat} (hk : ∀ x, (enc x).length = k) {u : Value} {i : Nat} (hi : i < k) {x x' : α} (he : enc x' = (enc x).set i u) : ∀ (L : List α) (j : Nat), L[j]? = some x → (rv enc L).set (j * k + i) u = rv enc (L.set j x')
  | [], j, h => by simp at h
  | v :: l, 0, h => by
    simp at h; subst h
    show (enc v ++ rv enc l).set (0 * k + i) u = enc x' ++ rv enc l
    rw [Nat.zero_mul, Nat.zero_add, List.set_append_left _ _ (by rw [hk]; exact hi), he]
  | v :: l, j + 1, h => by
    have ih := rv_setE hk hi he l j (by simpa using h)
    show (enc v ++ rv enc l).set ((j + 1) * k + i) u = enc v ++ rv enc (l.set j x')
    rw [List.set_append_right _ _ (by rw [hk, Nat.add_mul]; omega), hk, show (j + 1) * k + i - k = j * k + i from by rw [Nat.add_mul]; omega, ih]
theorem ROwn.setC {α : Type} {enc : α → List Value} {k : Nat} (hk : ∀ x, (enc x).length = k) {W : World} {B e n : Nat} {v : Value} {L : List α} (h : ROwn enc k W B e v n L) {g j i : Nat} {u : Value} {x x' : α} (hg : v.ownBlock = some g) (hj : L[j]? = some x) (hi : i < k) (he : enc x' = (enc x).set i u) :
    ROwn enc k (W.setCell ⟨g, j * k + i, none⟩ u) B e v n (L.set j x') := by
  have hO := h.2
  rcases h.2.2 with ⟨rfl, h2⟩ | ⟨g', cap, cur, rfl, _⟩
  · cases hg
  · cases hg
    have e1 := (hO.stored (j * k + i) u).1
    rw [rv_setE hk hi he L j hj] at e1
    exact ⟨by rw [List.length_set]; exact h.1, e1⟩
theorem tkT {P : Program} {md : Region.Mode} {ops : Array Oper} {Q : Exit → Act → World → Prop} {S : World → Prop} {i : Nat} {oi : Oper} {v : Value} {fuel : Nat} {listed : Array Bool} {a : Act} {w : World}
    (hc : (Region.noSelect ops && (Region.free md ops listed i && (Region.ready md ops listed).contains i)) = true) (hi : ops[i]? = some oi) (hw : Region.wanted oi (yielded ops a.tmps) = true) (hv : ∀ w, S w → (execOp a.eval oi).run P w = .ok (.value v) w)
    (hQ : ∀ c a w, Q (.panic c) (a.put oi.dst v) w → Q (.panic c) a w) (hS : S w) (h : wpAnyH P md ops Q S fuel (listed.setIfInBounds i true) (a.put oi.dst v) w) : wpAnyH P md ops Q S (fuel + 1) listed a w := by
  simp only [Bool.and_eq_true] at hc
  exact wpAnyH_take hi hc.1 hc.2.1 hc.2.2 hQ (Or.inl ⟨hw, hv⟩) hS h
theorem tkF {P : Program} {md : Region.Mode} {ops : Array Oper} {Q : Exit → Act → World → Prop} {S : World → Prop} {i : Nat} {oi : Oper} {fuel : Nat} {listed : Array Bool} {a : Act} {w : World}
    (hc : (Region.noSelect ops && (Region.free md ops listed i && (Region.ready md ops listed).contains i)) = true) (hi : ops[i]? = some oi) (hw : Region.wanted oi (yielded ops a.tmps) = false)
    (hQ : ∀ c a w, Q (.panic c) (a.put oi.dst undef) w → Q (.panic c) a w) (hS : S w) (h : wpAnyH P md ops Q S fuel (listed.setIfInBounds i true) (a.put oi.dst undef) w) : wpAnyH P md ops Q S (fuel + 1) listed a w := by
  simp only [Bool.and_eq_true] at hc
  exact wpAnyH_take hi hc.1 hc.2.1 hc.2.2 hQ (Or.inr ⟨hw, rfl⟩) hS h
theorem pu_ : (∀ (a : Act) (d : Nat) (v : Value), a.put (some d) v = { a with tmps := a.tmps.setIfInBounds d v }) ∧ (∀ (a : Act) (v : Value), a.put none v = a) ∧ (∀ (l : List Value) (i : Nat) (x : Value), l.toArray.setIfInBounds i x = (l.set i x).toArray) ∧ (∀ (x y : Value) (l : List Value), (x :: l).set 0 y = y :: l) ∧ (∀ (x y : Value) (l : List Value) (i : Nat), (x :: l).set (i + 1) y = x :: l.set i y) := ⟨fun _ _ _ => rfl, fun _ _ => rfl, fun _ _ _ => by simp, fun _ _ _ => rfl, fun _ _ _ _ => rfl⟩
theorem tkL {P : Program} {md : Region.Mode} {ops : Array Oper} {Q : Exit → Act → World → Prop} {S : World → Prop} (i : Nat) {oi : Oper} (v : Value) {fuel : Nat} {listed : Array Bool} {a : Act} {w : World}
    (hi : ops.toList[i]? = some oi) (hw : Region.wanted oi (yielded ops a.tmps) = true) (hv : ∀ w, S w → (execOp a.eval oi).run P w = .ok (.value v) w)
    (hQ : ∀ c a w, Q (.panic c) (a.put oi.dst v) w → Q (.panic c) a w) (hS : S w) (hc : (Region.noSelect ops && (Region.free md ops listed i && (Region.ready md ops listed).contains i)) = true) (h : wpAnyH P md ops Q S fuel (listed.setIfInBounds i true) (a.put oi.dst v) w) : wpAnyH P md ops Q S (fuel + 1) listed a w :=
  tkT hc (by rw [← Array.getElem?_toList]; exact hi) hw hv hQ hS h
theorem skL {P : Program} {md : Region.Mode} {ops : Array Oper} {Q : Exit → Act → World → Prop} {S : World → Prop} (i : Nat) {oi oj : Oper} {j d : Nat} {b : Bool} {v : Value} {fuel : Nat} {listed : Array Bool} {a : Act} {w : World}
    (hi : ops.toList[i]? = some oi) (h1 : oi.guard = some (j, b)) (h2 : ops.toList[j]? = some oj) (h3 : oj.dst = some d) (h4 : a.tmps[d]? = some v) (h5 : (match v with | .bool c => c == b | _ => false) = false)
    (hQ : ∀ c a w, Q (.panic c) (a.put oi.dst undef) w → Q (.panic c) a w) (hS : S w) (hc : (Region.noSelect ops && (Region.free md ops listed i && (Region.ready md ops listed).contains i)) = true) (h : wpAnyH P md ops Q S fuel (listed.setIfInBounds i true) (a.put oi.dst undef) w) : wpAnyH P md ops Q S (fuel + 1) listed a w := by
  refine tkF hc (by rw [← Array.getElem?_toList]; exact hi) ?_ hQ hS h
  unfold Region.wanted yielded
  rw [Array.getElem?_toList] at h2
  rw [h1]
  simp only [h2, Option.bind_some, h3, h4]
  cases v with
  | bool c => cases b <;> cases c <;> first | rfl | cases h5
  | _ => rfl
abbrev Hdr := Option Addr × Nat
/-- an event, and where its pairs lie -/
abbrev EH := Ev × Hdr
def evE (x : EH) : List Value := [.int .u8 x.1.1, .int .i64 x.1.2.1, .int .i64 x.1.2.2.1, .int .i64 x.1.2.2.2.1, .bool x.1.2.2.2.2.1, .string x.1.2.2.2.2.2.1, .slice x.2.1 x.1.2.2.2.2.2.2.length x.2.2]
theorem evE_len (x : EH) : (evE x).length = 7 := rfl
abbrev PH := List Cl × Hdr
def prE (x : PH) : List Value := [.slice x.2.1 x.1.length x.2.2]
theorem prE_len (x : PH) : (prE x).length = 1 := rfl
abbrev GH := Pg × Hdr
def pgE (x : GH) : List Value := [.slice x.2.1 x.1.prog.length x.2.2, .int .i64 x.1.call, .int .i64 x.1.ph, .int .i64 x.1.don]
theorem pgE_len (x : GH) : (pgE x).length = 4 := rfl
abbrev DH := Dn × Hdr
def dnE (x : DH) : List Value := [.int .i64 x.1.task, .int .i64 x.1.call, .int .i64 x.1.a.1, .bool x.1.a.2.1, .string x.1.a.2.2.1, .slice x.2.1 x.1.a.2.2.2.length x.2.2, .int .i64 x.1.mark, .int .i64 x.1.back]
theorem dnE_len (x : DH) : (dnE x).length = 8 := rfl
theorem elemD : RElem dnE 8 Try.prog 99 102 88 where
  und := Try.underlying99
  info := by
    have h : (Try.prog.info? 102).map (fun i => (i.zero, i.size, i.bytes)) = some (some (.agg #[.int .i64 0, .int .i64 0, .int .i64 0, .bool false, .string ByteArray.empty, .slice none 0 0, .int .i64 0, .int .i64 0]), 8, 88) := by kernel_rfl
    cases hi : Try.prog.info? 102 with
    | none => rw [hi] at h; cases h
    | some i => rw [hi] at h; simp only [Option.map_some, Option.some.injEq, Prod.mk.injEq] at h; exact ⟨i, _, rfl, h.1, h.2.1, h.2.2, rfl⟩
  pos := by decide
  len := fun _ => rfl
  one := fun x u hu => by
    unfold dnE at hu
    simp only [List.mem_cons, List.not_mem_nil, or_false] at hu
    rcases hu with rfl | rfl | rfl | rfl | rfl | rfl | rfl | rfl <;> rfl
theorem idx90 (g off m c k : Nat) (i : Int) (hi : i = (k : Int)) (h : k < m) (W : World) : (Instr.indexAt 90 (.slice (some ⟨g, off, none⟩) m c) (.int .i64 i)).run Try.prog W = .ok (.pointer (some ⟨g, off + k * 7, none⟩)) W := by
  subst hi
  have h1 : (0 : Int) ≤ (k : Int) ∧ (k : Int) < (m : Int) := by omega
  go_simp
theorem idx92 (g off m c k : Nat) (i : Int) (hi : i = (k : Int)) (h : k < m) (W : World) : (Instr.indexAt 92 (.slice (some ⟨g, off, none⟩) m c) (.int .i64 i)).run Try.prog W = .ok (.pointer (some ⟨g, off + k * 7, none⟩)) W := by
  subst hi
  have h1 : (0 : Int) ≤ (k : Int) ∧ (k : Int) < (m : Int) := by omega
  go_simp
theorem idx93 (g off m c k : Nat) (i : Int) (hi : i = (k : Int)) (h : k < m) (W : World) : (Instr.indexAt 93 (.slice (some ⟨g, off, none⟩) m c) (.int .i64 i)).run Try.prog W = .ok (.pointer (some ⟨g, off + k, none⟩)) W := by
  subst hi
  have h1 : (0 : Int) ≤ (k : Int) ∧ (k : Int) < (m : Int) := by omega
  go_simp
theorem idx99 (g off m c k : Nat) (i : Int) (hi : i = (k : Int)) (h : k < m) (W : World) : (Instr.indexAt 99 (.slice (some ⟨g, off, none⟩) m c) (.int .i64 i)).run Try.prog W = .ok (.pointer (some ⟨g, off + k * 8, none⟩)) W := by
  subst hi
  have h1 : (0 : Int) ≤ (k : Int) ∧ (k : Int) < (m : Int) := by omega
  go_simp
theorem idx140 (g off m c k : Nat) (i : Int) (hi : i = (k : Int)) (h : k < m) (W : World) : (Instr.indexAt 140 (.slice (some ⟨g, off, none⟩) m c) (.int .i64 i)).run Try.prog W = .ok (.pointer (some ⟨g, off + k * 4, none⟩)) W := by
  subst hi
  have h1 : (0 : Int) ≤ (k : Int) ∧ (k : Int) < (m : Int) := by omega
  go_simp
/-- the types of the blocks that a player, and its model, turn -/
def ptag (t : TypeId) : Bool := t == 110 || t == 112 || t == 85 || t == 3 || t == 142 || t == 175 || t == 102 || t == 33
/-- what was there ahead of the law stays, and what is no player's, nor a model's -/
structure Fw (w0 W W' : World) : Prop where
  sz : W.heap.size ≤ W'.heap.size
  bel : Below w0.heap.size w0 W'
  blk : ∀ (q : Nat) (c : Array Value) (t : TypeId), Blk W q c t → ptag t = false → Blk W' q c t
section
variable {w0 W W' W2 : World}
theorem Fw.refl (h : Below w0.heap.size w0 W) : Fw w0 W W := ⟨Nat.le_refl _, h, fun _ _ _ hb _ => hb⟩
theorem Fw.trans (h : Fw w0 W W') (k : Fw w0 W' W2) : Fw w0 W W2 := ⟨Nat.le_trans h.sz k.sz, k.bel, fun q c t hb ht => k.blk q c t (h.blk q c t hb ht) ht⟩
theorem Fw.of (h : Below w0.heap.size w0 W) (k : Below W.heap.size W W') : Fw w0 W W' := ⟨k.size, stepB h k, fun q c t hb _ => hb.later k⟩
theorem Fw.then (h : Fw w0 W W') (k : Below W'.heap.size W' W2) : Fw w0 W W2 := h.trans (Fw.of h.bel k)
theorem Fw.kp (h : Below w0.heap.size w0 W') (k : Kp W W') : Fw w0 W W' := ⟨k.sz, h, fun q c t hb ht => by
  unfold ptag at ht
  simp only [Bool.or_eq_false_iff, beq_eq_false_iff_ne] at ht
  exact k.blk q c t hb ht.1.1.1.1.1.1.1 ht.1.1.1.1.1.1.2 ht.1.1.1.1.1.2 ht.1.1.1.1.2⟩
theorem ROwn.fw {α : Type} {enc : α → List Value} {k e n B : Nat} {v : Value} {L : List α} (h : ROwn enc k W B e v n L) (hk : Fw w0 W W') (ht : ptag e = false) : ROwn enc k W' B e v n L :=
  h.keepS (fun i hi => by
    obtain ⟨cur, hc⟩ := h.tag i hi
    exact (hk.blk i cur e hc ht).trans hc.symm)
theorem Fw.set {q j : Nat} {c : Array Value} {t : TypeId} {v : Value} (h : Below w0.heap.size w0 W) (hb : Blk W q c t) (hq : w0.heap.size ≤ q) (ht : ptag t = true) : Fw w0 W (W.setCell ⟨q, j, none⟩ v) :=
  ⟨by simp, h.setCell hq _, fun q2 c2 t2 hb2 ht2 => hb2.other (fun e => by
    subst e
    have e1 : W.heap[q2]? = some (.cells c t (0, 0)) := hb
    rw [show W.heap[q2]? = some (.cells c2 t2 (0, 0)) from hb2] at e1
    simp only [Option.some.injEq, Obj.cells.injEq] at e1
    rw [e1.2.1, ht] at ht2; cases ht2) _⟩
end
/-- an event that can be read, whatever a player does -/
def ERd (w0 W : World) (e : Ev) (A : Option Addr) : Prop := ∀ W', Fw w0 W W' → RSl pvc 2 W' A e.2.2.2.2.2.2.length e.2.2.2.2.2.2
theorem ERd.fw {w0 W W' : World} {e : Ev} {A : Option Addr} (h : ERd w0 W e A) (k : Fw w0 W W') : ERd w0 W' e A := fun W2 h2 => h W2 (k.trans h2)
def CRd (w0 W : World) (A : Option Addr) (l : List Cl) : Prop := ∀ W', Fw w0 W W' → RSl clE 7 W' A l.length l
theorem CRd.fw {w0 W W' : World} {l : List Cl} {A : Option Addr} (h : CRd w0 W A l) (k : Fw w0 W W') : CRd w0 W' A l := fun W2 h2 => h W2 (k.trans h2)
/-- where what lies, of a player -/
structure PX where
  mp : Nat
  own : Nat → Nat
  tb : Nat
  ph : List Hdr
  dA : Option Addr
  dc : Nat
  dh : List Hdr
def plC (p : Pl) (x : PX) : List Value := [.pointer (some ⟨x.mp, 0, none⟩), .slice (some ⟨x.tb, 0, none⟩) p.tasks.length p.tasks.length, .int .i64 p.taken, .slice x.dA p.done.length x.dc]
structure PlAt (w0 W : World) (b : Nat) (p : Pl) (x : PX) : Prop where
  bel : Below w0.heap.size w0 W
  hp : w0.heap.size ≤ b
  blk : Blk W b (plC p x).toArray 142
  htb : w0.heap.size ≤ x.tb
  tb : Blk W x.tb (rv pgE (p.tasks.zip x.ph)).toArray 175
  pl : x.ph.length = p.tasks.length
  prg : ∀ (i : Nat) (h : Hdr) (g : Pg), x.ph[i]? = some h → p.tasks[i]? = some g → CRd w0 W h.1 g.prog
  cok : ∀ g ∈ p.tasks, ∀ y ∈ g.prog, COk y
  dn : ROwn dnE 8 W w0.heap.size 102 (.slice x.dA p.done.length x.dc) p.done.length (p.done.zip x.dh)
  dl : x.dh.length = p.done.length
  prs : ∀ (i : Nat) (h : Hdr) (d : Dn), x.dh[i]? = some h → p.done[i]? = some d → ROwn pvc 2 W w0.heap.size 129 (.slice h.1 d.a.2.2.2.length h.2) d.a.2.2.2.length d.a.2.2.2
  md : MQ_ W w0.heap.size x.own x.mp p.m
section
variable {w0 W W' : World} {b : Nat} {p : Pl} {x : PX}
theorem PlAt.later (h : PlAt w0 W b p x) (hb : Below W.heap.size W W') : PlAt w0 W' b p x :=
  ⟨stepB h.bel hb, h.hp, h.blk.later hb, h.htb, h.tb.later hb, h.pl, fun i y g h1 h2 => (h.prg i y g h1 h2).fw (Fw.of h.bel hb), h.cok, h.dn.later hb, h.dl, fun i y d h1 h2 => (h.prs i y d h1 h2).later hb, h.md.later hb⟩
/-- over what turns its model -/
theorem PlAt.kp (h : PlAt w0 W b p x) (hk : Kp W W') (hb : Below w0.heap.size w0 W') {own : Nat → Nat} {s : MS} (hm : MQ_ W' w0.heap.size own x.mp s) : PlAt w0 W' b { p with m := s } { x with own := own } :=
  ⟨hb, h.hp, hk.blk _ _ _ h.blk (by decide) (by decide) (by decide) (by decide), h.htb, hk.blk _ _ _ h.tb (by decide) (by decide) (by decide) (by decide), h.pl, fun i y g h1 h2 => (h.prg i y g h1 h2).fw (Fw.kp hb hk), h.cok, h.dn.kp hk (by decide) (by decide) (by decide) (by decide), h.dl, fun i y d h1 h2 => (h.prs i y d h1 h2).kp hk (by decide) (by decide) (by decide) (by decide), hm⟩
theorem Fw.row {q : Nat} {c c2 : Array Value} {t : TypeId} (h : Below w0.heap.size w0 W) (hb : Blk W q c t) (hq : w0.heap.size ≤ q) (ht : ptag t = true) : Fw w0 W (W.setRow q c2) :=
  ⟨by have := (below_setRow (B := q) (Below.refl _ W) (Nat.le_refl _) c2).size; exact this, below_setRow h hq _, fun q2 cc t2 hb2 ht2 => hb2.setRow (fun e => by
    subst e
    have e1 : W.heap[q2]? = some (.cells c t (0, 0)) := hb
    rw [show W.heap[q2]? = some (.cells cc t2 (0, 0)) from hb2] at e1
    simp only [Option.some.injEq, Obj.cells.injEq] at e1
    rw [e1.2.1, ht] at ht2; cases ht2)⟩
theorem neBlk {q r : Nat} {c c2 : Array Value} {t u : TypeId} (h : Blk W q c t) (k : Blk W r c2 u) (hne : t ≠ u) : q ≠ r := fun e => by
  subst e
  have e1 : W.heap[q]? = some (.cells c t (0, 0)) := h
  rw [show W.heap[q]? = some (.cells c2 u (0, 0)) from k] at e1
  simp only [Option.some.injEq, Obj.cells.injEq] at e1
  exact hne e1.2.1.symm
/-- over a store into an answer's box -/
theorem PlAt.box (h : PlAt w0 W b p x) {q : Nat} {c c2 : Array Value} (hb : Blk W q c 33) (hq : w0.heap.size ≤ q) : PlAt w0 (W.setRow q c2) b p x ∧ Fw w0 W (W.setRow q c2) := by
  have hf : Fw w0 W (W.setRow q c2) := Fw.row h.bel hb hq rfl
  exact ⟨⟨hf.bel, h.hp, h.blk.setRow (neBlk h.blk hb (by decide)), h.htb, h.tb.setRow (neBlk h.tb hb (by decide)), h.pl, fun i y g h1 h2 => (h.prg i y g h1 h2).fw hf, h.cok, h.dn.setRow hb (by decide), h.dl, fun i y d h1 h2 => (h.prs i y d h1 h2).setRow hb (by decide), h.md.setRow hb (by decide) (by decide) (by decide) (by decide) (by decide)⟩, hf⟩
theorem PlAt.c0 (h : PlAt w0 W b p x) (j : Nat) : W.cell? ⟨b, j, none⟩ = (plC p x)[j]? := by
  rw [h.blk.cell, List.getElem?_toArray]
theorem pg_at {i : Nat} {g : Pg} {y : Hdr} (hi : p.tasks[i]? = some g) (hy : x.ph[i]? = some y) : (p.tasks.zip x.ph)[i]? = some (g, y) := by
  rw [List.getElem?_zip_eq_some]; exact ⟨hi, hy⟩
theorem PlAt.pgc (h : PlAt w0 W b p x) {i : Nat} {g : Pg} {y : Hdr} (hi : p.tasks[i]? = some g) (hy : x.ph[i]? = some y) (j : Nat) (hj : j < 4) : W.cell? ⟨x.tb, i * 4 + j, none⟩ = (pgE (g, y))[j]? := by
  rw [h.tb.cell, List.getElem?_toArray, rv_at pgE_len _ i j _ (pg_at hi hy) hj]
theorem pg_cell {W' : World} {i : Nat} {g : Pg} {y : Hdr} (hb : Blk W' x.tb (rv pgE (p.tasks.zip x.ph)).toArray 175) (hi : p.tasks[i]? = some g) (hy : x.ph[i]? = some y) (j : Nat) (hj : j < 4) : W'.cell? ⟨x.tb, i * 4 + j, none⟩ = (pgE (g, y))[j]? := by
  rw [hb.cell, List.getElem?_toArray, rv_at pgE_len _ i j _ (pg_at hi hy) hj]
theorem PlAt.pgf (h : PlAt w0 W b p x) (j : Nat) : W.frozen? ⟨x.tb, j, none⟩ = false := h.tb.frozen j
theorem PlAt.hdr (h : PlAt w0 W b p x) {i : Nat} {g : Pg} (hi : p.tasks[i]? = some g) : ∃ y, x.ph[i]? = some y := by
  have := (List.getElem?_eq_some_iff.1 hi).1
  exact ⟨_, List.getElem?_eq_getElem (by rw [h.pl]; exact this)⟩
theorem PlAt.ne (h : PlAt w0 W b p x) : b ≠ x.tb := fun e => by
  have h1 : W.heap[b]? = some (.cells _ 142 (0, 0)) := h.blk
  rw [e, show W.heap[x.tb]? = some (.cells _ 175 (0, 0)) from h.tb] at h1
  simp only [Option.some.injEq, Obj.cells.injEq] at h1
  exact absurd h1.2.1 (by decide)
theorem mq_set {B q m j : Nat} {own : Nat → Nat} {s : MS} {c : Array Value} {t : TypeId} {v : Value} (h : MQ_ W B own m s) (hb : Blk W q c t) (h1 : t ≠ 110) (h2 : t ≠ 112) (h3 : t ≠ 85) (h4 : t ≠ 3) (h5 : t ≠ 26) : MQ_ (W.setCell ⟨q, j, none⟩ v) B own m s :=
  h.frame hb h1 h2 h3 h4 h5 (fun k hne => Below.heap_setCell W ⟨q, j, none⟩ v k hne)
/-- a task's progress is turned, cell by cell -/
theorem zip_set_ {α β : Type} : ∀ (l : List α) (m : List β) (i : Nat) (a : α) (b : β), (l.zip m).set i (a, b) = (l.set i a).zip (m.set i b)
  | [], m, i, a, b => by simp
  | c :: l, [], i, a, b => by
    rw [List.set_nil, List.zip_nil_right, List.zip_nil_right]; rfl
  | c :: l, d :: m, 0, a, b => rfl
  | c :: l, d :: m, i + 1, a, b => by
    show (c, d) :: (l.zip m).set i (a, b) = (c, d) :: (l.set i a).zip (m.set i b)
    rw [zip_set_ l m i a b]
theorem PlAt.setG (h : PlAt w0 W b p x) {i j : Nat} {g g' : Pg} {y : Hdr} {u : Value} (hi : p.tasks[i]? = some g) (hy : x.ph[i]? = some y) (hj : j < 4) (he : pgE (g', y) = (pgE (g, y)).set j u) (hp : g'.prog = g.prog) :
    PlAt w0 (W.setCell ⟨x.tb, i * 4 + j, none⟩ u) b { p with tasks := p.tasks.set i g' } x ∧ Fw w0 W (W.setCell ⟨x.tb, i * 4 + j, none⟩ u) := by
  have hf : Fw w0 W (W.setCell ⟨x.tb, i * 4 + j, none⟩ u) := Fw.set h.bel h.tb h.htb rfl
  have hil := (List.getElem?_eq_some_iff.1 hi).1
  have hyl := (List.getElem?_eq_some_iff.1 hy)
  refine ⟨⟨hf.bel, h.hp, ?_, h.htb, ?_, by show _ = (p.tasks.set i g').length; rw [List.length_set]; exact h.pl, fun k z g2 h1 h2 => ?_, fun g2 hg2 => ?_, rown_setO h.dn h.tb (by decide), h.dl, fun k z d h1 h2 => rown_setO (h.prs k z d h1 h2) h.tb (by decide), mq_set h.md h.tb (by decide) (by decide) (by decide) (by decide) (by decide)⟩, hf⟩
  · have := h.blk.other h.ne u (j := i * 4 + j)
    unfold plC at this ⊢
    simp only [List.length_set]
    exact this
  · have := h.tb.set u (j := i * 4 + j)
    rw [List.setIfInBounds_toArray, rv_setE pgE_len hj he _ i (pg_at hi hy)] at this
    have ez : (p.tasks.zip x.ph).set i (g', y) = (p.tasks.set i g').zip x.ph := by
      obtain ⟨q, e⟩ := hyl
      rw [zip_set_]
      rw [← e, List.set_getElem_self q]
    rw [ez] at this
    exact this
  · have h2 : (p.tasks.set i g')[k]? = some g2 := h2
    rw [List.getElem?_set] at h2
    by_cases e : i = k
    · subst e
      rw [if_pos rfl, if_pos hil] at h2
      cases h2
      rw [hp]
      exact (h.prg i z g h1 hi).fw hf
    · rw [if_neg e] at h2
      exact (h.prg k z g2 h1 h2).fw hf
  · rcases List.mem_or_eq_of_mem_set hg2 with h1 | rfl
    · exact h.cok g2 h1
    · rw [hp]; exact h.cok g (List.mem_of_getElem? hi)
theorem Fw.grown {W1 : World} {α : Type} {enc : α → List Value} {k e n : Nat} {v : Value} {L : List α} (h : Below w0.heap.size w0 W) (hr : ROwn enc k W w0.heap.size e v n L) (he : ptag e = true) (hg : W.grownBy W1 v.ownBlock) : Fw w0 W W1 :=
  ⟨hg.size, h.trans ⟨hg.os, hg.tape, hg.output, hg.size, fun i hi => hg.block i (by have := h.size; omega) (fun e2 => by have := (hr.lt i e2.symm).1; omega)⟩, fun q c t hb ht => (hg.block q hb.lt (fun e2 => by
    obtain ⟨cur, hc⟩ := hr.tag q e2.symm
    rw [show W.heap[q]? = some (.cells c t (0, 0)) from hb] at hc
    simp only [Option.some.injEq, Obj.cells.injEq] at hc
    rw [hc.2.1, he] at ht; cases ht)).trans hb⟩
theorem neT {W1 : World} {α : Type} {enc : α → List Value} {k e n B : Nat} {v : Value} {L : List α} (hr : ROwn enc k W B e v n L) (hg : W.grownBy W1 v.ownBlock) {j : Nat} {cu : Array Value} {t : TypeId} (hb : Blk W j cu t) (ht : t ≠ e) : W1.heap[j]? = W.heap[j]? := hg.block j hb.lt (fun e2 => by
    obtain ⟨cu2, h2⟩ := hr.tag j e2.symm
    have h2 : W.heap[j]? = some (.cells cu2 e (0, 0)) := h2
    rw [show W.heap[j]? = some (.cells cu t (0, 0)) from hb] at h2
    simp only [Option.some.injEq, Obj.cells.injEq] at h2
    exact ht h2.2.1)
/-- what was taken is counted -/
theorem PlAt.tick (h : PlAt w0 W b p x) (n : Int) : PlAt w0 (W.setCell ⟨b, 2, none⟩ (.int .i64 n)) b { p with taken := n } x ∧ Fw w0 W (W.setCell ⟨b, 2, none⟩ (.int .i64 n)) := by
  have hf : Fw w0 W (W.setCell ⟨b, 2, none⟩ (.int .i64 n)) := Fw.set h.bel h.blk h.hp rfl
  refine ⟨⟨hf.bel, h.hp, ?_, h.htb, h.tb.other (fun e => h.ne e.symm) _, h.pl, fun k z g h1 h2 => (h.prg k z g h1 h2).fw hf, h.cok, rown_setO h.dn h.blk (by decide), h.dl, fun k z d h1 h2 => rown_setO (h.prs k z d h1 h2) h.blk (by decide), mq_set h.md h.blk (by decide) (by decide) (by decide) (by decide) (by decide)⟩, hf⟩
  have := h.blk.set (j := 2) (.int .i64 n)
  exact this
/-- a call more that is done -/
theorem PlAt.more {W1 : World} (h : PlAt w0 W b p x) {d : Dn} {y : Hdr} {A' : Option Addr} {c' : Nat} (ho : ROwn dnE 8 W1 w0.heap.size 102 (.slice A' (p.done.length + 1) c') (p.done.length + 1) (p.done.zip x.dh ++ [(d, y)])) (hg : W.grownBy W1 (Value.slice x.dA p.done.length x.dc).ownBlock) (hy : ROwn pvc 2 W w0.heap.size 129 (.slice y.1 d.a.2.2.2.length y.2) d.a.2.2.2.length d.a.2.2.2) :
    PlAt w0 (W1.setCell ⟨b, 3, none⟩ (.slice A' (p.done.length + 1) c')) b { p with done := p.done ++ [d] } { x with dA := A', dc := c', dh := x.dh ++ [y] } ∧ Fw w0 W (W1.setCell ⟨b, 3, none⟩ (.slice A' (p.done.length + 1) c')) := by
  have hf1 : Fw w0 W W1 := Fw.grown h.bel h.dn rfl hg
  have hblk1 : Blk W1 b (plC p x).toArray 142 := (neT h.dn hg h.blk (by decide)).trans h.blk
  have htb1 : Blk W1 x.tb (rv pgE (p.tasks.zip x.ph)).toArray 175 := (neT h.dn hg h.tb (by decide)).trans h.tb
  have hf2 : Fw w0 W1 (W1.setCell ⟨b, 3, none⟩ (.slice A' (p.done.length + 1) c')) := Fw.set hf1.bel hblk1 h.hp rfl
  have hf := hf1.trans hf2
  have hll : (p.done ++ [d]).length = p.done.length + 1 := by simp
  have hpr : ∀ {v : Value} {n : Nat} {L : List Pr}, ROwn pvc 2 W w0.heap.size 129 v n L → ROwn pvc 2 (W1.setCell ⟨b, 3, none⟩ (.slice A' (p.done.length + 1) c')) w0.heap.size 129 v n L := fun {v n L} hr => hr.fw hf rfl
  have hmd1 : MQ_ W1 w0.heap.size x.own x.mp p.m := h.md.grownT h.dn hg (by decide) (by decide) (by decide) (by decide) (by decide)
  refine ⟨⟨hf.bel, h.hp, ?_, h.htb, htb1.other (fun e => h.ne e.symm) _, h.pl, fun k z g h1 h2 => (h.prg k z g h1 h2).fw hf, h.cok, ?_, ?_, fun k z e h1 h2 => ?_, mq_set hmd1 hblk1 (by decide) (by decide) (by decide) (by decide) (by decide)⟩, hf⟩
  · have := hblk1.set (j := 3) (.slice A' (p.done.length + 1) c')
    unfold plC
    rw [hll]
    exact this
  · show ROwn dnE 8 _ _ 102 (.slice A' (p.done ++ [d]).length c') (p.done ++ [d]).length ((p.done ++ [d]).zip (x.dh ++ [y]))
    rw [hll, List.zip_append h.dl.symm]
    exact rown_setO ho hblk1 (by decide)
  · show (x.dh ++ [y]).length = (p.done ++ [d]).length
    simp [h.dl]
  · have h1 : (x.dh ++ [y])[k]? = some z := h1
    have h2 : (p.done ++ [d])[k]? = some e := h2
    by_cases hj : k < p.done.length
    · rw [List.getElem?_append_left (by rw [h.dl]; exact hj)] at h1
      rw [List.getElem?_append_left hj] at h2
      exact hpr (h.prs k z e h1 h2)
    · have hj2 : k = p.done.length := by
        have := (List.getElem?_eq_some_iff.1 h2).1
        rw [hll] at this; omega
      subst hj2
      rw [List.getElem?_append_right (Nat.le_refl _), Nat.sub_self] at h2
      rw [List.getElem?_append_right (by rw [h.dl]; exact Nat.le_refl _), h.dl, Nat.sub_self] at h1
      simp only [List.getElem?_cons_zero, Option.some.injEq] at h1 h2
      subst h1 h2
      exact hpr hy
theorem PlAt.dA (h : PlAt w0 W b p x) {k : Nat} (hk : k < p.done.length) : ∃ g, x.dA = some ⟨g, 0, none⟩ ∧ w0.heap.size ≤ g ∧ g < W.heap.size ∧ (∃ cur, Blk W g cur 102) ∧ ∀ (d : Dn) (y : Hdr), p.done[k]? = some d → x.dh[k]? = some y → ∀ j, j < 8 → W.cell? ⟨g, k * 8 + j, none⟩ = (dnE (d, y))[j]? := by
  obtain ⟨g, off, hA, hg, hc⟩ := (h.dn.rsl dnE_len).2 (by omega)
  have h2 := h.dn.2.2
  rw [hA] at h2
  rcases h2 with ⟨e1, e2⟩ | ⟨g', cap, cur, e1, hB, hcur, _⟩
  · cases e1
  · cases e1
    refine ⟨g, hA, hB, hg, ⟨cur, hcur⟩, fun d y h3 h4 j hj => ?_⟩
    have := hc k (d, y) (by rw [List.getElem?_zip_eq_some]; exact ⟨h3, h4⟩) j hj
    rw [Nat.zero_add] at this
    exact this
theorem PlAt.dhd (h : PlAt w0 W b p x) {i : Nat} {d : Dn} (hi : p.done[i]? = some d) : ∃ y, x.dh[i]? = some y := by
  have := (List.getElem?_eq_some_iff.1 hi).1
  exact ⟨_, List.getElem?_eq_getElem (by rw [h.dl]; exact this)⟩
/-- a call that is done returns -/
theorem PlAt.back (h : PlAt w0 W b p x) {k g : Nat} {d : Dn} (hk : p.done[k]? = some d) (hA : x.dA = some ⟨g, 0, none⟩) (n : Int) :
    PlAt w0 (W.setCell ⟨g, k * 8 + 7, none⟩ (.int .i64 n)) b { p with done := p.done.set k { d with back := n } } x ∧ Fw w0 W (W.setCell ⟨g, k * 8 + 7, none⟩ (.int .i64 n)) := by
  obtain ⟨g', e, hB, hlt, ⟨cur, hcur⟩, _⟩ := h.dA (List.getElem?_eq_some_iff.1 hk).1
  rw [hA] at e
  cases e
  obtain ⟨y, hy⟩ := h.dhd hk
  have hf : Fw w0 W (W.setCell ⟨g, k * 8 + 7, none⟩ (.int .i64 n)) := Fw.set h.bel hcur hB rfl
  have hset := h.dn.setC dnE_len (g := g) (j := k) (i := 7) (u := .int .i64 n) (x := (d, y)) (x' := ({ d with back := n }, y)) (by rw [hA]; rfl) (by rw [List.getElem?_zip_eq_some]; exact ⟨hk, hy⟩) (by decide) rfl
  have ez : (p.done.zip x.dh).set k ({ d with back := n }, y) = (p.done.set k { d with back := n }).zip x.dh := by
    obtain ⟨q, e⟩ := List.getElem?_eq_some_iff.1 hy
    rw [zip_set_]
    rw [← e, List.set_getElem_self q]
  rw [ez] at hset
  have hll : (p.done.set k { d with back := n }).length = p.done.length := List.length_set ..
  refine ⟨⟨hf.bel, h.hp, ?_, h.htb, h.tb.other ?_ _, h.pl, fun k z g h1 h2 => (h.prg k z g h1 h2).fw hf, h.cok, ?_, ?_, fun j z e h1 h2 => ?_, mq_set h.md hcur (by decide) (by decide) (by decide) (by decide) (by decide)⟩, hf⟩
  · have := h.blk.other (B' := g) (j := k * 8 + 7) (fun e => by
      subst e
      have h1 : W.heap[b]? = some (.cells _ 142 (0, 0)) := h.blk
      rw [show W.heap[b]? = some (.cells cur 102 (0, 0)) from hcur] at h1
      simp only [Option.some.injEq, Obj.cells.injEq] at h1
      exact absurd h1.2.1 (by decide)) (.int .i64 n)
    unfold plC at this ⊢
    simp only [List.length_set]
    exact this
  · intro e
    subst e
    have h1 : W.heap[x.tb]? = some (.cells _ 175 (0, 0)) := h.tb
    rw [show W.heap[x.tb]? = some (.cells cur 102 (0, 0)) from hcur] at h1
    simp only [Option.some.injEq, Obj.cells.injEq] at h1
    exact absurd h1.2.1 (by decide)
  · show ROwn dnE 8 _ _ 102 (.slice x.dA (p.done.set k { d with back := n }).length x.dc) (p.done.set k { d with back := n }).length _
    rw [hll]; exact hset
  · show _ = (p.done.set k { d with back := n }).length
    rw [hll]; exact h.dl
  · have h2 : (p.done.set k { d with back := n })[j]? = some e := h2
    rw [List.getElem?_set] at h2
    by_cases e3 : k = j
    · subst e3
      rw [if_pos rfl, if_pos (List.getElem?_eq_some_iff.1 hk).1] at h2
      cases h2
      exact (h.prs k z d h1 hk).fw hf rfl
    · rw [if_neg e3] at h2
      exact (h.prs j z e h1 h2).fw hf rfl
end
end Go.Proofs.Ytoinjnocopejjaa

/- What a player does to a task. -/
namespace Go.Proofs.Ytoinjnocopejjaa
open Go.ChangeShapes Go.WideShapes Go.ChangeAt Go.RowKit Go.Maps
set_option linter.unusedVariables false
set_option linter.unusedSimpArgs false
set_option maxRecDepth 100000 in
set_option maxHeartbeats 1600000 in
theorem inv_no {w0 W : World} {b i : Nat} {p : Pl} {x : PX} {g : Pg} (h : PlAt w0 W b p x) (hi : p.tasks[i]? = some g) (wh ta ca er : Int) (fo : Bool) (va : ByteArray) (A : Option Addr) (m cc : Nat) (hn : (g.prog.length : Int) ≤ g.call) : Calls Try.prog 110 #[.pointer (some ⟨b, 0, none⟩), .pointer (some ⟨x.tb, i * 4, none⟩), .agg #[.int .u8 wh, .int .i64 ta, .int .i64 ca, .int .i64 er, .bool fo, .string va, .slice A m cc]] W fun e w' => e = .returned (.int .i64 4) ∧ Fw w0 W w' ∧ PlAt w0 w' b p x := by
  obtain ⟨y, hy⟩ := h.hdr hi
  have hb : Below W.heap.size W (W.alloc (.cells #[.int .u8 wh, .int .i64 ta, .int .i64 ca, .int .i64 er, .bool fo, .string va, .slice A m cc] 89)) := (Below.refl _ _).alloc (Nat.le_refl _) _
  have HP := Lib.hid (h.later hb)
  have HF := Lib.hid (Fw.of h.bel hb)
  have KE : Hid (Blk (W.alloc (.cells #[.int .u8 wh, .int .i64 ta, .int .i64 ca, .int .i64 er, .bool fo, .string va, .slice A m cc] 89)) W.heap.size #[.int .u8 wh, .int .i64 ta, .int .i64 ca, .int .i64 er, .bool fo, .string va, .slice A m cc] 89) := Lib.hid (Blk.new W _ 89)
  have HI := Lib.hid hi
  have HY := Lib.hid hy
  clear hb hi hy h
  go_enter Try.func110, Try.ntmps110
  go_upto_region 1 with (fail)
  generalize W.alloc (.cells #[.int .u8 wh, .int .i64 ta, .int .i64 ca, .int .i64 er, .bool fo, .string va, .slice A m cc] 89) = w1 at *
  have z0 := HP.out.pgc HI.out HY.out 0 (by decide)
  have z1 := HP.out.pgc HI.out HY.out 1 (by decide)
  simp only [pgE, List.getElem?_cons_zero, List.getElem?_cons_succ, Nat.add_zero] at z0 z1
  have d1 : decide (g.call ≥ (g.prog.length : Int)) = true := decide_eq_true hn
  have d2 : decide ((g.prog.length : Int) ≤ g.call) = true := decide_eq_true hn
  clear hn
  go_quiet (fail)
  have hb : Below w1.heap.size w1 (w1.drewN nq) := (SameW.drewN w1 nq).below (Below.refl _ _)
  replace HF := Lib.hid (HF.out.then hb)
  replace HP := Lib.hid (HP.out.later hb)
  clear hb
  generalize w1.drewN nq = w2 at *
  go_wp2
  go_ret
  exact ⟨rfl, HF.out, HP.out⟩
set_option maxRecDepth 100000 in
set_option maxHeartbeats 1600000 in
theorem inv_yes {w0 W : World} {b i : Nat} {p : Pl} {x : PX} {g : Pg} (h : PlAt w0 W b p x) (hi : p.tasks[i]? = some g) (wh ta ca er : Int) (fo : Bool) (va : ByteArray) (A : Option Addr) (m cc : Nat) (hn : g.call < (g.prog.length : Int)) : Calls Try.prog 110 #[.pointer (some ⟨b, 0, none⟩), .pointer (some ⟨x.tb, i * 4, none⟩), .agg #[.int .u8 wh, .int .i64 ta, .int .i64 ca, .int .i64 er, .bool fo, .string va, .slice A m cc]] W fun e w' => e = .returned (.int .i64 0) ∧ Fw w0 W w' ∧ PlAt w0 w' b { p with tasks := p.tasks.set i { g with ph := 1 } } x := by
  obtain ⟨y, hy⟩ := h.hdr hi
  have hb : Below W.heap.size W (W.alloc (.cells #[.int .u8 wh, .int .i64 ta, .int .i64 ca, .int .i64 er, .bool fo, .string va, .slice A m cc] 89)) := (Below.refl _ _).alloc (Nat.le_refl _) _
  have HP := Lib.hid (h.later hb)
  have HF := Lib.hid (Fw.of h.bel hb)
  have KE : Hid (Blk (W.alloc (.cells #[.int .u8 wh, .int .i64 ta, .int .i64 ca, .int .i64 er, .bool fo, .string va, .slice A m cc] 89)) W.heap.size #[.int .u8 wh, .int .i64 ta, .int .i64 ca, .int .i64 er, .bool fo, .string va, .slice A m cc] 89) := Lib.hid (Blk.new W _ 89)
  have HI := Lib.hid hi
  have HY := Lib.hid hy
  clear hb hi hy h
  go_enter Try.func110, Try.ntmps110
  go_upto_region 1 with (fail)
  generalize W.alloc (.cells #[.int .u8 wh, .int .i64 ta, .int .i64 ca, .int .i64 er, .bool fo, .string va, .slice A m cc] 89) = w1 at *
  have z0 := HP.out.pgc HI.out HY.out 0 (by decide)
  have z1 := HP.out.pgc HI.out HY.out 1 (by decide)
  simp only [pgE, List.getElem?_cons_zero, List.getElem?_cons_succ, Nat.add_zero] at z0 z1
  have d1 : decide (g.call ≥ (g.prog.length : Int)) = false := decide_eq_false (by omega)
  have d2 : decide ((g.prog.length : Int) ≤ g.call) = false := decide_eq_false (by omega)
  clear hn
  go_quiet (fail)
  have hb : Below w1.heap.size w1 (w1.drewN nq) := (SameW.drewN w1 nq).below (Below.refl _ _)
  replace HF := Lib.hid (HF.out.then hb)
  replace HP := Lib.hid (HP.out.later hb)
  clear hb
  generalize w1.drewN nq = w2 at *
  clear z0 z1
  have z2 := HP.out.pgc HI.out HY.out 2 (by decide)
  simp only [pgE, List.getElem?_cons_zero, List.getElem?_cons_succ, Nat.add_zero] at z2
  have f2 := HP.out.pgf (i * 4 + 2)
  have HS := Lib.hid (HP.out.setG (g' := { g with ph := 1 }) (u := .int .i64 1) HI.out HY.out (show 2 < 4 by decide) rfl rfl)
  go_wp2
  go_ret
  exact ⟨rfl, HF.out.trans HS.out.2, HS.out.1⟩
set_option maxRecDepth 100000 in
set_option maxHeartbeats 1600000 in
theorem back_any {w0 W : World} {pr : List Pr} {b i : Nat} {p : Pl} {x : PX} {g : Pg} (h : PlAt w0 W b p x) (hi : p.tasks[i]? = some g) (wh ta ca er : Int) (fo : Bool) (va : ByteArray) (A : Option Addr) (m cc : Nat) {k : Nat} {d : Dn} (hd : g.don = (k : Int)) (hk : p.done[k]? = some d) (hm : m = (er, fo, va, pr).2.2.2.length) (hE : ERd w0 W (wh, ta, ca, er, fo, va, pr) A) (hl : m ≤ 100000) (hc : 0 ≤ g.call ∧ g.call ≤ 100000) : Calls Try.prog 112 #[.pointer (some ⟨b, 0, none⟩), .pointer (some ⟨x.tb, i * 4, none⟩), .agg #[.int .u8 wh, .int .i64 ta, .int .i64 ca, .int .i64 er, .bool fo, .string va, .slice A m cc]] W fun e w' => e = .returned (.int .i64 (if (er, fo, va, pr) = d.a then 0 else 7)) ∧ Fw w0 W w' ∧ PlAt w0 w' b { p with tasks := p.tasks.set i { g with ph := 0, call := g.call + 1 }, done := p.done.set k { d with back := p.taken } } x := by
  obtain ⟨R, hR⟩ : ∃ R : Int, (if (er, fo, va, pr) = d.a then 0 else 7) = R := ⟨_, rfl⟩
  rw [hR]
  have HR := Lib.hid hR
  clear hR
  obtain ⟨dg, hdA, _, _, _, hdc⟩ := h.dA (List.getElem?_eq_some_iff.1 hk).1
  obtain ⟨yd, hyd⟩ := h.dhd hk
  have HDA := Lib.hid hdA
  have HYD := Lib.hid hyd
  have HK := Lib.hid hk
  have HD := Lib.hid hd
  have HM := Lib.hid hm
  have HL := Lib.hid hl
  have HC := Lib.hid hc
  have HKL : Hid (k < p.done.length) := Lib.hid (List.getElem?_eq_some_iff.1 hk).1
  clear hdc hdA hyd hk hd hm hl hc
  obtain ⟨y, hy⟩ := h.hdr hi
  have hb : Below W.heap.size W (W.alloc (.cells #[.int .u8 wh, .int .i64 ta, .int .i64 ca, .int .i64 er, .bool fo, .string va, .slice A m cc] 89)) := (Below.refl _ _).alloc (Nat.le_refl _) _
  have HP := Lib.hid (h.later hb)
  have HF := Lib.hid (Fw.of h.bel hb)
  have KE : Hid (Blk (W.alloc (.cells #[.int .u8 wh, .int .i64 ta, .int .i64 ca, .int .i64 er, .bool fo, .string va, .slice A m cc] 89)) W.heap.size #[.int .u8 wh, .int .i64 ta, .int .i64 ca, .int .i64 er, .bool fo, .string va, .slice A m cc] 89) := Lib.hid (Blk.new W _ 89)
  have HI := Lib.hid hi
  have HY := Lib.hid hy
  have HER := Lib.hid (hE.fw HF.out)
  clear hE
  clear hb hi hy h
  go_enter Try.func112, Try.ntmps112
  go_upto_region 1 with (fail)
  generalize W.alloc (.cells #[.int .u8 wh, .int .i64 ta, .int .i64 ca, .int .i64 er, .bool fo, .string va, .slice A m cc] 89) = w1 at *
  have z1 := HP.out.pgc HI.out HY.out 1 (by decide)
  have z2 := HP.out.pgc HI.out HY.out 2 (by decide)
  simp only [pgE, List.getElem?_cons_zero, List.getElem?_cons_succ, Nat.add_zero] at z1 z2
  have f1 := HP.out.pgf (i * 4 + 1)
  have f2 := HP.out.pgf (i * 4 + 2)
  have HS := Lib.hid (HP.out.setG (g' := { g with ph := 0 }) (u := .int .i64 0) HI.out HY.out (show 2 < 4 by decide) rfl rfl)
  go_upto_region 2 with (fail)
  generalize w1.setCell ⟨x.tb, i * 4 + 2, none⟩ (.int .i64 0) = w2 at *
  have HF2 := Lib.hid (HF.out.trans HS.out.2)
  have HP2 := Lib.hid HS.out.1
  have HI2 : Hid (({ p with tasks := p.tasks.set i { g with ph := 0 } } : Pl).tasks[i]? = some { g with ph := 0 }) := Lib.hid (by
    show (p.tasks.set i _)[i]? = _
    rw [List.getElem?_set, if_pos rfl, if_pos (List.getElem?_eq_some_iff.1 HI.out).1])
  have HER2 := Lib.hid (HER.out.fw HS.out.2)
  have KE2 := Lib.hid (HS.out.2.blk _ _ _ KE.out rfl)
  clear HS HF HP HER KE z1 z2 f1 f2
  have z1 := HP2.out.pgc HI2.out HY.out 1 (by decide)
  simp only [pgE, List.getElem?_cons_zero, List.getElem?_cons_succ, Nat.add_zero] at z1
  have f1 := HP2.out.pgf (i * 4 + 1)
  have wc : IntKind.i64.wrap (g.call + 1) = g.call + 1 := IntWalk.i64_in _ (by have := HC.out; omega)
  have wc2 : wrap64 (g.call + 1) = g.call + 1 := by have := HC.out; unfold wrap64; omega
  have HS := Lib.hid (HP2.out.setG (g' := { g with ph := 0, call := g.call + 1 }) (u := .int .i64 (g.call + 1)) HI2.out HY.out (show 1 < 4 by decide) rfl rfl)
  go_upto_region 3 with (fail)
  generalize w2.setCell ⟨x.tb, i * 4 + 1, none⟩ (.int .i64 (g.call + 1)) = w3 at *
  have HF3 := Lib.hid (HF2.out.trans HS.out.2)
  have HP3 : Hid (PlAt w0 w3 b { p with tasks := p.tasks.set i { g with ph := 0, call := g.call + 1 } } x) := Lib.hid (by
    have := HS.out.1
    simp only [List.set_set] at this
    exact this)
  have HI3 : Hid (({ p with tasks := p.tasks.set i { g with ph := 0, call := g.call + 1 } } : Pl).tasks[i]? = some { g with ph := 0, call := g.call + 1 }) := Lib.hid (by
    show (p.tasks.set i _)[i]? = _
    rw [List.getElem?_set, if_pos rfl, if_pos (List.getElem?_eq_some_iff.1 HI.out).1])
  have HER3 := Lib.hid (HER2.out.fw HS.out.2)
  have KE3 := Lib.hid (HS.out.2.blk _ _ _ KE2.out rfl)
  clear HS HF2 HP2 HER2 KE2 HI2 z1 f1 wc wc2
  have z3 := HP3.out.pgc HI3.out HY.out 3 (by decide)
  simp only [pgE, List.getElem?_cons_zero, List.getElem?_cons_succ, Nat.add_zero] at z3
  rw [HD.out] at z3
  have c3 := HP3.out.c0 3
  simp only [plC, List.getElem?_cons_zero, List.getElem?_cons_succ] at c3
  rw [HDA.out] at c3
  have ix := idx99 dg 0 p.done.length x.dc k (k : Int) rfl HKL.out
  simp only [Nat.zero_add] at ix
  go_quiet (fail)
  have hb : Below w3.heap.size w3 (w3.drewN nq) := (SameW.drewN w3 nq).below (Below.refl _ _)
  have HF4 := Lib.hid (HF3.out.then hb)
  have HP4 := Lib.hid (HP3.out.later hb)
  have HER4 := Lib.hid (HER3.out.fw (Fw.of HF3.out.bel hb))
  have KE4 := Lib.hid (KE3.out.later hb)
  clear hb HF3 HP3 HER3 KE3 z3 c3 ix HI3
  generalize w3.drewN nq = w4 at *
  have c2 := HP4.out.c0 2
  simp only [plC, List.getElem?_cons_zero, List.getElem?_cons_succ] at c2
  obtain ⟨dg', e', _, _, ⟨cur, hcur⟩, hdc⟩ := HP4.out.dA (k := k) HKL.out
  rw [HDA.out] at e'
  cases e'
  have d7 := hdc d yd HK.out HYD.out 7 (by decide)
  have fd := hcur.frozen (k * 8 + 7)
  simp only [dnE, List.getElem?_cons_zero, List.getElem?_cons_succ] at d7
  have HS := Lib.hid (HP4.out.back (g := dg) (n := p.taken) (k := k) (d := d) HK.out HDA.out)
  clear hdc hcur
  go_upto_region 5 with (fail)
  generalize w4.setCell ⟨dg, k * 8 + 7, none⟩ (.int .i64 p.taken) = w5 at *
  have HF5 := Lib.hid (HF4.out.trans HS.out.2)
  have HP5 := Lib.hid HS.out.1
  have HER5 := Lib.hid (HER4.out.fw HS.out.2)
  have KE5 := Lib.hid (HS.out.2.blk _ _ _ KE4.out rfl)
  clear HS HF4 HP4 HER4 KE4 c2 d7 fd
  have e3 := KE5.out.cell 3
  have e4 := KE5.out.cell 4
  have e5 := KE5.out.cell 5
  have e6 := KE5.out.cell 6
  simp only [List.getElem?_toArray, List.getElem?_cons_zero, List.getElem?_cons_succ] at e3 e4 e5 e6
  have HK5 : Hid ((p.done.set k { d with back := p.taken })[k]? = some { d with back := p.taken }) := Lib.hid (by
    rw [List.getElem?_set, if_pos rfl, if_pos HKL.out])
  obtain ⟨dg', e', _, _, _, hdc⟩ := HP5.out.dA (k := k) (by show k < (p.done.set k _).length; rw [List.length_set]; exact HKL.out)
  rw [HDA.out] at e'
  cases e'
  have d2 := hdc _ yd HK5.out HYD.out 2 (by decide)
  have d3 : w5.cell? ⟨dg, k * 8 + 2 + 1, none⟩ = some (.bool d.a.2.1) := hdc _ yd HK5.out HYD.out 3 (by decide)
  have d4 : w5.cell? ⟨dg, k * 8 + 2 + 2, none⟩ = some (.string d.a.2.2.1) := hdc _ yd HK5.out HYD.out 4 (by decide)
  have d5 : w5.cell? ⟨dg, k * 8 + 2 + 3, none⟩ = some (.slice yd.1 d.a.2.2.2.length yd.2) := hdc _ yd HK5.out HYD.out 5 (by decide)
  simp only [dnE, List.getElem?_cons_zero, List.getElem?_cons_succ] at d2
  clear hdc
  have HSM : Hid (∀ W', Below w5.heap.size w5 W' → Calls Try.prog 39 #[.agg #[.int .i64 er, .bool fo, .string va, .slice A m cc], .agg #[.int .i64 d.a.1, .bool d.a.2.1, .string d.a.2.2.1, .slice yd.1 d.a.2.2.2.length yd.2]] W' fun e w' => e = .returned (.bool (decide ((er, fo, va, pr) = d.a))) ∧ Below W'.heap.size W' w') := Lib.hid (fun W' hb => by
    have hE := HER5.out W' (Fw.of HF5.out.bel hb)
    rw [← HM.out] at hE
    exact same_any A yd.1 m cc d.a.2.2.2.length yd.2 (er, fo, va, pr) d.a W' HL.out hE (((HP5.out.prs k yd _ HYD.out HK5.out).later hb).rsl pvc_len))
  go_still_tail 6, (by kernel_rfl)
  change wpList _ _ _ _ _ (World.drew w5)
  have HSD := Lib.hid (HSM.out (World.drew w5) (Below.drew (Below.refl _ _)))
  have hb : Below w5.heap.size w5 (World.drew w5) := Below.drew (Below.refl _ _)
  have HF6 := Lib.hid (HF5.out.then hb)
  have HP6 := Lib.hid (HP5.out.later hb)
  clear hb HF5 HP5 HSM HER5 KE5 e3 e4 e5 e6 d2 d3 d4 d5
  generalize World.drew w5 = w6 at *
  obtain ⟨bq, hbq⟩ : ∃ bq, decide ((er, fo, va, pr) = d.a) = bq := ⟨_, rfl⟩
  rw [hbq] at HSD
  go_wp2_with fail
  refine HSD.out.mono ?_
  rintro e w7 ⟨rfl, hb⟩
  have HF7 := Lib.hid (HF6.out.then hb)
  have HP7 := Lib.hid (HP6.out.later hb)
  clear hb HSD HF6 HP6
  cases bq with
  | true =>
    have HQ : Hid ((er, fo, va, pr) = d.a) := Lib.hid (of_decide_eq_true hbq)
    clear hbq
    go_wp2
    go_ret
    exact ⟨by rw [← HR.out, if_pos HQ.out]; rfl, HF7.out, HP7.out⟩
  | false =>
    have HQ : Hid (¬ (er, fo, va, pr) = d.a) := Lib.hid (of_decide_eq_false hbq)
    clear hbq
    go_wp2
    go_ret
    exact ⟨by rw [← HR.out, if_neg HQ.out]; rfl, HF7.out, HP7.out⟩
end Go.Proofs.Ytoinjnocopejjaa
