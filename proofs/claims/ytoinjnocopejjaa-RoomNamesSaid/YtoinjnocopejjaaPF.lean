/- PF, PG in one. -/
import Derived.Test.YtoinjnocopejjaaPC
import Derived.Test.YtoinjnocopejjaaNX
import Derived.Test.YtoinjnocopejjaaPM
import Derived.StillTailTactics
import Derived.Deep.QuietTactic
import Derived.BigQuiet
/- A new player in memory; programs and events that can be read. -/
namespace Go.Proofs.Ytoinjnocopejjaa
open Go.ChangeShapes Go.WideShapes Go.ChangeAt Go.RowKit Go.Maps
set_option linter.unusedVariables false
set_option linter.unusedSimpArgs false
/-- programs that can be read, whatever a player does -/
structure PsOk (w0 W : World) (A : Option Addr) (n : Nat) (LP : List PH) : Prop where
  row : ∀ W', Fw w0 W W' → RSl prE 1 W' A n LP
  inn : ∀ x ∈ LP, CRd w0 W x.2.1 x.1
  cok : ∀ x ∈ LP, ∀ y ∈ x.1, COk y
structure EvOk (w0 W : World) (A : Option Addr) (n : Nat) (L : List EH) : Prop where
  row : ∀ W', Fw w0 W W' → RSl evE 7 W' A n L
  prs : ∀ x ∈ L, ERd w0 W x.1 x.2.1
  rng : ∀ x ∈ L, (0 ≤ x.1.1 ∧ x.1.1 ≤ 255) ∧ x.1.2.2.2.2.2.2.length ≤ 100000
theorem PsOk.fw {w0 W W' : World} {A : Option Addr} {n : Nat} {LP : List PH} (h : PsOk w0 W A n LP) (k : Fw w0 W W') : PsOk w0 W' A n LP :=
  ⟨fun W2 h2 => h.row W2 (k.trans h2), fun x hx => (h.inn x hx).fw k, h.cok⟩
theorem EvOk.fw {w0 W W' : World} {A : Option Addr} {n : Nat} {L : List EH} (h : EvOk w0 W A n L) (k : Fw w0 W W') : EvOk w0 W' A n L :=
  ⟨fun W2 h2 => h.row W2 (k.trans h2), fun x hx => (h.prs x hx).fw k, h.rng⟩
def psV (LP : List PH) : Ps := LP.map (·.1)
def evV (L : List EH) : List Ev := L.map (·.1)
theorem info175 : ∃ i z, Try.prog.info? 175 = some i ∧ i.zero = some z ∧ i.size = 4 ∧ i.bytes = 48 ∧ z = .agg #[.slice none 0 0, .int .i64 0, .int .i64 0, .int .i64 0] := by
  have h : (Try.prog.info? 175).map (fun i => (i.zero, i.size, i.bytes)) = some (some (.agg #[.slice none 0 0, .int .i64 0, .int .i64 0, .int .i64 0]), 4, 48) := by kernel_rfl
  cases hi : Try.prog.info? 175 with
  | none => rw [hi] at h; cases h
  | some i => rw [hi] at h; simp only [Option.map_some, Option.some.injEq, Prod.mk.injEq] at h; exact ⟨i, _, rfl, h.1, h.2.1, h.2.2, rfl⟩
def pz : GH := (⟨[], 0, 0, 0⟩, none, 0)
theorem made175 (n : Nat) (hn : n ≤ 6) : madeCells (Value.agg #[.slice none 0 0, .int .i64 0, .int .i64 0, .int .i64 0]).cells (n * 4) = (rv pgE (List.replicate n pz)).toArray := by
  rcases (by omega : n = 0 ∨ n = 1 ∨ n = 2 ∨ n = 3 ∨ n = 4 ∨ n = 5 ∨ n = 6) with rfl | rfl | rfl | rfl | rfl | rfl | rfl <;> kernel_rfl
theorem make140 (n : Nat) (hn : n ≤ 6) (W : World) : (Instr.makeSlice 140 (.int .i64 (n : Int)) (.int .i64 (n : Int))).run Try.prog W = .ok (.slice (some ⟨W.heap.size, 0, none⟩) n n) (W.alloc (.cells (rv pgE (List.replicate n pz)).toArray 175)) := by
  obtain ⟨i, z, hi, hz, hs, hb, rfl⟩ := info175
  have := run_makeSlice (P := Try.prog) W 140 175 i _ Try.underlying140 hi hz .i64 .i64 (n : Int) (n : Int) (by omega) (by omega) (by rw [hs]; simp only [Int.toNat_natCast]; omega) (by rw [hb]; omega) (by omega)
  rw [this, hs]; simp only [Int.toNat_natCast]
  rw [made175 n hn]
/-- in the midst of making a player: the first k programs are there -/
def newT (c : Conf) (P : Ps) (k : Nat) : Pl := ⟨newM c, (List.range c.ta.toNat).map (fun i => ⟨if i < k then P.getD i [] else [], 0, 0, 0⟩), 0, []⟩
theorem newT_at {c : Conf} {P : Ps} {k i : Nat} (h : i < c.ta.toNat) : (newT c P k).tasks[i]? = some ⟨if i < k then P.getD i [] else [], 0, 0, 0⟩ := by
  unfold newT
  simp only
  rw [List.getElem?_map, List.getElem?_range h]; rfl
theorem newT_len (c : Conf) (P : Ps) (k : Nat) : (newT c P k).tasks.length = c.ta.toNat := by unfold newT; simp
theorem newT_step {c : Conf} {P : Ps} {k : Nat} {l : List Cl} (h : k < c.ta.toNat) (hl : P[k]? = some l) : ({ (newT c P k) with tasks := (newT c P k).tasks.set k ⟨l, 0, 0, 0⟩ } : Pl) = newT c P (k + 1) := by
  have e : (newT c P k).tasks.set k ⟨l, 0, 0, 0⟩ = (newT c P (k + 1)).tasks := by
    apply List.ext_getElem?
    intro i
    rw [List.getElem?_set, newT_len]
    by_cases e : k = i
    · subst e
      rw [if_pos rfl, if_pos h, newT_at h, if_pos (Nat.lt_succ_self k), List.getD_eq_getElem?_getD, hl]; rfl
    · rw [if_neg e]
      by_cases hi : i < c.ta.toNat
      · rw [newT_at hi, newT_at hi]
        by_cases h2 : i < k
        · rw [if_pos h2, if_pos (by omega)]
        · rw [if_neg h2, if_neg (by omega)]
      · rw [List.getElem?_eq_none (by rw [newT_len]; omega), List.getElem?_eq_none (by rw [newT_len]; omega)]
  show (⟨_, _, _, _⟩ : Pl) = ⟨_, _, _, _⟩
  rw [e]; rfl
theorem newT_end {c : Conf} {P : Ps} : newT c P P.length = newP c P := by
  unfold newT newP
  simp only [Pl.mk.injEq, true_and, and_true]
  apply List.map_congr_left
  intro i _
  by_cases h : i < P.length
  · rw [if_pos h]
  · rw [if_neg h, List.getD_eq_getElem?_getD, List.getElem?_eq_none (by omega)]; rfl
section
variable {w0 W W' : World} {b : Nat} {p : Pl} {x : PX}
theorem PlAt.made {c : Conf} {P : Ps} {own : Nat → Nat} {mp tb : Nat} (hb : Below w0.heap.size w0 W) (hp : w0.heap.size ≤ b) (htb : w0.heap.size ≤ tb) (hblk : Blk W b #[.pointer (some ⟨mp, 0, none⟩), .slice (some ⟨tb, 0, none⟩) c.ta.toNat c.ta.toNat, .int .i64 0, .slice none 0 0] 142) (ht : Blk W tb (rv pgE (List.replicate c.ta.toNat pz)).toArray 175) (hm : MQ_ W w0.heap.size own mp (newM c)) :
    PlAt w0 W b (newT c P 0) ⟨mp, own, tb, List.replicate c.ta.toNat (none, 0), none, 0, []⟩ := by
  have et : (newT c P 0).tasks = List.replicate c.ta.toNat ⟨[], 0, 0, 0⟩ := by
    apply List.ext_getElem?
    intro i
    by_cases hi : i < c.ta.toNat
    · rw [newT_at hi, if_neg (Nat.not_lt_zero _), List.getElem?_replicate, if_pos hi]
    · rw [List.getElem?_eq_none (by rw [newT_len]; omega), List.getElem?_eq_none (by rw [List.length_replicate]; omega)]
  refine ⟨hb, hp, ?_, htb, ?_, ?_, fun i h g h1 h2 => ?_, fun g hg y hy => ?_, ROwn.nil0 _ _ _, rfl, (fun i h d h1 h2 => by cases h1), hm⟩
  · unfold plC
    rw [newT_len]; exact hblk
  · show Blk W tb (rv pgE ((newT c P 0).tasks.zip (List.replicate c.ta.toNat ((none : Option Addr), (0 : Nat))))).toArray 175
    rw [et, List.zip_replicate, Nat.min_self]; exact ht
  · show (List.replicate _ _).length = _
    rw [List.length_replicate, newT_len]
  · rw [et] at h2
    have := List.eq_of_mem_replicate (List.mem_of_getElem? h2)
    subst this
    exact fun W' _ => RSl.nil _ _
  · rw [et] at hg
    have := List.eq_of_mem_replicate hg
    subst this
    cases hy
/-- a task is given its program -/
theorem PlAt.setP (h : PlAt w0 W b p x) {i : Nat} {g : Pg} {y y' : Hdr} {l : List Cl} (hi : p.tasks[i]? = some g) (hy : x.ph[i]? = some y) (hl : CRd w0 W y'.1 l) (hc : ∀ z ∈ l, COk z) :
    PlAt w0 (W.setCell ⟨x.tb, i * 4, none⟩ (.slice y'.1 l.length y'.2)) b { p with tasks := p.tasks.set i { g with prog := l } } { x with ph := x.ph.set i y' } ∧ Fw w0 W (W.setCell ⟨x.tb, i * 4, none⟩ (.slice y'.1 l.length y'.2)) := by
  have hf : Fw w0 W (W.setCell ⟨x.tb, i * 4, none⟩ (.slice y'.1 l.length y'.2)) := Fw.set h.bel h.tb h.htb rfl
  have hil := (List.getElem?_eq_some_iff.1 hi).1
  have hyl := (List.getElem?_eq_some_iff.1 hy).1
  refine ⟨⟨hf.bel, h.hp, ?_, h.htb, ?_, ?_, fun k z g2 h1 h2 => ?_, fun g2 hg2 => ?_, rown_setO h.dn h.tb (by decide), h.dl, fun k z d h1 h2 => rown_setO (h.prs k z d h1 h2) h.tb (by decide), mq_set h.md h.tb (by decide) (by decide) (by decide) (by decide) (by decide)⟩, hf⟩
  · have := h.blk.other h.ne (.slice y'.1 l.length y'.2) (j := i * 4)
    unfold plC at this ⊢
    simp only [List.length_set]
    exact this
  · have := h.tb.set (.slice y'.1 l.length y'.2) (j := i * 4)
    rw [List.setIfInBounds_toArray] at this
    have e := rv_setE pgE_len (i := 0) (u := .slice y'.1 l.length y'.2) (show 0 < 4 by decide) (x' := ({ g with prog := l }, y')) (show pgE ({ g with prog := l }, y') = (pgE (g, y)).set 0 (.slice y'.1 l.length y'.2) from rfl) _ i (pg_at hi hy)
    rw [Nat.add_zero] at e
    rw [e, zip_set_] at this
    exact this
  · show (x.ph.set i y').length = (p.tasks.set i _).length
    rw [List.length_set, List.length_set]; exact h.pl
  · have h1 : (x.ph.set i y')[k]? = some z := h1
    have h2 : (p.tasks.set i { g with prog := l })[k]? = some g2 := h2
    rw [List.getElem?_set] at h1 h2
    by_cases e : i = k
    · subst e
      rw [if_pos rfl, if_pos hyl] at h1
      rw [if_pos rfl, if_pos hil] at h2
      cases h1; cases h2
      exact hl.fw hf
    · rw [if_neg e] at h1 h2
      exact (h.prg k z g2 h1 h2).fw hf
  · rcases List.mem_or_eq_of_mem_set hg2 with h1 | rfl
    · exact h.cok g2 h1
    · exact hc
end
end Go.Proofs.Ytoinjnocopejjaa

/- A new player. -/
namespace Go.Proofs.Ytoinjnocopejjaa
open Go.ChangeShapes Go.WideShapes Go.ChangeAt Go.RowKit Go.Maps
set_option linter.unusedVariables false
set_option linter.unusedSimpArgs false
/-- newPlayer ends so -/
def NpEnd (w0 : World) (c : Conf) (P : Ps) (W : World) (e : Ending) (w' : World) : Prop := ∃ b x, e = .returned (.pointer (some ⟨b, 0, none⟩)) ∧ Fw w0 W w' ∧ PlAt w0 w' b (newP c P) x
set_option maxRecDepth 100000 in
set_option maxHeartbeats 4000000 in
theorem newplayer_any {w0 W : World} (c : Conf) (A : Option Addr) (n cc : Nat) (LP : List PH) (hb : Below w0.heap.size w0 W) (hP : PsOk w0 W A n LP) (hmay : mayB c = true) (hn : (n : Int) ≤ c.ta) : Calls Try.prog 98 #[.agg #[.int .i64 c.ta, .int .i64 c.ac, .int .i64 c.ke, .int .i64 c.de, .int .i64 c.ts, .int .i64 c.kl, .int .i64 c.vl, .int .i64 c.fa], .slice A n cc] W (NpEnd w0 c (psV LP) W) := by
  have hm := may_lo hmay
  obtain ⟨t, ht⟩ : ∃ t : Nat, c.ta = (t : Int) := ⟨c.ta.toNat, by omega⟩
  have mk : ∀ W, (Instr.makeSlice 140 (.int .i64 c.ta) (.int .i64 c.ta)).run Try.prog W = .ok (.slice (some ⟨W.heap.size, 0, none⟩) t t) (W.alloc (.cells (rv pgE (List.replicate t pz)).toArray 175)) := fun W => by rw [ht]; exact make140 t (by omega) W
  have HT : Hid (c.ta.toNat = t) := Lib.hid (by omega)
  have HNT : Hid (n ≤ t) := Lib.hid (by omega)
  have HLN : Hid (LP.length = n) := Lib.hid (hP.row W (Fw.refl hb)).1
  have HPS := Lib.hid hP
  have HMAY := Lib.hid hmay
  have HB0 := Lib.hid hb
  have hb1 : Below W.heap.size W (W.alloc (.cells #[.int .i64 c.ta, .int .i64 c.ac, .int .i64 c.ke, .int .i64 c.de, .int .i64 c.ts, .int .i64 c.kl, .int .i64 c.vl, .int .i64 c.fa] 45)) := (Below.refl _ _).alloc (Nat.le_refl _) _
  have HB : Hid (Below W.heap.size W (W.alloc (.cells #[.int .i64 c.ta, .int .i64 c.ac, .int .i64 c.ke, .int .i64 c.de, .int .i64 c.ts, .int .i64 c.kl, .int .i64 c.vl, .int .i64 c.fa] 45))) := Lib.hid hb1
  have KC : Hid (Blk (W.alloc (.cells #[.int .i64 c.ta, .int .i64 c.ac, .int .i64 c.ke, .int .i64 c.de, .int .i64 c.ts, .int .i64 c.kl, .int .i64 c.vl, .int .i64 c.fa] 45)) W.heap.size #[.int .i64 c.ta, .int .i64 c.ac, .int .i64 c.ke, .int .i64 c.de, .int .i64 c.ts, .int .i64 c.kl, .int .i64 c.vl, .int .i64 c.fa] 45) := Lib.hid (Blk.new W _ 45)
  clear hP hb hmay hm ht hn hb1
  go_enter Try.func98, Try.ntmps98
  go_upto_region 1 with (fail)
  generalize (W.alloc (.cells #[.int .i64 c.ta, .int .i64 c.ac, .int .i64 c.ke, .int .i64 c.de, .int .i64 c.ts, .int .i64 c.kl, .int .i64 c.vl, .int .i64 c.fa] 45)) = w1 at *
  have z0 := KC.out.cell 0
  simp only [List.getElem?_toArray, List.getElem?_cons_zero] at z0
  go_upto_region 2 with (fail)
  have hb2 : Below w1.heap.size w1 ((w1.alloc (.cells (rv pgE (List.replicate t pz)).toArray 175)).alloc (.cells #[.pointer none, .slice (some ⟨w1.heap.size, 0, none⟩) t t, .int .i64 0, .slice none 0 0] 142)) := ((Below.refl _ _).alloc (Nat.le_refl _) _).alloc (by simp) _
  have KT : Hid (Blk ((w1.alloc (.cells (rv pgE (List.replicate t pz)).toArray 175)).alloc (.cells #[.pointer none, .slice (some ⟨w1.heap.size, 0, none⟩) t t, .int .i64 0, .slice none 0 0] 142)) w1.heap.size (rv pgE (List.replicate t pz)).toArray 175) := Lib.hid ((Blk.new w1 _ 175).alloc _)
  have KP : Hid (Blk ((w1.alloc (.cells (rv pgE (List.replicate t pz)).toArray 175)).alloc (.cells #[.pointer none, .slice (some ⟨w1.heap.size, 0, none⟩) t t, .int .i64 0, .slice none 0 0] 142)) (w1.heap.size + 1) #[.pointer none, .slice (some ⟨w1.heap.size, 0, none⟩) t t, .int .i64 0, .slice none 0 0] 142) := Lib.hid (Blk.new2 _ _ 142 (by simp))
  have HS1 : Hid (W.heap.size ≤ w1.heap.size) := Lib.hid HB.out.size
  replace HB := Lib.hid (stepB HB.out hb2)
  replace KC := Lib.hid (KC.out.later hb2)
  clear hb2 z0 mk
  generalize ((w1.alloc (.cells (rv pgE (List.replicate t pz)).toArray 175)).alloc (.cells #[.pointer none, .slice (some ⟨w1.heap.size, 0, none⟩) t t, .int .i64 0, .slice none 0 0] 142)) = w2 at *
  generalize w1.heap.size = tb at *
  have HS2 : Hid (tb + 1 < w2.heap.size) := Lib.hid KP.out.lt
  have z0 := KC.out.cell 0
  have z1 := KC.out.cell 1
  have z2 := KC.out.cell 2
  have z3 := KC.out.cell 3
  have z4 := KC.out.cell 4
  have z5 := KC.out.cell 5
  have z6 := KC.out.cell 6
  have z7 := KC.out.cell 7
  simp only [List.getElem?_toArray, List.getElem?_cons_zero, List.getElem?_cons_succ] at z0 z1 z2 z3 z4 z5 z6 z7
  go_wp2_with fail
  refine (new_any c _).mono ?_
  rintro e w3 ⟨hb3, hnew⟩
  obtain ⟨mp, S, rfl, hmr⟩ := new_ok ⟨hb3, hnew⟩ HMAY.out
  have HSZ : Hid (w0.heap.size ≤ w2.heap.size ∧ w0.heap.size ≤ tb) := Lib.hid (by have h1 := HB0.out.size; have h2 := HS1.out; have h3 := HS2.out; omega)
  have HQ : Hid (MQ_ w3 w0.heap.size (ownT w2 (fun _ => 0) mp) mp (newM c)) := Lib.hid (MQ_.new hmr HSZ.out.1)
  have HB3 : Hid (Below W.heap.size W w3) := Lib.hid (stepB HB.out hb3)
  have KT3 := Lib.hid (KT.out.later hb3)
  have KP3 := Lib.hid (KP.out.later hb3)
  clear z0 z1 z2 z3 z4 z5 z6 z7 hb3 hnew hmr KT KP KC HB
  have y0 := KP3.out.cell 0
  have f0 := KP3.out.frozen 0
  simp only [List.getElem?_toArray, List.getElem?_cons_zero] at y0
  go_upto_region 3 with (fail)
  have HF3 : Hid (Fw w0 W w3) := Lib.hid (Fw.of HB0.out HB3.out)
  have hf4 : Fw w0 w3 (w3.setCell ⟨tb + 1, 0, none⟩ (.pointer (some ⟨mp, 0, none⟩))) := Fw.set HF3.out.bel KP3.out (by have := HSZ.out; omega) rfl
  have HF4 := Lib.hid (HF3.out.trans hf4)
  have HP4 : Hid (PlAt w0 (w3.setCell ⟨tb + 1, 0, none⟩ (.pointer (some ⟨mp, 0, none⟩))) (tb + 1) (newT c (psV LP) 0) ⟨mp, ownT w2 (fun _ => 0) mp, tb, List.replicate c.ta.toNat (none, 0), none, 0, []⟩) := Lib.hid (PlAt.made hf4.bel (by have := HSZ.out; omega) HSZ.out.2 (by rw [HT.out]; exact KP3.out.set (j := 0) _) (by rw [HT.out]; exact KT3.out.other (by omega) _) (mq_set HQ.out KP3.out (by decide) (by decide) (by decide) (by decide) (by decide)))
  clear y0 f0 hf4 HQ KT3 KP3 HF3 HB3
  generalize w3.setCell ⟨tb + 1, 0, none⟩ (.pointer (some ⟨mp, 0, none⟩)) = w4 at *
  go_wp2
  go_loopw [23] (fun ix W' => ∃ (k : Nat) (x : PX), k ≤ n ∧ ix = .int .i64 k ∧ x.tb = tb ∧ PlAt w0 W' (tb + 1) (newT c (psV LP) k) x ∧ Fw w0 W W') (fun ix _ => n - (intOf ix).toNat)
  case atStart => exact ⟨0, _, Nat.zero_le _, rfl, rfl, HP4.out, HF4.out⟩
  case round =>
    obtain ⟨k, x, hk, rfl, hxt, hp, hf⟩ := hrel
    have HP := Lib.hid hp
    have HF := Lib.hid hf
    have HXT := Lib.hid hxt
    clear hp hf hxt HP4 HF4
    by_cases hlt : k < n
    · have d2 : decide ((k : Int) < (n : Int)) = true := decide_eq_true (by omega)
      have wk : IntKind.i64.wrap ((k : Int) + 1) = (k : Int) + 1 := IntWalk.i64_in _ (by have := HNT.out; have := HT.out; have := may_lo HMAY.out; omega)
      obtain ⟨g, off, rfl, hg, hc⟩ := (HPS.out.row wr HF.out).2 (by omega)
      have hrk : LP[k]? = some (LP[k]'(by rw [HLN.out]; exact hlt)) := List.getElem?_eq_getElem _
      generalize LP[k]'(by rw [HLN.out]; exact hlt) = r at *
      obtain ⟨l, y⟩ := r
      have c0 := hc k _ hrk 0 (by decide)
      have i1 := idx93 g off n cc k (k : Int) rfl hlt
      simp only [Nat.mul_one, Nat.add_zero, prE, List.getElem?_cons_zero] at c0
      have HRK := Lib.hid hrk
      have HTA := Lib.hid (newT_at (c := c) (P := psV LP) (k := k) (i := k) (by have := HNT.out; have := HT.out; omega))
      obtain ⟨y0, hy0⟩ := HP.out.hdr HTA.out
      have c1 := HP.out.c0 1
      simp only [plC, List.getElem?_cons_zero, List.getElem?_cons_succ] at c1
      rw [newT_len, HT.out, HXT.out] at c1
      have i2 := idx140 tb 0 t t k (k : Int) rfl (by have := HNT.out; omega)
      simp only [Nat.zero_add] at i2
      have c2 := HP.out.pgc HTA.out hy0 0 (by decide)
      have f2 := HP.out.pgf (k * 4)
      simp only [pgE, List.getElem?_cons_zero, Nat.add_zero] at c2
      rw [HXT.out] at c2 f2
      have HSP := Lib.hid (HP.out.setP (y' := y) (l := l) HTA.out hy0 ((HPS.out.inn _ (List.mem_of_getElem? hrk)).fw HF.out) (HPS.out.cok _ (List.mem_of_getElem? hrk)))
      have HNE : Hid (({ (newT c (psV LP) k) with tasks := (newT c (psV LP) k).tasks.set k ⟨l, 0, 0, 0⟩ } : Pl) = newT c (psV LP) (k + 1)) := Lib.hid (newT_step (by have := HNT.out; have := HT.out; omega) (by unfold psV; rw [List.getElem?_map, hrk]; rfl))
      clear hc hg hrk hy0
      go_wp2
      have hsp := HSP.out
      rw [HXT.out] at hsp
      refine ⟨⟨k + 1, ⟨x.mp, x.own, tb, x.ph.set k y, x.dA, x.dc, x.dh⟩, by omega, by go_num, rfl, by rw [← HNE.out]; exact hsp.1, HF.out.trans hsp.2⟩, ?_⟩
      simp [intOf]; omega
    · obtain rfl : k = n := by omega
      have d2 : decide ((k : Int) < (k : Int)) = false := decide_eq_false (by omega)
      have HNE : Hid (newT c (psV LP) k = newP c (psV LP)) := Lib.hid (by rw [← HLN.out, show LP.length = (psV LP).length by unfold psV; simp]; exact newT_end)
      have HPE : Hid (PlAt w0 wr (tb + 1) (newP c (psV LP)) x) := Lib.hid (by rw [← HNE.out]; exact HP.out)
      go_wp2
      go_ret
      exact ⟨tb + 1, x, rfl, HF.out, HPE.out⟩
end Go.Proofs.Ytoinjnocopejjaa
