/- Steps: too many? one is done; a copy. -/
import Derived.Test.YtgbcncfgpdlmiaaPW
namespace Go.Proofs.Ytgbcncfgpdlmiaa
open Go.ChangeShapes Go.WideShapes Go.ChangeAt Go.RowKit Go.Maps
set_option linter.unusedVariables false
set_option linter.unusedSimpArgs false

/-- a step's answer as an event of nothing else -/
def toRE (s : SE) : RE := ((0, 0, 0, s.1.2.2), s.2)
def LargeEnd (n : Nat) (Ss : List SE) (w : World) (e : Ending) (w' : World) : Prop := ∃ r : Bool, e = .returned (.bool r) ∧ Below w.heap.size w w' ∧ (r = false → n ≤ 200 ∧ ∀ s ∈ Ss, s.2.2.1 < 3000)
theorem built40a (er : Int) (fo : Bool) (va : ByteArray) (A : Option Addr) (n c : Nat) : Try.prog.built 40 [(3, .agg #[.int .i64 er, .bool fo, .string va, .slice A n c])] = some #[.int .u8 0, .int .i64 0, .int .i64 0, .int .i64 er, .bool fo, .string va, .slice A n c] := by kernel_rfl
theorem idx47 (g off m c k : Nat) (i : Int) (hi : i = (k : Int)) (h : k < m) (W : World) : (Instr.indexAt 47 (.slice (some ⟨g, off, none⟩) m c) (.int .i64 i)).run Try.prog W = .ok (.pointer (some ⟨g, off + k * 6, none⟩)) W := by
  subst hi
  have h1 : (0 : Int) ≤ (k : Int) ∧ (k : Int) < (m : Int) := by omega
  go_simp
theorem take_re (Ss : List SE) (k : Nat) (s : SE) (h : Ss[k]? = some s) : (Ss.take (k + 1)).map toRE = (Ss.take k).map toRE ++ [toRE s] := by
  rw [List.take_add_one, h, List.map_append]; rfl
set_option maxRecDepth 100000 in
set_option maxHeartbeats 4000000 in
theorem large_any (A : Option Addr) (n c : Nat) (Ss : List SE) (w : World) (hS : StS w A n Ss) (hn : n ≤ maxLen) : Calls Try.prog 21 #[.slice A n c] w (LargeEnd n Ss w) := by
  have HS := Lib.hid hS
  have HLN : Hid (Ss.length = n) := hS.rd.1
  unfold maxLen at hn
  clear hS
  rcases Nat.lt_or_ge 200 n with h2 | h2
  · have d1 : decide ((200 : Int) < (n : Int)) = true := decide_eq_true (by omega)
    go_enter Try.func21, Try.ntmps21
    go_wp2
    go_ret
    exact ⟨true, rfl, Below.refl _ _, fun h => by cases h⟩
  have d1 : decide ((200 : Int) < (n : Int)) = false := decide_eq_false (by omega)
  go_enter Try.func21, Try.ntmps21
  go_wp2
  go_loopw [3, 4] (fun o i W => ∃ (k : Nat) (v : Value), k ≤ n ∧ i = .int .i64 k ∧ v = o ∧ ROwn evc 7 W w.heap.size 40 v k ((Ss.take k).map toRE) ∧ Below w.heap.size w W) (fun _ i _ => n - (intOf i).toNat)
  case atStart => exact ⟨0, _, Nat.zero_le _, rfl, rfl, ROwn.nil0 _ _ _, Below.refl _ _⟩
  case round =>
    obtain ⟨k, v, hk, rfl, rfl, ho, hb⟩ := hrel
    have HO := Lib.hid ho
    have HBW := Lib.hid hb
    clear ho hb
    by_cases hlt : k < n
    · have d2 : decide ((k : Int) < (n : Int)) = true := decide_eq_true (by omega)
      have wk : IntKind.i64.wrap ((k : Int) + 1) = (k : Int) + 1 := IntWalk.i64_in _ (by omega)
      obtain ⟨g, off, rfl, hg, hc⟩ := (HS.out.later HBW.out).rd.2 (by omega)
      have i5 := idx47 g off n c k (k : Int) rfl hlt
      have hrk : Ss[k]? = some (Ss[k]'(by rw [HLN.out]; exact hlt)) := List.getElem?_eq_getElem _
      have HTK := Lib.hid (take_re Ss k _ hrk)
      generalize Ss[k]'(by rw [HLN.out]; exact hlt) = s at *
      obtain ⟨⟨wh, t, er, fo, va, ps⟩, A1, n1, c1⟩ := s
      have x2 := hc k _ hrk 2 (by decide)
      have x3 := hc k _ hrk 3 (by decide)
      have x4 := hc k _ hrk 4 (by decide)
      have x5 := hc k _ hrk 5 (by decide)
      simp only [stc, hdv, List.getElem?_cons_zero, List.getElem?_cons_succ, Nat.add_zero] at x2 x3 x4 x5
      have y3 : wr.cell? ⟨g, off + k * 6 + 2 + 1, none⟩ = some (.bool fo) := x3
      have y4 : wr.cell? ⟨g, off + k * 6 + 2 + 2, none⟩ = some (.string va) := x4
      have y5 : wr.cell? ⟨g, off + k * 6 + 2 + 3, none⟩ = some (.slice A1 n1 c1) := x5
      clear hc hrk hg x3 x4 x5
      have hby : Below wr.heap.size wr (wr.alloc (.cells #[.int .u8 0, .int .i64 0, .int .i64 0, .int .i64 er, .bool fo, .string va, .slice A1 n1 c1] 40)) := (Below.refl _ _).alloc (Nat.le_refl _) _
      have HX3 : Hid (RSl evc 7 (wr.alloc (.cells #[.int .u8 0, .int .i64 0, .int .i64 0, .int .i64 er, .bool fo, .string va, .slice A1 n1 c1] 40)) (some ⟨wr.heap.size, 0, none⟩) 1 [((0, 0, 0, er, fo, va, ps), (A1, n1, c1))]) := Blk.rsl (x := ((0, 0, 0, er, fo, va, ps), (A1, n1, c1))) (Blk.new wr _ 40)
      have HO3 := Lib.hid (HO.out.later hby)
      have HB3 := Lib.hid (stepB HBW.out hby)
      clear hby HO
      obtain ⟨Av, cv, hv, _, _⟩ := HO3.out.sl
      subst hv
      go_wp2_with (first
        | (refine wpl_build rfl 40 _ rfl _ (built40a er fo va A1 n1 c1) ?_)
        | (at_builtin; refine append_row1 elemEv rfl (.tmp 14) (.tmp 21) rfl w.heap.size (.slice Av k cv) k ((Ss.take k).map toRE) rfl HO3.out wr.heap.size 1 ((0, 0, 0, er, fo, va, ps), (A1, n1, c1)) rfl HX3.out (by omega) (by decide) HB3.out.size ?_; intro A4 c4 w4 ho4 hg4 hn4)
        | fail)
      intro hl4
      have HO4 := Lib.hid ho4
      have HB4 : Hid (Below w.heap.size w w4) := HB3.out.grown hg4 HB3.out.size (fun j e => (HO3.out.lt j e).1)
      have HT : Hid ((Ss.take (k + 1)).map toRE = (Ss.take k).map toRE ++ [((0, 0, 0, er, fo, va, ps), (A1, n1, c1))]) := HTK.out
      clear ho4 hg4 hn4 hl4 HX3 HO3 HB3 HTK
      go_wp2
      go_roundw
      case rel => exact ⟨k + 1, _, by omega, by go_num, rfl, by rw [HT.out]; exact HO4.out, HB4.out⟩
      case measure => simp [intOf]; omega
    · obtain rfl : k = n := by omega
      have d2 : decide ((k : Int) < (k : Int)) = false := decide_eq_false (by omega)
      obtain ⟨Av, cv, hv, _, _⟩ := HO.out.sl
      subst hv
      have HE : Hid (EvS wr Av k ((Ss.take k).map toRE)) := ⟨HO.out.rsl evc_len, fun r hr => by
        obtain ⟨s, hs, rfl⟩ := List.mem_map.1 hr
        exact (HS.out.later HBW.out).po s (List.mem_of_mem_take hs)⟩
      have HW := Lib.hid (wide_any Av k cv _ wr HE.out (by unfold maxLen; omega))
      go_wp2_with fail
      refine HW.out.mono ?_
      rintro e w2 ⟨r, rfl, hb, hr⟩
      have HB2 := Lib.hid (stepB HBW.out hb)
      have HR := Lib.hid hr
      have HN : Hid (k ≤ 200) := h2
      clear hb hr
      go_wp2
      go_ret
      exact ⟨r, rfl, HB2.out, fun h => ⟨HN.out, fun s hs => (HR.out h).2 (toRE s) (List.mem_map.2 ⟨s, by rw [List.take_of_length_le (by rw [HLN.out]; exact Nat.le_refl _)]; exact hs, rfl⟩)⟩⟩
/-- what a step asks of a recorder -/
def doW (wh : Int) : Int := if wh = 1 then 1 else if wh = 2 then 2 else 3
def doA (wh : Int) (a : An) : An := if wh = 1 ∨ wh = 2 then an0 else a
theorem AdEnd.from {B p : Nat} {tasks : Int} {v : Value} {Rs : List RE} {wh t : Int} {a : An} {w w1 w' : World} {e : Ending} (hb : Below w.heap.size w w1) (h : AdEnd B p tasks v Rs wh t a w1 e w') : AdEnd B p tasks v Rs wh t a w e w' := by
  obtain ⟨h0, v', Rs', h1, h2, h3, h4⟩ := h
  exact ⟨h0, v', Rs', h1, h2, (FrR.of_below hb).trans h3 Nw.refl, fun k e => (h4 k e).imp id (fun e => Nat.le_trans hb.size e)⟩
set_option maxRecDepth 100000 in
set_option maxHeartbeats 4000000 in
theorem do_any (B p : Nat) (tasks : Int) (v : Value) (Rs : List RE) (w : World) (h : RcAt w B p tasks v Rs) (hB : B ≤ w.heap.size) (h6 : tasks ≤ 6) (wh t er : Int) (fo : Bool) (va : ByteArray) (ps : List Pr) (A : Option Addr) (n c : Nat) (hp : ∀ W, FrR w W p v → PO W (A, n, c) ps) (hn : n ≤ 100000) (hl : Rs.length ≤ 100000) :
    Calls Try.prog 23 #[.agg #[.int .u8 wh, .int .i64 t, .int .i64 er, .bool fo, .string va, .slice A n c], .pointer (some ⟨p, 0, none⟩)] w (AdEnd B p tasks v Rs (doW wh) t (doA wh (er, fo, va, ps)) w) := by
  have hb : Below w.heap.size w (w.alloc (.cells #[.int .u8 wh, .int .i64 t, .int .i64 er, .bool fo, .string va, .slice A n c] 50)) := (Below.refl _ _).alloc (Nat.le_refl _) _
  have HB := Lib.hid hb
  have h1 := h.later hb
  have hB1 := Nat.le_trans hB hb.size
  by_cases e1 : wh = 1
  · have q1 : doW wh = 1 := if_pos e1
    have q2 : doA wh (er, fo, va, ps) = an0 := if_pos (.inl e1)
    rw [q1, q2]
    have HA := Lib.hid (invoke_any B p tasks v Rs _ h1 hB1 h6 t hl)
    have d1 : (wh == 1) = true := by simp [e1]
    clear h h1 hb hp q1 q2 e1
    go_enter Try.func23, Try.ntmps23
    go_wp2_with fail
    refine (HA.out).mono ?_
    rintro e w2 ⟨rfl, hh⟩
    have HH := Lib.hid hh
    clear hh
    go_wp2
    go_ret
    exact AdEnd.from HB.out ⟨rfl, HH.out⟩
  by_cases e2 : wh = 2
  · have q1 : doW wh = 2 := by unfold doW; rw [if_neg e1, if_pos e2]
    have q2 : doA wh (er, fo, va, ps) = an0 := if_pos (.inr e2)
    rw [q1, q2]
    have HA := Lib.hid (mark_any B p tasks v Rs _ h1 hB1 h6 t hl)
    have d1 : (wh == 1) = false := by simp [e1]
    have d2 : (wh == 2) = true := by simp [e2]
    clear h h1 hb hp q1 q2 e1 e2
    go_enter Try.func23, Try.ntmps23
    go_wp2_with fail
    refine (HA.out).mono ?_
    rintro e w2 ⟨rfl, hh⟩
    have HH := Lib.hid hh
    clear hh
    go_wp2
    go_ret
    exact AdEnd.from HB.out ⟨rfl, HH.out⟩
  have q1 : doW wh = 3 := by unfold doW; rw [if_neg e1, if_neg e2]
  have q2 : doA wh (er, fo, va, ps) = (er, fo, va, ps) := if_neg (by rintro (h | h) <;> contradiction)
  rw [q1, q2]
  have HA := Lib.hid (return_any B p tasks v Rs _ h1 hB1 h6 t er fo va ps A n c (fun W hf => hp W ((FrR.of_below hb).trans hf Nw.refl)) hn hl)
  have d1 : (wh == 1) = false := by simp [e1]
  have d2 : (wh == 2) = false := by simp [e2]
  clear h h1 hb hp q1 q2 e1 e2
  go_enter Try.func23, Try.ntmps23
  go_wp2_with fail
  refine (HA.out).mono ?_
  rintro e w2 ⟨rfl, hh⟩
  have HH := Lib.hid hh
  clear hh
  go_wp2
  go_ret
  exact AdEnd.from HB.out ⟨rfl, HH.out⟩
def CpEnd (tasks : Int) (L : List Ev) (w : World) (e : Ending) (w' : World) : Prop := ∃ p v Rs, e = .returned (.pointer (some ⟨p, 0, none⟩)) ∧ RcAt w' w.heap.size p tasks v Rs ∧ Rs.map Prod.fst = L ∧ Below w.heap.size w w'
set_option maxRecDepth 100000 in
set_option maxHeartbeats 4000000 in
theorem copy_any (B p : Nat) (tasks : Int) (v : Value) (Rs : List RE) (w : World) (h : RcAt w B p tasks v Rs) (hl : Rs.length ≤ 100000) (hp : ∀ r ∈ Rs, r.2.2.1 ≤ 100000) : Calls Try.prog 16 #[.pointer (some ⟨p, 0, none⟩)] w (CpEnd tasks (Rs.map Prod.fst) w) := by
  obtain ⟨A, c, rfl, _, _⟩ := h.row.row.sl
  obtain ⟨v, hv⟩ : ∃ v, Value.slice A Rs.length c = v := ⟨_, rfl⟩
  rw [hv] at h
  obtain ⟨q, hq⟩ : ∃ q, w.heap.size = q := ⟨_, rfl⟩
  have hb : Below w.heap.size w (w.alloc (.cells (recc tasks (Rs.map Prod.fst) v).toArray 72)) := (Below.refl _ _).alloc (Nat.le_refl _) _
  have HB := Lib.hid hb
  have HQ := Lib.hid (Blk.new2 w (recc tasks (Rs.map Prod.fst) v).toArray 72 hq)
  have HE := Lib.hid (events_any B p tasks v Rs _ (h.later hb) hl hp)
  have c0 := h.blk.cell 0
  have c1 := h.blk.cell 1
  have c2 := h.blk.cell 2
  have c3 := h.blk.cell 3
  have c4 := h.blk.cell 4
  have c5 := h.blk.cell 5
  have c6 := h.blk.cell 6
  have c7 := h.blk.cell 7
  simp only [recc, cnts, List.cons_append, List.nil_append, List.getElem?_toArray, List.getElem?_cons_zero, List.getElem?_cons_succ] at c0 c1 c2 c3 c4 c5 c6 c7
  obtain ⟨L, hL⟩ : ∃ L, Rs.map Prod.fst = L := ⟨_, rfl⟩
  rw [hL] at HB HQ HE c1 c2 c3 c4 c5 c6
  rw [hL]
  subst hv
  clear h hb hL hp
  have HLT : Hid (w.heap.size ≤ q) := by rw [hq]; exact Nat.le_refl _
  go_enter Try.func16, Try.ntmps16
  go_wp2_with fail
  refine HE.out.mono ?_
  rintro e w2 ⟨A1, c2, n1, Rs1, rfl, ho, hm, hb⟩
  have hn1 : n1 = Rs1.length := ho.row.1.symm
  subst hn1
  have HB2 := Lib.hid (stepB HB.out hb)
  have HQ2 := Lib.hid (HQ.out.later hb)
  have HO2 := Lib.hid (ho.base HB.out.size)
  have HNE : Hid (∀ k, (Value.slice A1 Rs1.length c2).ownBlock = some k → k ≠ q) := fun k e => by
    have := (ho.lt k e).1
    have := HQ.out.lt
    omega
  have HPE : Hid (∀ r ∈ Rs1, ∀ g, r.2.1.map (fun a => a.block) = some g → g ≠ q) := fun r hr g e => by
    have := ((ho.po r hr).lt g e).1
    have := HQ.out.lt
    omega
  have HM := Lib.hid hm
  have q7 := HQ2.out.cell 7
  have f7 := HQ2.out.frozen 7
  have e7 : (recc tasks L (.slice A Rs.length c)).toArray[7]? = some (.slice A Rs.length c) := rfl
  rw [e7] at q7
  clear ho hm hb HQ HE HB e7
  go_wp2
  go_ret
  refine ⟨q, .slice A1 Rs1.length c2, Rs1, rfl, ⟨HLT.out, ?_, ?_⟩, HM.out, ?_⟩
  · have := HQ2.out.set (j := 7) (.slice A1 Rs1.length c2)
    rw [recc_row, ← HM.out] at this
    exact this
  · have hg := grown_set w2 q 7 (.slice A1 Rs1.length c2)
    exact ⟨HO2.out.row.keepS (fun i e => hg.block i (HO2.out.lt i e).2 (fun e2 => HNE.out i e (Option.some.inj e2))), fun r hr => (HO2.out.po r hr).keep hg.size (fun g e => hg.block g ((HO2.out.po r hr).lt g e).2 (fun e2 => HPE.out r hr g e (Option.some.inj e2)))⟩
  · exact Below.setCell (p := ⟨q, 7, none⟩) HB2.out HLT.out _
end Go.Proofs.Ytgbcncfgpdlmiaa
