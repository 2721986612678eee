/- The document's dead: Add, Less, Pass. -/
import Derived.Test.YtlnfdcaljmfbjaaP2
namespace Go.Proofs.Ytlnfdcaljmfbjaa
open Go.ChangeShapes Go.WideShapes Go.ChangeAt Go.RowKit Go.Maps
set_option linter.unusedVariables false
set_option linter.unusedSimpArgs false

theorem owI_of {W : World} {B n : Nat} {v : Value} {o : List Int} (h : Ow iv W B 3 v n o) (e : n = o.length) : OwI W B v o := by subst e; exact h
theorem rf_end {B p : Nat} {M L : List Int} {r r' v' : Value} {w w' : World} (hr : r' = r) (hL : M = L) (h : RfAt w' B p v' M) (hg : w.grownBy w' (some p)) : RfEnd B p L r w (.returned r') w' := by subst hr hL; exact ⟨rfl, _, h, hg⟩
set_option maxRecDepth 100000 in
set_option maxHeartbeats 4000000 in
theorem rpass_any (B p : Nat) (v : Value) (L : List Int) (f : Int) (w : World) (h : RfAt w B p v L) (hn : L.length ≤ 1000) : Calls Try.prog 22 #[.pointer (some ⟨p, 0, none⟩), .int .i64 f] w (RfEnd B p (L.filter (fun x => decide (f < x))) (.int .i64 ((L.length : Int) - ((L.filter (fun x => decide (f < x))).length : Nat))) w) := by
  obtain ⟨A, c, rfl, hs0⟩ := h.row
  have H := Lib.hid h
  clear h hs0
  go_enter Try.func22, Try.ntmps22
  go_wp2
  go_loopw [5, 6] (fun out i wr => ∃ (k : Nat) (o : List Int), k ≤ L.length ∧ i = .int .i64 k ∧ o = runF (stepP f) [] L k ∧ o.length ≤ k ∧ OwI wr w.heap.size out o ∧ Below w.heap.size w wr) (fun _ i _ => L.length - (intOf i).toNat)
  case atStart => exact ⟨0, [], Nat.zero_le _, rfl, rfl, Nat.le_refl _, Ow.none _ _ _, Below.refl _ _⟩
  case round =>
    obtain ⟨k, o, hk, rfl, ho, hol, hs, hb⟩ := hrel
    have HS := Lib.hid hs
    have HB := Lib.hid hb
    have HO := Lib.hid ho
    obtain ⟨Ao, co, rfl, _⟩ := Ow.sl hs
    clear hs hb ho
    obtain ⟨A, c, e, hs⟩ := (H.out.later HB.out).row
    cases e
    have k0 := (H.out.later HB.out).blk.cell 0
    simp only [List.getElem?_toArray, List.getElem?_cons_zero] at k0
    have HSL := Lib.hid hs
    clear hs
    by_cases hlt : k < L.length
    · have d2 : decide ((k : Int) < (L.length : Int)) = true := decide_eq_true (by omega)
      have wk : IntKind.i64.wrap ((k : Int) + 1) = (k : Int) + 1 := IntWalk.i64_in _ (by omega)
      obtain ⟨g, off, rfl, x0, i1⟩ := rindex A L c k _ HSL.out hlt
      have HN := Lib.hid (runF_succ (stepP f) [] L hlt)
      rw [← HO.out] at HN
      generalize L.getD k 0 = z at *
      by_cases e : f < z
      · have dz : decide (f < z) = true := decide_eq_true e
        have HN2 : Hid (runF (stepP f) [] L (k + 1) = o ++ [z]) := HN.out.trans (if_pos e)
        clear HN
        have hb6 : Below wr.heap.size wr (wr.alloc (.cells #[.int .i64 z] 3)) := (Below.refl _ _).alloc (Nat.le_refl _) _
        have HS6 := Lib.hid (Ow.later HS.out hb6)
        have HB6 := Lib.hid (stepB HB.out hb6)
        have HX6 : Hid (Sl iv (wr.alloc (.cells #[.int .i64 z] 3)) (some ⟨wr.heap.size, 0, none⟩) 1 1 [z]) := Blk.sl (enc := iv) (xs := [z]) (Blk.new wr #[.int .i64 z] 3)
        clear hb6
        go_wp2_with (at_builtin; refine wpList_append_sl elemI rfl (.tmp 26) (.tmp 34) rfl w.heap.size _ _ _ rfl HS6.out (some ⟨wr.heap.size, 0, none⟩) 1 1 [z] rfl HX6.out (by omega) (by decide) HB6.out.size ?_; intro v7 w7 ho7)
        intro hg7
        have HB7 : Hid (Below w.heap.size w w7) := HB6.out.grown hg7 HB6.out.size (fun j hj => (Ow.lt HS6.out j hj).1)
        obtain ⟨A7, c7, rfl, _⟩ := Ow.sl ho7
        have HS7 := Lib.hid ho7
        clear ho7 hg7 HS6 HB6 HX6
        clear x0 k0 i1 HS HB HSL HO
        go_wp2
        go_roundw
        case rel => exact ⟨k + 1, _, by omega, by go_num, HN2.out.symm, by simp; omega, owI_of HS7.out (by simp), HB7.out⟩
        case measure => simp [intOf]; omega
      · have dz : decide (f < z) = false := decide_eq_false e
        have HN2 : Hid (runF (stepP f) [] L (k + 1) = o) := HN.out.trans (if_neg e)
        clear HN e
        go_wp2
        go_roundw
        case rel => exact ⟨k + 1, _, by omega, by go_num, HN2.out.symm, by omega, HS.out, HB.out⟩
        case measure => simp [intOf]; omega
    · obtain rfl : k = L.length := by omega
      have d2 : decide ((L.length : Int) < (L.length : Int)) = false := decide_eq_false (by omega)
      have HO2 : Hid (o = L.filter (fun x => decide (f < x))) := HO.out.trans ((runF_all _ _ _).trans (by rw [foldP]; rfl))
      have ws : IntKind.i64.wrap ((L.length : Int) - (o.length : Nat)) = (L.length : Int) - (o.length : Nat) := IntWalk.i64_in _ (by omega)
      have HR : Hid ((L.length : Int) - (o.length : Nat) = (L.length : Int) - ((L.filter (fun x => decide (f < x))).length : Nat)) := by show _ = _; rw [HO2.out]
      have kf := (H.out.later HB.out).blk.frozen 0
      have hBp := H.out.hp
      have hpl := H.out.plt
      have HF : Hid (RfAt (wr.setCell ⟨p, 0, none⟩ (.slice Ao o.length co)) B p (.slice Ao o.length co) o) := ⟨hBp, (H.out.later HB.out).blk.set (j := 0) (.slice Ao o.length co), Ow.base (ow_fr HS.out (H.out.later HB.out).blk (by decide)) (by omega)⟩
      have HG : Hid (w.grownBy (wr.setCell ⟨p, 0, none⟩ (.slice Ao o.length co)) (some p)) := grown_step (grown_of_below HB.out (some p)) (grown_set wr p 0 (.slice Ao o.length co))
      clear hBp hpl
      clear HO HSL
      go_wp2
      go_ret
      exact rf_end (congrArg (Value.int .i64) HR.out) HO2.out HF.out HG.out
set_option maxRecDepth 100000 in
set_option maxHeartbeats 4000000 in
theorem rless_any (B p : Nat) (v : Value) (L : List Int) (t : Int) (w : World) (h : RfAt w B p v L) (hn : L.length ≤ 1000) : Calls Try.prog 21 #[.pointer (some ⟨p, 0, none⟩), .int .i64 t] w (RfEnd B p (remS t L) (.bool (decide (t ∈ L))) w) := by
  obtain ⟨A, c, rfl, hs0⟩ := h.row
  have H := Lib.hid h
  clear h hs0
  go_enter Try.func21, Try.ntmps21
  go_wp2
  go_loopw [5, 6, 7] (fun out dn i wr => ∃ (k : Nat) (o : List Int) (d : Bool), k ≤ L.length ∧ i = .int .i64 k ∧ dn = .bool d ∧ (o, d) = runF (stepL t) ([], false) L k ∧ o.length ≤ k ∧ OwI wr w.heap.size out o ∧ Below w.heap.size w wr) (fun _ _ i _ => L.length - (intOf i).toNat)
  case atStart => exact ⟨0, [], false, Nat.zero_le _, rfl, rfl, rfl, Nat.le_refl _, Ow.none _ _ _, Below.refl _ _⟩
  case round =>
    obtain ⟨k, o, d, hk, rfl, rfl, ho, hol, hs, hb⟩ := hrel
    have HS := Lib.hid hs
    have HB := Lib.hid hb
    have HO := Lib.hid ho
    obtain ⟨Ao, co, rfl, _⟩ := Ow.sl hs
    clear hs hb ho
    obtain ⟨A, c, e, hs⟩ := (H.out.later HB.out).row
    cases e
    have k0 := (H.out.later HB.out).blk.cell 0
    simp only [List.getElem?_toArray, List.getElem?_cons_zero] at k0
    have HSL := Lib.hid hs
    clear hs
    by_cases hlt : k < L.length
    · have d2 : decide ((k : Int) < (L.length : Int)) = true := decide_eq_true (by omega)
      have wk : IntKind.i64.wrap ((k : Int) + 1) = (k : Int) + 1 := IntWalk.i64_in _ (by omega)
      obtain ⟨g, off, rfl, x0, i1⟩ := rindex A L c k _ HSL.out hlt
      have HN := Lib.hid (runF_succ (stepL t) ([], false) L hlt)
      rw [← HO.out] at HN
      generalize L.getD k 0 = z at *
      by_cases e : z = t
      · have dz : (z == t) = true := by rw [beq_iff_eq]; exact e
        cases d with
        | false =>
          have HN2 : Hid (runF (stepL t) ([], false) L (k + 1) = (o, true)) := HN.out.trans (if_pos ⟨e, rfl⟩)
          clear HN e
          go_wp2
          go_roundw
          case rel => exact ⟨k + 1, _, true, by omega, by go_num, rfl, HN2.out.symm, by omega, HS.out, HB.out⟩
          case measure => simp [intOf]; omega
        | true =>
          have HN2 : Hid (runF (stepL t) ([], false) L (k + 1) = (o ++ [z], true)) := HN.out.trans (if_neg (fun h => by cases h.2))
          clear HN e
          have hb6 : Below wr.heap.size wr (wr.alloc (.cells #[.int .i64 z] 3)) := (Below.refl _ _).alloc (Nat.le_refl _) _
          have HS6 := Lib.hid (Ow.later HS.out hb6)
          have HB6 := Lib.hid (stepB HB.out hb6)
          have HX6 : Hid (Sl iv (wr.alloc (.cells #[.int .i64 z] 3)) (some ⟨wr.heap.size, 0, none⟩) 1 1 [z]) := Blk.sl (enc := iv) (xs := [z]) (Blk.new wr #[.int .i64 z] 3)
          clear hb6
          go_wp2_with (at_builtin; refine wpList_append_sl elemI rfl (.tmp 30) (.tmp 38) rfl w.heap.size _ _ _ rfl HS6.out (some ⟨wr.heap.size, 0, none⟩) 1 1 [z] rfl HX6.out (by omega) (by decide) HB6.out.size ?_; intro v7 w7 ho7)
          intro hg7
          have HB7 : Hid (Below w.heap.size w w7) := HB6.out.grown hg7 HB6.out.size (fun j hj => (Ow.lt HS6.out j hj).1)
          obtain ⟨A7, c7, rfl, _⟩ := Ow.sl ho7
          have HS7 := Lib.hid ho7
          clear ho7 hg7 HS6 HB6 HX6
          clear x0 k0 i1 HS HB HSL HO
          go_wp2
          go_roundw
          case rel => exact ⟨k + 1, _, true, by omega, by go_num, rfl, HN2.out.symm, by simp; omega, owI_of HS7.out (by simp), HB7.out⟩
          case measure => simp [intOf]; omega
      · have dz : (z == t) = false := by rw [beq_eq_false_iff_ne]; exact e
        have HN2 : Hid (runF (stepL t) ([], false) L (k + 1) = (o ++ [z], d)) := HN.out.trans (if_neg (fun h => e h.1))
        clear HN e
        have hb6 : Below wr.heap.size wr (wr.alloc (.cells #[.int .i64 z] 3)) := (Below.refl _ _).alloc (Nat.le_refl _) _
        have HS6 := Lib.hid (Ow.later HS.out hb6)
        have HB6 := Lib.hid (stepB HB.out hb6)
        have HX6 : Hid (Sl iv (wr.alloc (.cells #[.int .i64 z] 3)) (some ⟨wr.heap.size, 0, none⟩) 1 1 [z]) := Blk.sl (enc := iv) (xs := [z]) (Blk.new wr #[.int .i64 z] 3)
        clear hb6
        go_wp2_with (at_builtin; refine wpList_append_sl elemI rfl (.tmp 30) (.tmp 38) rfl w.heap.size _ _ _ rfl HS6.out (some ⟨wr.heap.size, 0, none⟩) 1 1 [z] rfl HX6.out (by omega) (by decide) HB6.out.size ?_; intro v7 w7 ho7)
        intro hg7
        have HB7 : Hid (Below w.heap.size w w7) := HB6.out.grown hg7 HB6.out.size (fun j hj => (Ow.lt HS6.out j hj).1)
        obtain ⟨A7, c7, rfl, _⟩ := Ow.sl ho7
        have HS7 := Lib.hid ho7
        clear ho7 hg7 HS6 HB6 HX6
        clear x0 k0 i1 HS HB HSL HO
        go_wp2
        go_roundw
        case rel => exact ⟨k + 1, _, d, by omega, by go_num, rfl, HN2.out.symm, by simp; omega, owI_of HS7.out (by simp), HB7.out⟩
        case measure => simp [intOf]; omega
    · obtain rfl : k = L.length := by omega
      have d2 : decide ((L.length : Int) < (L.length : Int)) = false := decide_eq_false (by omega)
      have HO2 : Hid ((o, d) = (remS t L, decide (t ∈ L))) := HO.out.trans ((runF_all _ _ _).trans (by rw [foldL]; rfl))
      have HD : Hid (d = decide (t ∈ L)) := (Prod.mk.inj HO2.out).2
      have HP : Hid (o = remS t L) := (Prod.mk.inj HO2.out).1
      have kf := (H.out.later HB.out).blk.frozen 0
      have hBp := H.out.hp
      have hpl := H.out.plt
      have HF : Hid (RfAt (wr.setCell ⟨p, 0, none⟩ (.slice Ao o.length co)) B p (.slice Ao o.length co) o) := ⟨hBp, (H.out.later HB.out).blk.set (j := 0) (.slice Ao o.length co), Ow.base (ow_fr HS.out (H.out.later HB.out).blk (by decide)) (by omega)⟩
      have HG : Hid (w.grownBy (wr.setCell ⟨p, 0, none⟩ (.slice Ao o.length co)) (some p)) := grown_step (grown_of_below HB.out (some p)) (grown_set wr p 0 (.slice Ao o.length co))
      clear hBp hpl
      clear HO HO2 HSL
      go_wp2
      go_ret
      exact rf_end (congrArg Value.bool HD.out) HP.out HF.out HG.out
def raddE (L : List Int) (t : Int) : Int := if t < 1 ∨ 1048576 < t then 1 else if 64 ≤ L.length then 41 else 0
def raddS (L : List Int) (t : Int) : List Int := if raddE L t = 0 then insS t L else L
set_option maxRecDepth 100000 in
set_option maxHeartbeats 4000000 in
theorem radd_any (B p : Nat) (v : Value) (L : List Int) (t : Int) (w : World) (h : RfAt w B p v L) (hn : L.length ≤ 1000) : Calls Try.prog 20 #[.pointer (some ⟨p, 0, none⟩), .int .i64 t] w (RfEnd B p (raddS L t) (.int .i64 (raddE L t)) w) := by
  by_cases c0 : t < 1 ∨ 1048576 < t
  · have HE : Hid (raddE L t = 1) := if_pos c0
    have HS : Hid (raddS L t = L) := by show _ = _; unfold raddS; rw [HE.out, if_neg (by decide)]
    have H := Lib.hid h
    rw [HE.out, HS.out]
    clear h
    by_cases c1 : t < 1
    · have d1 : decide (t < 1) = true := decide_eq_true c1
      go_enter Try.func20, Try.ntmps20
      go_wp2
      go_ret
      exact ⟨rfl, _, H.out, grown_refl _ _⟩
    · have d1 : decide (t < 1) = false := decide_eq_false c1
      have d2 : decide (1048576 < t) = true := decide_eq_true (by omega)
      go_enter Try.func20, Try.ntmps20
      go_wp2
      go_ret
      exact ⟨rfl, _, H.out, grown_refl _ _⟩
  have d1 : decide (t < 1) = false := decide_eq_false (by omega)
  have d2 : decide (1048576 < t) = false := decide_eq_false (by omega)
  obtain ⟨A, c, rfl, hs0⟩ := h.row
  have H := Lib.hid h
  have k0 := h.blk.cell 0
  simp only [List.getElem?_toArray, List.getElem?_cons_zero] at k0
  clear h hs0
  by_cases c2 : 64 ≤ L.length
  · have HE : Hid (raddE L t = 41) := by show _ = _; unfold raddE; rw [if_neg c0, if_pos c2]
    have HS : Hid (raddS L t = L) := by show _ = _; unfold raddS; rw [HE.out, if_neg (by decide)]
    have d3 : decide ((64 : Int) ≤ (L.length : Int)) = true := decide_eq_true (by omega)
    rw [HE.out, HS.out]
    go_enter Try.func20, Try.ntmps20
    go_wp2
    go_ret
    exact ⟨rfl, _, H.out, grown_refl _ _⟩
  have HE : Hid (raddE L t = 0) := by show _ = _; unfold raddE; rw [if_neg c0, if_neg c2]
  have HSS : Hid (raddS L t = insS t L) := by show _ = _; unfold raddS; rw [HE.out, if_pos rfl]
  have d3 : decide ((64 : Int) ≤ (L.length : Int)) = false := decide_eq_false (by omega)
  rw [HE.out, HSS.out]
  go_enter Try.func20, Try.ntmps20
  go_wp2
  clear k0
  go_loopw [5, 6, 7] (fun out dn i wr => ∃ (k : Nat) (o : List Int) (d : Bool), k ≤ L.length ∧ i = .int .i64 k ∧ dn = .bool d ∧ (o, d) = runF (stepA t) ([], false) L k ∧ o.length ≤ k + (if d then 1 else 0) ∧ OwI wr w.heap.size out o ∧ Below w.heap.size w wr) (fun _ _ i _ => L.length - (intOf i).toNat)
  case atStart => exact ⟨0, [], false, Nat.zero_le _, rfl, rfl, rfl, Nat.le_refl _, Ow.none _ _ _, Below.refl _ _⟩
  case round =>
    obtain ⟨k, o, d, hk, rfl, rfl, ho, hol, hs, hb⟩ := hrel
    have HS := Lib.hid hs
    have HB := Lib.hid hb
    have HO := Lib.hid ho
    obtain ⟨Ao, co, rfl, _⟩ := Ow.sl hs
    clear hs hb ho
    obtain ⟨A, c, e, hs⟩ := (H.out.later HB.out).row
    cases e
    have k0 := (H.out.later HB.out).blk.cell 0
    simp only [List.getElem?_toArray, List.getElem?_cons_zero] at k0
    have HSL := Lib.hid hs
    clear hs
    by_cases hlt : k < L.length
    · have d2 : decide ((k : Int) < (L.length : Int)) = true := decide_eq_true (by omega)
      have wk : IntKind.i64.wrap ((k : Int) + 1) = (k : Int) + 1 := IntWalk.i64_in _ (by omega)
      obtain ⟨g, off, rfl, x0, i1⟩ := rindex A L c k _ HSL.out hlt
      have HN := Lib.hid (runF_succ (stepA t) ([], false) L hlt)
      rw [← HO.out] at HN
      have HZ : Hid (∃ z, L.getD k 0 = z) := ⟨_, rfl⟩
      obtain ⟨z, hz⟩ := HZ.out
      rw [hz] at x0 HN
      have HZ2 := Lib.hid hz
      clear HZ hz
      have hol1 : o.length ≤ k + 1 := by cases d <;> simp at hol <;> omega
      by_cases e : t < z
      · have dz : decide (t < z) = true := decide_eq_true e
        cases d with
        | false =>
          have HN2 : Hid (runF (stepA t) ([], false) L (k + 1) = (o ++ [t] ++ [z], true)) := HN.out.trans (if_pos ⟨e, rfl⟩)
          clear HN e
          have hb6 : Below wr.heap.size wr (wr.alloc (.cells #[.int .i64 t] 3)) := (Below.refl _ _).alloc (Nat.le_refl _) _
          have HS6 := Lib.hid (Ow.later HS.out hb6)
          have HB6 := Lib.hid (stepB HB.out hb6)
          have HX6 : Hid (Sl iv (wr.alloc (.cells #[.int .i64 t] 3)) (some ⟨wr.heap.size, 0, none⟩) 1 1 [t]) := Blk.sl (enc := iv) (xs := [t]) (Blk.new wr #[.int .i64 t] 3)
          clear hb6
          go_wp2_with (at_builtin; refine wpList_append_sl elemI rfl (.tmp 42) (.tmp 44) rfl w.heap.size _ _ _ rfl HS6.out (some ⟨wr.heap.size, 0, none⟩) 1 1 [t] rfl HX6.out (by omega) (by decide) HB6.out.size ?_; intro v7 w7 ho7)
          intro hg7
          have HB7 : Hid (Below w.heap.size w w7) := HB6.out.grown hg7 HB6.out.size (fun j hj => (Ow.lt HS6.out j hj).1)
          obtain ⟨A7, c7, rfl, _⟩ := Ow.sl ho7
          have HS7 := Lib.hid ho7
          clear ho7 hg7 HS6 HB6 HX6
          clear x0 k0 i1 HS HB HSL HO
          obtain ⟨A, c, e, hs⟩ := (H.out.later HB7.out).row
          cases e
          have k0 := (H.out.later HB7.out).blk.cell 0
          simp only [List.getElem?_toArray, List.getElem?_cons_zero] at k0
          obtain ⟨g', off', eg, x0, i1⟩ := rindex _ L c k _ hs hlt
          cases eg
          rw [HZ2.out] at x0
          clear hs
          have hb6 : Below w7.heap.size w7 (w7.alloc (.cells #[.int .i64 z] 3)) := (Below.refl _ _).alloc (Nat.le_refl _) _
          have HS6 := Lib.hid (Ow.later HS7.out hb6)
          have HB6 := Lib.hid (stepB HB7.out hb6)
          have HX6 : Hid (Sl iv (w7.alloc (.cells #[.int .i64 z] 3)) (some ⟨w7.heap.size, 0, none⟩) 1 1 [z]) := Blk.sl (enc := iv) (xs := [z]) (Blk.new w7 #[.int .i64 z] 3)
          clear hb6
          go_wp2_with (at_builtin; refine wpList_append_sl elemI rfl (.tmp 46) (.tmp 54) rfl w.heap.size _ _ _ rfl HS6.out (some ⟨w7.heap.size, 0, none⟩) 1 1 [z] rfl HX6.out (by omega) (by decide) HB6.out.size ?_; intro v9 w9 ho9)
          intro hg9
          have HB9 : Hid (Below w.heap.size w w9) := HB6.out.grown hg9 HB6.out.size (fun j hj => (Ow.lt HS6.out j hj).1)
          obtain ⟨A9, c9, rfl, _⟩ := Ow.sl ho9
          have HS9 := Lib.hid ho9
          clear ho9 hg9 HS6 HB6 HX6
          clear x0 k0 i1 HS7 HB7
          go_wp2
          go_roundw
          case rel => exact ⟨k + 1, _, true, by omega, by go_num, rfl, HN2.out.symm, by simp at hol ⊢; omega, owI_of HS9.out (by simp), HB9.out⟩
          case measure => simp [intOf]; omega
        | true =>
          have HN2 : Hid (runF (stepA t) ([], false) L (k + 1) = (o ++ [z], true)) := HN.out.trans (if_neg (fun h => by cases h.2))
          clear HN e
          have hb6 : Below wr.heap.size wr (wr.alloc (.cells #[.int .i64 z] 3)) := (Below.refl _ _).alloc (Nat.le_refl _) _
          have HS6 := Lib.hid (Ow.later HS.out hb6)
          have HB6 := Lib.hid (stepB HB.out hb6)
          have HX6 : Hid (Sl iv (wr.alloc (.cells #[.int .i64 z] 3)) (some ⟨wr.heap.size, 0, none⟩) 1 1 [z]) := Blk.sl (enc := iv) (xs := [z]) (Blk.new wr #[.int .i64 z] 3)
          clear hb6
          go_wp2_with (at_builtin; refine wpList_append_sl elemI rfl (.tmp 46) (.tmp 54) rfl w.heap.size _ _ _ rfl HS6.out (some ⟨wr.heap.size, 0, none⟩) 1 1 [z] rfl HX6.out (by omega) (by decide) HB6.out.size ?_; intro v7 w7 ho7)
          intro hg7
          have HB7 : Hid (Below w.heap.size w w7) := HB6.out.grown hg7 HB6.out.size (fun j hj => (Ow.lt HS6.out j hj).1)
          obtain ⟨A7, c7, rfl, _⟩ := Ow.sl ho7
          have HS7 := Lib.hid ho7
          clear ho7 hg7 HS6 HB6 HX6
          clear x0 k0 i1 HS HB HSL HO
          go_wp2
          go_roundw
          case rel => exact ⟨k + 1, _, true, by omega, by go_num, rfl, HN2.out.symm, by simp at hol ⊢; omega, owI_of HS7.out (by simp), HB7.out⟩
          case measure => simp [intOf]; omega
      · have dz : decide (t < z) = false := decide_eq_false e
        have HN2 : Hid (runF (stepA t) ([], false) L (k + 1) = (o ++ [z], d)) := HN.out.trans (if_neg (fun h => e h.1))
        clear HN e
        have hb6 : Below wr.heap.size wr (wr.alloc (.cells #[.int .i64 z] 3)) := (Below.refl _ _).alloc (Nat.le_refl _) _
        have HS6 := Lib.hid (Ow.later HS.out hb6)
        have HB6 := Lib.hid (stepB HB.out hb6)
        have HX6 : Hid (Sl iv (wr.alloc (.cells #[.int .i64 z] 3)) (some ⟨wr.heap.size, 0, none⟩) 1 1 [z]) := Blk.sl (enc := iv) (xs := [z]) (Blk.new wr #[.int .i64 z] 3)
        clear hb6
        go_wp2_with (at_builtin; refine wpList_append_sl elemI rfl (.tmp 46) (.tmp 54) rfl w.heap.size _ _ _ rfl HS6.out (some ⟨wr.heap.size, 0, none⟩) 1 1 [z] rfl HX6.out (by omega) (by decide) HB6.out.size ?_; intro v7 w7 ho7)
        intro hg7
        have HB7 : Hid (Below w.heap.size w w7) := HB6.out.grown hg7 HB6.out.size (fun j hj => (Ow.lt HS6.out j hj).1)
        obtain ⟨A7, c7, rfl, _⟩ := Ow.sl ho7
        have HS7 := Lib.hid ho7
        clear ho7 hg7 HS6 HB6 HX6
        clear x0 k0 i1 HS HB HSL HO
        go_wp2
        go_roundw
        case rel => exact ⟨k + 1, _, d, by omega, by go_num, rfl, HN2.out.symm, by simp at hol ⊢; omega, owI_of HS7.out (by simp), HB7.out⟩
        case measure => simp [intOf]; omega
    · obtain rfl : k = L.length := by omega
      have d2 : decide ((L.length : Int) < (L.length : Int)) = false := decide_eq_false (by omega)
      have HO2 : Hid ((o, d) = L.foldl (stepA t) ([], false)) := HO.out.trans (runF_all _ _ _)
      have HC : Hid (closeA t (o, d) = insS t L) := by show _ = _; rw [HO2.out, foldA]; rfl
      have hol1 : o.length ≤ L.length + 1 := by cases d <;> simp at hol <;> omega
      clear HO HO2
      cases d with
      | true =>
        have HP : Hid (o = insS t L) := HC.out
        have kf := (H.out.later HB.out).blk.frozen 0
        have hBp := H.out.hp
        have hpl := H.out.plt
        have HF : Hid (RfAt (wr.setCell ⟨p, 0, none⟩ (.slice Ao o.length co)) B p (.slice Ao o.length co) o) := ⟨hBp, (H.out.later HB.out).blk.set (j := 0) (.slice Ao o.length co), Ow.base (ow_fr HS.out (H.out.later HB.out).blk (by decide)) (by omega)⟩
        have HG : Hid (w.grownBy (wr.setCell ⟨p, 0, none⟩ (.slice Ao o.length co)) (some p)) := grown_step (grown_of_below HB.out (some p)) (grown_set wr p 0 (.slice Ao o.length co))
        clear hBp hpl
        clear HSL HC
        go_wp2
        go_ret
        exact rf_end rfl HP.out HF.out HG.out
      | false =>
        have HP : Hid (o ++ [t] = insS t L) := HC.out
        clear HSL HC
        have hb6 : Below wr.heap.size wr (wr.alloc (.cells #[.int .i64 t] 3)) := (Below.refl _ _).alloc (Nat.le_refl _) _
        have HS6 := Lib.hid (Ow.later HS.out hb6)
        have HB6 := Lib.hid (stepB HB.out hb6)
        have HX6 : Hid (Sl iv (wr.alloc (.cells #[.int .i64 t] 3)) (some ⟨wr.heap.size, 0, none⟩) 1 1 [t]) := Blk.sl (enc := iv) (xs := [t]) (Blk.new wr #[.int .i64 t] 3)
        clear hb6
        go_wp2_with (at_builtin; refine wpList_append_sl elemI rfl (.tmp 58) (.tmp 60) rfl w.heap.size _ _ _ rfl HS6.out (some ⟨wr.heap.size, 0, none⟩) 1 1 [t] rfl HX6.out (by omega) (by decide) HB6.out.size ?_; intro v7 w7 ho7)
        intro hg7
        have HB7 : Hid (Below w.heap.size w w7) := HB6.out.grown hg7 HB6.out.size (fun j hj => (Ow.lt HS6.out j hj).1)
        obtain ⟨A7, c7, rfl, _⟩ := Ow.sl ho7
        have HS7 := Lib.hid ho7
        clear ho7 hg7 HS6 HB6 HX6
        clear HS HB
        have HS := Lib.hid (owI_of HS7.out (by simp))
        have HB := HB7
        clear HS7 HB7 k0
        have k0 := (H.out.later HB.out).blk.cell 0
        simp only [List.getElem?_toArray, List.getElem?_cons_zero] at k0
        have kf := (H.out.later HB.out).blk.frozen 0
        have hBp := H.out.hp
        have hpl := H.out.plt
        have HF : Hid (RfAt (w7.setCell ⟨p, 0, none⟩ (.slice A7 (o.length + 1) c7)) B p (.slice A7 (o.length + 1) c7) (o ++ [t])) := ⟨hBp, (H.out.later HB.out).blk.set (j := 0) (.slice A7 (o.length + 1) c7), Ow.base (ow_fr HS.out (H.out.later HB.out).blk (by decide)) (by omega)⟩
        have HG : Hid (w.grownBy (w7.setCell ⟨p, 0, none⟩ (.slice A7 (o.length + 1) c7)) (some p)) := grown_step (grown_of_below HB.out (some p)) (grown_set w7 p 0 (.slice A7 (o.length + 1) c7))
        clear hBp hpl
        go_wp2
        go_ret
        exact rf_end rfl HP.out HF.out HG.out
end Go.Proofs.Ytlnfdcaljmfbjaa
