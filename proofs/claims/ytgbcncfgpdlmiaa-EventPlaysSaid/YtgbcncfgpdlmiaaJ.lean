/- Whether a history is legal. -/
import Derived.Test.YtgbcncfgpdlmiaaI
namespace Go.Proofs.Ytgbcncfgpdlmiaa
open Go.ChangeShapes Go.WideShapes Go.ChangeAt Go.RowKit Go.Maps
set_option linter.unusedVariables false
set_option linter.unusedSimpArgs false

def okE (tasks : Int) (P : List Ev) (e : Ev) : Bool := decide (0 ≤ e.2.1 ∧ e.2.1 < tasks) && decide (e = nextE P e.2.1 (if e.1 = 3 then e.2.2.2 else an0))
def legalR (tasks : Int) : List Ev → List Ev → Bool
  | _, [] => true
  | P, e :: l => okE tasks P e && legalR tasks (P ++ [e]) l
def legalL (tasks : Int) (L : List Ev) : Bool := decide (1 ≤ tasks ∧ tasks ≤ 6) && legalR tasks [] L
theorem legalR_at (tasks : Int) (L : List Ev) (k : Nat) (e : Ev) (h : L[k]? = some e) : legalR tasks (L.take k) (L.drop k) = (okE tasks (L.take k) e && legalR tasks (L.take (k + 1)) (L.drop (k + 1))) := by
  have hk := (List.getElem?_eq_some_iff.1 h).1
  have he := (List.getElem?_eq_some_iff.1 h).2
  rw [List.drop_eq_getElem_cons hk, he, List.take_add_one, h]
  rfl
theorem cnts_at {L : List Ev} {k : Nat} (hk : k < 6) : (cnts L)[k]? = some (.int .i64 (cnt L (k : Int) : Nat)) := by
  have hc : k = 0 ∨ k = 1 ∨ k = 2 ∨ k = 3 ∨ k = 4 ∨ k = 5 := by omega
  rcases hc with rfl | rfl | rfl | rfl | rfl | rfl <;> rfl
theorem cnts_inc {L : List Ev} {e : Ev} {k : Nat} (hk : k < 6) (he : e.2.1 = (k : Int)) : (cnts L).toArray.setIfInBounds k (.int .i64 ((cnt L (k : Int) : Nat) + 1 : Int)) = (cnts (L ++ [e])).toArray := by
  obtain ⟨a, t, c, an⟩ := e
  simp only at he
  subst he
  have hc : k = 0 ∨ k = 1 ∨ k = 2 ∨ k = 3 ∨ k = 4 ∨ k = 5 := by omega
  rcases hc with rfl | rfl | rfl | rfl | rfl | rfl <;> simp [cnts, cnt_app]
set_option maxRecDepth 100000 in
set_option maxHeartbeats 8000000 in
theorem legal_any (tasks : Int) (A : Option Addr) (n c : Nat) (Rs : List RE) (w : World) (h : EvS w A n Rs) (hp : ∀ r ∈ Rs, r.2.2.1 ≤ 100000) (hn : n ≤ 100000) : Calls Try.prog 18 #[.int .i64 tasks, .slice A n c] w (Bl (legalL tasks (Rs.map Prod.fst)) w) := by
  have HM := Lib.hid (may_any tasks w)
  by_cases hm : 1 ≤ tasks ∧ tasks ≤ 6
  · have HV : Hid (legalL tasks (Rs.map Prod.fst) = legalR tasks [] (Rs.map Prod.fst)) := by show _ = _; unfold legalL; rw [decide_eq_true hm, Bool.true_and]
    rw [decide_eq_true hm] at HM
    obtain ⟨h1, h6⟩ := hm
    have HL : Hid (Rs.length = n) := h.rd.1
    have HP := Lib.hid h
    have HPN := Lib.hid hp
    clear h hp
    obtain ⟨L, hLe⟩ : ∃ L, Rs.map Prod.fst = L := ⟨_, rfl⟩
    rw [hLe] at HV
    rw [hLe]
    have HLE := Lib.hid hLe
    clear hLe
    have HCB : Hid (Blk (w.alloc (.cells #[.int .i64 0, .int .i64 0, .int .i64 0, .int .i64 0, .int .i64 0, .int .i64 0] 70)) w.heap.size (cnts ([] : List Ev)).toArray 70) := Blk.new _ _ _
    have HB1 : Hid (Below w.heap.size w (w.alloc (.cells #[.int .i64 0, .int .i64 0, .int .i64 0, .int .i64 0, .int .i64 0, .int .i64 0] 70))) := (Below.refl _ _).alloc (Nat.le_refl _) _
    go_enter Try.func18, Try.ntmps18
    go_wp2_with fail
    refine HM.out.mono ?_
    rintro e w1 ⟨rfl, rfl⟩
    go_upto_region 4 with (fail)
    generalize w.alloc (.cells #[.int .i64 0, .int .i64 0, .int .i64 0, .int .i64 0, .int .i64 0, .int .i64 0] 70) = w1 at *
    obtain ⟨q, hq⟩ : ∃ q, w.heap.size = q := ⟨_, rfl⟩
    rw [hq] at HCB
    rw [hq]
    have HQG : Hid (w.heap.size ≤ q) := by rw [hq]; exact Nat.le_refl _
    clear hq
    go_wp2
    go_loopw [14] (fun i W => ∃ k : Nat, k ≤ n ∧ i = .int .i64 k ∧ Blk W q (cnts (L.take k)).toArray 70 ∧ legalR tasks [] L = legalR tasks (L.take k) (L.drop k) ∧ Below w.heap.size w W) (fun i _ => n - (intOf i).toNat)
    case atStart => exact ⟨0, Nat.zero_le _, rfl, HCB.out, by simp, HB1.out⟩
    case round =>
      obtain ⟨k, hk, rfl, hc0, hleg, hb⟩ := hrel
      have HCT := Lib.hid hc0
      have HLG := Lib.hid hleg
      have HB := Lib.hid hb
      clear hc0 hleg hb HCB HB1
      by_cases hlt : k < n
      · have d1 : decide ((k : Int) < (n : Int)) = true := decide_eq_true (by omega)
        have wk : IntKind.i64.wrap ((k : Int) + 1) = (k : Int) + 1 := IntWalk.i64_in _ (by omega)
        obtain ⟨g, off, rfl, hg, hc⟩ := (HP.out.later HB.out).rd.2 (by omega)
        have i5 := idx32 g off n c k (k : Int) rfl hlt
        have hx : Rs[k]? = some (Rs[k]'(by rw [HL.out]; exact hlt)) := List.getElem?_eq_getElem _
        have HPE0 : Hid (∀ W, Below w.heap.size w W → PO W (Rs[k]'(by rw [HL.out]; exact hlt)).2 (Rs[k]'(by rw [HL.out]; exact hlt)).1.2.2.2.2.2.2) := fun W hb => (HP.out.later hb).po _ (List.mem_of_getElem? hx)
        have hn1 := HPN.out _ (List.mem_of_getElem? hx)
        have HX : Hid (L[k]? = some (Rs[k]'(by rw [HL.out]; exact hlt)).1) := by show _ = _; rw [← HLE.out, List.getElem?_map, hx]; rfl
        generalize Rs[k]'(by rw [HL.out]; exact hlt) = r1 at *
        obtain ⟨⟨wh, t, cl, er, fo, va, ps⟩, A1, n1, c1⟩ := r1
        have x0 := hc k _ hx 0 (by decide)
        have x1_ := hc k _ hx 1 (by decide)
        have x2_ := hc k _ hx 2 (by decide)
        have x3 := hc k _ hx 3 (by decide)
        have x4 := hc k _ hx 4 (by decide)
        have x5 := hc k _ hx 5 (by decide)
        have x6 := hc k _ hx 6 (by decide)
        simp only [evc, hdv, List.getElem?_cons_zero, List.getElem?_cons_succ, Nat.add_zero] at x0 x1_ x2_ x3 x4 x5 x6
        simp only at HX HPE0 hn1
        have HPE : Hid (∀ W, Below w.heap.size w W → PO W (A1, n1, c1) ps) := HPE0.out
        have hbx : Below wr.heap.size wr (wr.alloc (.cells #[.int .u8 wh, .int .i64 t, .int .i64 cl, .int .i64 er, .bool fo, .string va, .slice A1 n1 c1] 40)) := (Below.refl _ _).alloc (Nat.le_refl _) _
        have HE1 : Hid (Blk (wr.alloc (.cells #[.int .u8 wh, .int .i64 t, .int .i64 cl, .int .i64 er, .bool fo, .string va, .slice A1 n1 c1] 40)) wr.heap.size #[.int .u8 wh, .int .i64 t, .int .i64 cl, .int .i64 er, .bool fo, .string va, .slice A1 n1 c1] 40) := Blk.new _ _ _
        have HB1 := Lib.hid (stepB HB.out hbx)
        have HCT1 := Lib.hid (HCT.out.later hbx)
        have HAT := Lib.hid (legalR_at tasks L k _ HX.out)
        have HNOT : Hid (okE tasks (L.take k) (wh, t, cl, er, fo, va, ps) = false → legalR tasks [] L = false) := fun h => by rw [HLG.out, HAT.out, h]; rfl
        clear hc hx hg HPE0 hbx HCT
        by_cases hr : t < 0 ∨ tasks ≤ t
        · have HOK : Hid (legalR tasks [] L = false) := HNOT.out (by unfold okE; rw [decide_eq_false (by simp only; omega)]; rfl)
          by_cases h0 : t < 0
          · have e1 : decide (t < 0) = true := decide_eq_true h0
            clear hr h0
            go_wp2
            go_ret
            exact ⟨by rw [HV.out, HOK.out]; rfl, HB1.out⟩
          · have e1 : decide (t < 0) = false := decide_eq_false h0
            have e2 : decide (tasks ≤ t) = true := decide_eq_true (by omega)
            clear hr h0
            go_wp2
            go_ret
            exact ⟨by rw [HV.out, HOK.out]; rfl, HB1.out⟩
        · have e1 : decide (t < 0) = false := decide_eq_false (by omega)
          have e2 : decide (tasks ≤ t) = false := decide_eq_false (by omega)
          have t0 : 0 ≤ t := by omega
          have t6 : t < 6 := by omega
          have tt : t.toNat < 6 := by omega
          have hte : ((t.toNat : Nat) : Int) = t := by omega
          have HTE := Lib.hid hte
          have hcl : cnt (L.take k) t ≤ 100000 := Nat.le_trans (cnt_le _ _) (by rw [List.length_take]; omega)
          have HCNT : Hid ((cnts (L.take k))[t.toNat]? = some (.int .i64 (cnt (L.take k) t : Nat))) := by show _ = _; rw [cnts_at tt, hte]
          have HINC : Hid ((cnts (L.take k)).toArray.setIfInBounds t.toNat (.int .i64 ((cnt (L.take k) t : Nat) + 1 : Int)) = (cnts (L.take (k + 1))).toArray) := by
            show _ = _
            rw [List.take_add_one, HX.out]
            have := cnts_inc (L := L.take k) (e := (wh, t, cl, er, fo, va, ps)) tt (by simp only; omega)
            rw [hte] at this
            exact this
          have HNX := Lib.hid (next_any q 0 (cnt (L.take k) t) t (wr.alloc (.cells #[.int .u8 wh, .int .i64 t, .int .i64 cl, .int .i64 er, .bool fo, .string va, .slice A1 n1 c1] 40)) t0 t6 (by omega) (by rw [Nat.zero_add, HCT1.out.cell t.toNat, List.getElem?_toArray]; exact HCNT.out))
          have HOKE : Hid (okE tasks (L.take k) (wh, t, cl, er, fo, va, ps) = decide (((wh, t, cl, er, fo, va, ps) : Ev) = ((1 + ((cnt (L.take k) t % 3 : Nat) : Int), t, ((cnt (L.take k) t / 3 : Nat) : Int), if wh = 3 then ((er, fo, va, ps) : An) else an0) : Ev))) := by
            show _ = _
            unfold okE nextE
            rw [decide_eq_true (show (0 : Int) ≤ t ∧ t < tasks by omega), Bool.true_and]
          obtain ⟨m, hm⟩ : ∃ m, cnt (L.take k) t = m := ⟨_, rfl⟩
          rw [hm] at HCNT HINC HNX HOKE hcl
          clear hm hr hte tt
          go_wp2_with fail
          refine HNX.out.mono ?_
          rintro e w2 ⟨rfl, hb⟩
          have HB2 := Lib.hid (stepB HB1.out hb)
          have HE2 := Lib.hid (HE1.out.later hb)
          have HCT2 := Lib.hid (HCT1.out.later hb)
          obtain ⟨qe, hqe⟩ : ∃ qe, wr.heap.size = qe := ⟨_, rfl⟩
          rw [hqe] at HE2
          rw [hqe]
          clear hb HNX hqe HB1 HE1 HCT1
          clear x0 x1_ x2_ x3 x4 x5 x6 i5
          obtain ⟨x1, hx1⟩ : ∃ x1 : Int, 1 + ((m % 3 : Nat) : Int) = x1 := ⟨_, rfl⟩
          obtain ⟨x2, hx2⟩ : ∃ x2 : Int, ((m / 3 : Nat) : Int) = x2 := ⟨_, rfl⟩
          rw [hx1, hx2] at HOKE
          rw [hx1, hx2]
          clear hx1 hx2
          have HSTEP : Hid (okE tasks (L.take k) (wh, t, cl, er, fo, va, ps) = true → legalR tasks [] L = legalR tasks (L.take (k + 1)) (L.drop (k + 1))) := fun h => by rw [HLG.out, HAT.out, h]; rfl
          have HNO := HNOT
          have HEZ := Lib.hid (HE2.out.alloc (.cells #[.int .u8 x1, .int .i64 t, .int .i64 x2, .int .i64 0, .bool false, .string { data := #[] }, .slice none 0 0] 40))
          have z0 := (HEZ.out).cell 0
          have z1 := (HEZ.out).cell 1
          have z2 := (HEZ.out).cell 2
          have z3 := (HEZ.out).cell 3
          have z4 := (HEZ.out).cell 4
          have z5 := (HEZ.out).cell 5
          have z6 := (HEZ.out).cell 6
          simp only [List.getElem?_toArray, List.getElem?_cons_zero, List.getElem?_cons_succ] at z0 z1 z2 z3 z4 z5 z6
          by_cases h3 : wh = 3
          · have e3 : (wh == 3) = true := by rw [h3]; rfl
            have HANS : Hid (((wh, t, cl, er, fo, va, ps) : Ev) = (x1, t, x2, er, fo, va, ps) → okE tasks (L.take k) (wh, t, cl, er, fo, va, ps) = true) := fun h => by rw [HOKE.out, if_pos h3]; exact decide_eq_true h
            have HANN : Hid (¬ ((wh, t, cl, er, fo, va, ps) : Ev) = (x1, t, x2, er, fo, va, ps) → okE tasks (L.take k) (wh, t, cl, er, fo, va, ps) = false) := fun h => by rw [HOKE.out, if_pos h3]; exact decide_eq_false h
            have HEF := Lib.hid (HE2.out.alloc (.cells #[.int .u8 x1, .int .i64 t, .int .i64 x2, .int .i64 er, .bool fo, .string va, .slice A1 n1 c1] 40))
            have f0 := (HEF.out).cell 0
            have f1 := (HEF.out).cell 1
            have f2 := (HEF.out).cell 2
            have f3 := (HEF.out).cell 3
            have f4 := (HEF.out).cell 4
            have f5 := (HEF.out).cell 5
            have f6 := (HEF.out).cell 6
            simp only [List.getElem?_toArray, List.getElem?_cons_zero, List.getElem?_cons_succ] at f0 f1 f2 f3 f4 f5 f6
            clear h3
            have HQ := Lib.hid (eqe_any wh t cl er x1 t x2 er fo fo va va A1 A1 n1 n1 c1 c1 ps ps (w2.alloc (.cells #[.int .u8 x1, .int .i64 t, .int .i64 x2, .int .i64 er, .bool fo, .string va, .slice A1 n1 c1] 40)) (HPE.out _ (stepB HB2.out ((Below.refl _ _).alloc (Nat.le_refl _) _))) (HPE.out _ (stepB HB2.out ((Below.refl _ _).alloc (Nat.le_refl _) _))) hn1)
            by_cases he : ((wh, t, cl, er, fo, va, ps) : Ev) = (x1, t, x2, er, fo, va, ps)
            · rw [decide_eq_true he] at HQ
              have HOK : Hid (legalR tasks [] L = legalR tasks (L.take (k + 1)) (L.drop (k + 1))) := HSTEP.out (HANS.out he)
              clear he HSTEP HNO HANS
              go_wp2_with fail
              refine HQ.out.mono ?_
              rintro e w9 ⟨rfl, hb⟩
              have hb9 : Below w2.heap.size w2 w9 := stepB ((Below.refl _ _).alloc (Nat.le_refl _) _) hb
              have HB9 := Lib.hid (stepB HB2.out hb9)
              have HC9 := Lib.hid (HCT2.out.later hb9)
              have HE9 := Lib.hid (HE2.out.later hb9)
              clear hb hb9 HCT2 HE2 HQ HB2 HPE
              clear z0 z1 z2 z3 z4 z5 z6 f0 f1 f2 f3 f4 f5 f6 HEZ HEF
              have a1 := HE9.out.cell 1
              simp only [List.getElem?_toArray, List.getElem?_cons_zero, List.getElem?_cons_succ] at a1
              have i1 : ∀ W, (Instr.indexAt 70 (.pointer (some ⟨q, 0, none⟩)) (.int .i64 t)).run Try.prog W = .ok (.pointer (some ⟨q, t.toNat, none⟩)) W := fun W => by
                go_simp
              have cq : w9.cell? ⟨q, t.toNat, none⟩ = some (.int .i64 (m : Nat)) := by
                rw [HC9.out.cell t.toNat, List.getElem?_toArray, HCNT.out]
              have fq := HC9.out.frozen t.toNat
              have wm : IntKind.i64.wrap ((m : Int) + 1) = (m : Int) + 1 := IntWalk.i64_in _ (by omega)
              have HC10 : Hid (Blk (w9.setCell ⟨q, t.toNat, none⟩ (.int .i64 ((m : Int) + 1))) q (cnts (L.take (k + 1))).toArray 70) := by
                have := HC9.out.set (j := t.toNat) (.int .i64 ((m : Int) + 1))
                rw [HINC.out] at this
                exact this
              have HB10 : Hid (Below w.heap.size w (w9.setCell ⟨q, t.toNat, none⟩ (.int .i64 ((m : Int) + 1)))) := Below.setCell (p := ⟨q, t.toNat, none⟩) HB9.out HQG.out _
              go_wp2
              go_roundw
              case rel => exact ⟨k + 1, by omega, by go_num, HC10.out, HOK.out, HB10.out⟩
              case measure => simp [intOf]; omega
            · rw [decide_eq_false he] at HQ
              have HOK : Hid (legalR tasks [] L = false) := HNO.out (HANN.out he)
              clear he HSTEP HNO HANS HANN
              go_wp2_with fail
              refine HQ.out.mono ?_
              rintro e w9 ⟨rfl, hb⟩
              have HB9 := Lib.hid (stepB HB2.out (stepB ((Below.refl _ _).alloc (Nat.le_refl _) _) hb))
              clear hb
              go_wp2
              go_ret
              exact ⟨by rw [HV.out, HOK.out]; rfl, HB9.out⟩
          · have e3 : (wh == 3) = false := by rw [beq_eq_false_iff_ne]; exact h3
            have HANS : Hid (((wh, t, cl, er, fo, va, ps) : Ev) = (x1, t, x2, 0, false, { data := #[] }, []) → okE tasks (L.take k) (wh, t, cl, er, fo, va, ps) = true) := fun h => by rw [HOKE.out, if_neg h3]; exact decide_eq_true h
            have HANN : Hid (¬ ((wh, t, cl, er, fo, va, ps) : Ev) = (x1, t, x2, 0, false, { data := #[] }, []) → okE tasks (L.take k) (wh, t, cl, er, fo, va, ps) = false) := fun h => by rw [HOKE.out, if_neg h3]; exact decide_eq_false h
            clear h3
            have HQ := Lib.hid (eqe_any wh t cl er x1 t x2 0 fo false va { data := #[] } A1 none n1 0 c1 0 ps [] (w2.alloc (.cells #[.int .u8 x1, .int .i64 t, .int .i64 x2, .int .i64 0, .bool false, .string { data := #[] }, .slice none 0 0] 40)) (HPE.out _ (stepB HB2.out ((Below.refl _ _).alloc (Nat.le_refl _) _))) (PO.empty _) hn1)
            by_cases he : ((wh, t, cl, er, fo, va, ps) : Ev) = (x1, t, x2, 0, false, { data := #[] }, [])
            · rw [decide_eq_true he] at HQ
              have HOK : Hid (legalR tasks [] L = legalR tasks (L.take (k + 1)) (L.drop (k + 1))) := HSTEP.out (HANS.out he)
              clear he HSTEP HNO HANS
              go_wp2_with fail
              refine HQ.out.mono ?_
              rintro e w9 ⟨rfl, hb⟩
              have hb9 : Below w2.heap.size w2 w9 := stepB ((Below.refl _ _).alloc (Nat.le_refl _) _) hb
              have HB9 := Lib.hid (stepB HB2.out hb9)
              have HC9 := Lib.hid (HCT2.out.later hb9)
              have HE9 := Lib.hid (HE2.out.later hb9)
              clear hb hb9 HCT2 HE2 HQ HB2 HPE
              clear z0 z1 z2 z3 z4 z5 z6 HEZ
              have a1 := HE9.out.cell 1
              simp only [List.getElem?_toArray, List.getElem?_cons_zero, List.getElem?_cons_succ] at a1
              have i1 : ∀ W, (Instr.indexAt 70 (.pointer (some ⟨q, 0, none⟩)) (.int .i64 t)).run Try.prog W = .ok (.pointer (some ⟨q, t.toNat, none⟩)) W := fun W => by
                go_simp
              have cq : w9.cell? ⟨q, t.toNat, none⟩ = some (.int .i64 (m : Nat)) := by
                rw [HC9.out.cell t.toNat, List.getElem?_toArray, HCNT.out]
              have fq := HC9.out.frozen t.toNat
              have wm : IntKind.i64.wrap ((m : Int) + 1) = (m : Int) + 1 := IntWalk.i64_in _ (by omega)
              have HC10 : Hid (Blk (w9.setCell ⟨q, t.toNat, none⟩ (.int .i64 ((m : Int) + 1))) q (cnts (L.take (k + 1))).toArray 70) := by
                have := HC9.out.set (j := t.toNat) (.int .i64 ((m : Int) + 1))
                rw [HINC.out] at this
                exact this
              have HB10 : Hid (Below w.heap.size w (w9.setCell ⟨q, t.toNat, none⟩ (.int .i64 ((m : Int) + 1)))) := Below.setCell (p := ⟨q, t.toNat, none⟩) HB9.out HQG.out _
              go_wp2
              go_roundw
              case rel => exact ⟨k + 1, by omega, by go_num, HC10.out, HOK.out, HB10.out⟩
              case measure => simp [intOf]; omega
            · rw [decide_eq_false he] at HQ
              have HOK : Hid (legalR tasks [] L = false) := HNO.out (HANN.out he)
              clear he HSTEP HNO HANS HANN
              go_wp2_with fail
              refine HQ.out.mono ?_
              rintro e w9 ⟨rfl, hb⟩
              have HB9 := Lib.hid (stepB HB2.out (stepB ((Below.refl _ _).alloc (Nat.le_refl _) _) hb))
              clear hb
              go_wp2
              go_ret
              exact ⟨by rw [HV.out, HOK.out]; rfl, HB9.out⟩
      · obtain rfl : k = n := by omega
        have d1 : decide ((k : Int) < (k : Int)) = false := decide_eq_false (by omega)
        have HOK : Hid (legalR tasks [] L = true) := by
          show _ = _
          rw [HLG.out, List.drop_eq_nil_of_le (by rw [← HLE.out, List.length_map, HL.out]; exact Nat.le_refl _)]; rfl
        go_wp2
        go_ret
        exact ⟨by rw [HV.out, HOK.out]; rfl, HB.out⟩
  · have HV : Hid (legalL tasks (Rs.map Prod.fst) = false) := by show _ = _; unfold legalL; rw [decide_eq_false hm, Bool.false_and]
    rw [decide_eq_false hm] at HM
    rw [HV.out]
    clear hm
    go_enter Try.func18, Try.ntmps18
    go_wp2_with fail
    refine HM.out.mono ?_
    rintro e w1 ⟨rfl, rfl⟩
    go_wp2
    go_ret
    exact ⟨rfl, Below.refl _ _⟩
end Go.Proofs.Ytgbcncfgpdlmiaa
