/- A search among places; one place alone: sorted, compacted, copied. -/
import Derived.Test.YtgbcncfgpdlmiaaJ
namespace Go.Proofs.Ytgbcncfgpdlmiaa
open Go.ChangeShapes Go.WideShapes Go.ChangeAt Go.RowKit Go.Maps
set_option linter.unusedVariables false
set_option linter.unusedSimpArgs false

theorem elemPl : RElem plc 2 Try.prog 46 45 16 where
  und := Try.underlying46
  info := by
    have h : (Try.prog.info? 45).map (fun i => (i.zero, i.size, i.bytes)) = some (some (.agg #[.int .i64 0, .int .i64 0]), 2, 16) := by kernel_rfl
    cases hi : Try.prog.info? 45 with
    | none => rw [hi] at h; cases h
    | some i => rw [hi] at h; simp only [Option.map_some, Option.some.injEq, Prod.mk.injEq] at h; exact ⟨i, _, rfl, h.1, h.2.1, h.2.2, rfl⟩
  pos := by decide
  len := plc_len
  one := fun x u hu => by simp [plc] at hu; rcases hu with rfl | rfl <;> rfl
theorem idx46 (g off m c k : Nat) (i : Int) (hi : i = (k : Int)) (h : k < m) (W : World) : (Instr.indexAt 46 (.slice (some ⟨g, off, none⟩) m c) (.int .i64 i)).run Try.prog W = .ok (.pointer (some ⟨g, off + k * 2, none⟩)) W := by
  subst hi
  have h1 : (0 : Int) ≤ (k : Int) ∧ (k : Int) < (m : Int) := by omega
  go_simp
theorem eq46 (A : Option Addr) (n c : Nat) (W : World) : (binOp .eql 46 (.slice A n c) (.slice none 0 0)).run Try.prog W = .ok (.bool A.isNone) W := Go.Lib.run_eql_slice_nil W 46 45 A n c 0 0 Try.underlying46
def isP (P : List Pl) (k : Nat) (t : Pl) : Bool := match P[k]? with | some p => decide (cmpP p t = 0) | none => false
abbrev S5B (w0 : World) (gt : Nat) (t1 t2 : Int) (g o : Nat) (p1 p2 : Int) (W : World) : Prop := Below w0.heap.size w0 W ∧ W.cell? ⟨gt, 0, none⟩ = some (.int .i64 t1) ∧ W.cell? ⟨gt, 1, none⟩ = some (.int .i64 t2) ∧ W.cell? ⟨g, o, none⟩ = some (.int .i64 p1) ∧ W.cell? ⟨g, o + 1, none⟩ = some (.int .i64 p2)
set_option maxRecDepth 100000 in
set_option maxHeartbeats 4000000 in
theorem bs_any (A : Option Addr) (n cap k0 : Nat) (P : List Pl) (t1 t2 : Int) (w : World) (h : RSl plc 2 w A n P) (hn : n ≤ 100000) (hc : k0 ≤ n) (hlt : ∀ j p, P[j]? = some p → (cmpP p (t1, t2) < 0 ↔ j < k0)) : Calls Try.prog 45 #[.slice A n cap, .agg #[.int .i64 t1, .int .i64 t2], .func (.func 42) #[] #[]] w fun e w' => e = .returned (.tuple #[.int .i64 (k0 : Nat), .bool (isP P k0 (t1, t2))]) ∧ Below w.heap.size w w' := by
  have hbx : Below w.heap.size w (w.alloc (.cells #[.int .i64 t1, .int .i64 t2] 45)) := (Below.refl _ _).alloc (Nat.le_refl _) _
  have HB0 := Lib.hid hbx
  have HT : Hid (Blk (w.alloc (.cells #[.int .i64 t1, .int .i64 t2] 45)) w.heap.size #[.int .i64 t1, .int .i64 t2] 45) := Blk.new _ _ _
  have HP := Lib.hid h
  have HLT := Lib.hid hlt
  have HLN : Hid (P.length = n) := h.1
  clear hbx h hlt
  go_enter Try.func45, Try.ntmps45
  go_upto_region 1 with (fail)
  generalize w.alloc (.cells #[.int .i64 t1, .int .i64 t2] 45) = w1 at *
  obtain ⟨gt, hgt⟩ : ∃ g, w.heap.size = g := ⟨_, rfl⟩
  rw [hgt] at HT
  rw [hgt]
  clear hgt
  go_wp2
  go_loopw [9, 10, 11] (fun i j u W => ∃ a b : Nat, i = .int .i64 a ∧ j = .int .i64 b ∧ a ≤ k0 ∧ k0 ≤ b ∧ b ≤ n ∧ Blk W gt #[.int .i64 t1, .int .i64 t2] 45 ∧ Below w.heap.size w W) (fun i j _ _ => (intOf j).toNat - (intOf i).toNat)
  case atStart => exact ⟨0, n, rfl, rfl, Nat.zero_le _, hc, Nat.le_refl _, HT.out, HB0.out⟩
  case round =>
    obtain ⟨a, b, rfl, rfl, ha, hb, hbn, ht, hbw⟩ := hrel
    have HTW := Lib.hid ht
    have HBW := Lib.hid hbw
    clear ht hbw HB0 HT
    by_cases hlt : a < b
    · have d1 : decide ((a : Int) < (b : Int)) = true := decide_eq_true (by omega)
      obtain ⟨m, hm⟩ : ∃ m, (a + b) / 2 = m := ⟨_, rfl⟩
      have w1' : IntKind.i64.wrap ((a : Int) + (b : Int)) = ((a + b : Nat) : Int) := by rw [IntWalk.i64_in _ (by omega)]; omega
      have w2' : IntKind.u64.wrap ((a + b : Nat) : Int) = ((a + b : Nat) : Int) := by rw [IntKind.wrap_u64]; omega
      have w3' : ((a : Int) + (b : Int)) / 2 = (m : Int) := by omega
      have w4' : IntKind.i64.wrap (m : Int) = (m : Int) := IntWalk.i64_in _ (by omega)
      have w5' : IntKind.i64.wrap ((m : Int) + 1) = (m : Int) + 1 := IntWalk.i64_in _ (by omega)
      have hma : a ≤ m ∧ m < b := by omega
      have HMA := Lib.hid hm
      clear hm
      obtain ⟨g, off, rfl, hg, hcell⟩ := (HP.out.later HBW.out).2 (by omega)
      have i5 := idx46 g off n cap m (m : Int) rfl (by omega)
      have hx : P[m]? = some (P[m]'(by rw [HLN.out]; omega)) := List.getElem?_eq_getElem _
      have x0 := hcell m _ hx 0 (by decide)
      have x1 := hcell m _ hx 1 (by decide)
      have HCL := Lib.hid (HLT.out m _ hx)
      generalize P[m]'(by rw [HLN.out]; omega) = p at *
      obtain ⟨p1, p2⟩ := p
      simp only [plc, List.getElem?_cons_zero, List.getElem?_cons_succ, Nat.add_zero] at x0 x1
      have y0 := HTW.out.cell 0
      have y1 := HTW.out.cell 1
      simp only [List.getElem?_toArray, List.getElem?_cons_zero, List.getElem?_cons_succ] at y0 y1
      have HCM := Lib.hid (fun W => compare_any (p1, p2) (t1, t2) W)
      simp only at HCM
      obtain ⟨z, hz⟩ : ∃ z, cmpP (p1, p2) (t1, t2) = z := ⟨_, rfl⟩
      rw [hz] at HCL HCM
      clear hcell hx hg hz
      by_cases hz0 : z < 0
      · have q1 : decide (z < 0) = true := decide_eq_true hz0
        have HMK : Hid (m < k0) := HCL.out.1 hz0
        clear hz0 HCL
        go_upto_region 5 with (fail)
        go_still_tail 6, (by kernel_rfl)
        change wpList _ _ _ _ _ wr.drew
        have hbd : Below wr.heap.size wr wr.drew := Below.drew (Below.refl _ _)
        have x0' : wr.drew.cell? ⟨g, off + m * 2, none⟩ = _ := x0
        have x1' : wr.drew.cell? ⟨g, off + m * 2 + 1, none⟩ = _ := x1
        have y0' : wr.drew.cell? ⟨gt, 0, none⟩ = _ := y0
        have y1' : wr.drew.cell? ⟨gt, 1, none⟩ = _ := y1
        have HTD := Lib.hid (HTW.out.later hbd)
        have HBD := Lib.hid (stepB HBW.out hbd)
        clear hbd x0 x1 y0 y1 HTW HBW
        generalize wr.drew = w4 at *
        go_wp2_with fail
        refine (HCM.out _).mono ?_
        rintro e w5 ⟨rfl, hb5⟩
        have HT5 := Lib.hid (HTD.out.later hb5)
        have HB5 := Lib.hid (stepB HBD.out hb5)
        clear hb5 x0' x1' y0' y1' HTD HBD i5
        go_wp2
        go_roundw
        case rel => exact ⟨m + 1, b, by go_num, rfl, by have := HMK.out; omega, hb, hbn, HT5.out, HB5.out⟩
        case measure => simp [intOf]; omega
      · have q1 : decide (z < 0) = false := decide_eq_false hz0
        have HMK : Hid (k0 ≤ m) := Nat.le_of_not_lt (fun h => hz0 (HCL.out.2 h))
        clear hz0 HCL
        go_upto_region 5 with (fail)
        go_still_tail 6, (by kernel_rfl)
        change wpList _ _ _ _ _ wr.drew
        have hbd : Below wr.heap.size wr wr.drew := Below.drew (Below.refl _ _)
        have x0' : wr.drew.cell? ⟨g, off + m * 2, none⟩ = _ := x0
        have x1' : wr.drew.cell? ⟨g, off + m * 2 + 1, none⟩ = _ := x1
        have y0' : wr.drew.cell? ⟨gt, 0, none⟩ = _ := y0
        have y1' : wr.drew.cell? ⟨gt, 1, none⟩ = _ := y1
        have HTD := Lib.hid (HTW.out.later hbd)
        have HBD := Lib.hid (stepB HBW.out hbd)
        clear hbd x0 x1 y0 y1 HTW HBW
        generalize wr.drew = w4 at *
        go_wp2_with fail
        refine (HCM.out _).mono ?_
        rintro e w5 ⟨rfl, hb5⟩
        have HT5 := Lib.hid (HTD.out.later hb5)
        have HB5 := Lib.hid (stepB HBD.out hb5)
        clear hb5 x0' x1' y0' y1' HTD HBD i5
        go_wp2
        go_roundw
        case rel => exact ⟨a, m, rfl, rfl, ha, HMK.out, by omega, HT5.out, HB5.out⟩
        case measure => simp [intOf]; omega
    · obtain rfl : a = k0 := by omega
      obtain rfl : b = a := by omega
      have d1 : decide ((b : Int) < (b : Int)) = false := decide_eq_false (by omega)
      by_cases hbn2 : b < n
      · have d2 : decide ((b : Int) < (n : Int)) = true := decide_eq_true (by omega)
        obtain ⟨g, off, rfl, hg, hcell⟩ := (HP.out.later HBW.out).2 (by omega)
        have i5 := idx46 g off n cap b (b : Int) rfl hbn2
        have hx : P[b]? = some (P[b]'(by rw [HLN.out]; omega)) := List.getElem?_eq_getElem _
        have x0 := hcell b _ hx 0 (by decide)
        have x1 := hcell b _ hx 1 (by decide)
        have HV : Hid (isP P b (t1, t2) = decide (cmpP (P[b]'(by rw [HLN.out]; omega)) (t1, t2) = 0)) := by show _ = _; unfold isP; rw [hx]
        generalize P[b]'(by rw [HLN.out]; omega) = p at *
        obtain ⟨p1, p2⟩ := p
        simp only [plc, List.getElem?_cons_zero, List.getElem?_cons_succ, Nat.add_zero] at x0 x1
        have y0 := HTW.out.cell 0
        have y1 := HTW.out.cell 1
        simp only [List.getElem?_toArray, List.getElem?_cons_zero, List.getElem?_cons_succ] at y0 y1
        have HCM := Lib.hid (fun W => compare_any (p1, p2) (t1, t2) W)
        simp only at HCM
        obtain ⟨z, hz⟩ : ∃ z, cmpP (p1, p2) (t1, t2) = z := ⟨_, rfl⟩
        rw [hz] at HV HCM
        obtain ⟨r, hr⟩ : ∃ r, isP P b (t1, t2) = r := ⟨_, rfl⟩
        rw [hr] at HV
        have HRR := Lib.hid hr
        obtain ⟨q, hq⟩ : ∃ q, (z == 0) = q := ⟨_, rfl⟩
        have HQR : Hid (q = r) := by
          show _ = _
          rw [← hq, HV.out]
          by_cases h0 : z = 0 <;> simp [h0]
        clear hcell hx hg hz hr
        go_upto_region 8 with (fail)
        have S0 : Hid (S5B wr gt t1 t2 g (off + b * 2) p1 p2 wr.drew) := ⟨Below.drew (Below.refl _ _), y0, y1, x0, x1⟩
        have HGL : Hid (∀ W, Below wr.heap.size wr W → S5B wr gt t1 t2 g (off + b * 2) p1 p2 W) := fun W hb => ⟨hb, (hb.cell (p := ⟨gt, 0, none⟩) HTW.out.lt).trans y0, (hb.cell (p := ⟨gt, 1, none⟩) HTW.out.lt).trans y1, (hb.cell (p := ⟨g, off + b * 2, none⟩) (lt_of_cell x0)).trans x0, (hb.cell (p := ⟨g, off + b * 2 + 1, none⟩) (lt_of_cell x0)).trans x1⟩
        clear x0 x1 y0 y1
        go_region_held3 (S5B wr gt t1 t2 g (off + b * 2) p1 p2) (first | assumption | exact S0.out | exact HGL.out _ (stepB (And.left (by assumption)) (by assumption)) | exact HGL.out _ (below_drewN (And.left (by assumption)) _)) (first
          | (go_at_call 42; refine (HCM.out _).mono ?_; rintro e wz ⟨rfl, hb⟩))
        all_goals (
          rename S5B _ _ _ _ _ _ _ _ _ => hSO
          have HZ := Lib.hid (stepB HBW.out hSO.1)
          clear hSO
          go_wp2
          go_ret2
          exact ⟨by rw [HRR.out, ← HQR.out]; rfl, HZ.out⟩)
      · have d2 : decide ((b : Int) < (n : Int)) = false := decide_eq_false (by omega)
        have HV : Hid (isP P b (t1, t2) = false) := by show _ = _; unfold isP; rw [List.getElem?_eq_none (by rw [HLN.out]; omega)]
        go_upto_region 8 with (fail)
        go_quiet (fail)
        have HZ := Lib.hid (stepB HBW.out (below_drewN (Below.refl wr.heap.size wr) nq))
        go_wp2
        go_ret2
        exact ⟨by rw [HV.out]; rfl, HZ.out⟩
end Go.Proofs.Ytgbcncfgpdlmiaa
