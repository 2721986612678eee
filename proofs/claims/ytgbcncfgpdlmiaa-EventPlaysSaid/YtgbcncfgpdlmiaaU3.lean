/- The document's functions: the same histories. -/
import Derived.Test.YtgbcncfgpdlmiaaU2
namespace Go.Proofs.Ytgbcncfgpdlmiaa
open Go.ChangeShapes Go.WideShapes Go.ChangeAt Go.RowKit Go.Maps
set_option linter.unusedVariables false
set_option linter.unusedSimpArgs false

set_option maxRecDepth 100000 in
set_option maxHeartbeats 8000000 in
theorem rsame_any (A B : Option Addr) (n m c d : Nat) (Rs Qs : List RE) (w : World) (h : EvS w A n Rs) (h2 : EvS w B m Qs) (hp : ∀ r ∈ Rs, r.2.2.1 ≤ 100000) (hn : n ≤ 100000) : Calls Try.prog 25 #[.slice A n c, .slice B m d] w (Bl (decide (Rs.map Prod.fst = Qs.map Prod.fst)) w) := by
  have HL : Hid (Rs.length = n ∧ Qs.length = m) := ⟨h.rd.1, h2.rd.1⟩
  obtain ⟨r, hr⟩ : ∃ r, decide (Rs.map Prod.fst = Qs.map Prod.fst) = r := ⟨_, rfl⟩
  rw [hr]
  have HR := Lib.hid hr
  have HP := Lib.hid h
  have HP2 := Lib.hid h2
  have HPN := Lib.hid hp
  clear hr h h2 hp
  by_cases hnn : n = m
  · subst hnn
    have q1 : ((n : Int) != (n : Int)) = false := by simp
    go_enter Try.func25, Try.ntmps25
    go_wp2
    go_loopw [5] (fun i W => ∃ k : Nat, k ≤ n ∧ i = .int .i64 k ∧ (Rs.map Prod.fst).take k = (Qs.map Prod.fst).take k ∧ Below w.heap.size w W) (fun i _ => n - (intOf i).toNat)
    case atStart => exact ⟨0, Nat.zero_le _, rfl, by simp, Below.refl _ _⟩
    case round =>
      obtain ⟨k, hk, rfl, ht, hb⟩ := hrel
      have HT := Lib.hid ht
      have HB := Lib.hid hb
      clear ht hb
      by_cases hlt : k < n
      · have d1 : decide ((k : Int) < (n : Int)) = true := decide_eq_true (by omega)
        have wk : IntKind.i64.wrap ((k : Int) + 1) = (k : Int) + 1 := IntWalk.i64_in _ (by omega)
        obtain ⟨g, off, rfl, hg, hc⟩ := (HP.out.later HB.out).rd.2 (by omega)
        obtain ⟨g2, off2, rfl, hg2, hc2⟩ := (HP2.out.later HB.out).rd.2 (by omega)
        have i5 := idx32 g off n c k (k : Int) rfl hlt
        have i6 := idx32 g2 off2 n d k (k : Int) rfl hlt
        have hx : Rs[k]? = some (Rs[k]'(by rw [HL.out.1]; exact hlt)) := List.getElem?_eq_getElem _
        have hy : Qs[k]? = some (Qs[k]'(by rw [HL.out.2]; exact hlt)) := List.getElem?_eq_getElem _
        have hp1 := (HP.out.later HB.out).po _ (List.mem_of_getElem? hx)
        have hp2 := (HP2.out.later HB.out).po _ (List.mem_of_getElem? hy)
        have hn1 := HPN.out _ (List.mem_of_getElem? hx)
        have HX : Hid ((Rs.map Prod.fst)[k]? = some (Rs[k]'(by rw [HL.out.1]; exact hlt)).1) := by show _ = _; rw [List.getElem?_map, hx]; rfl
        have HY : Hid ((Qs.map Prod.fst)[k]? = some (Qs[k]'(by rw [HL.out.2]; exact hlt)).1) := by show _ = _; rw [List.getElem?_map, hy]; rfl
        generalize Rs[k]'(by rw [HL.out.1]; exact hlt) = r1 at *
        generalize Qs[k]'(by rw [HL.out.2]; exact hlt) = r2 at *
        obtain ⟨⟨wh, t, cl, er, fo, va, ps⟩, A1, n1, c1⟩ := r1
        obtain ⟨⟨wh2, t2, cl2, er2, fo2, va2, ps2⟩, A2, n2, c2⟩ := r2
        have x0 := hc k _ hx 0 (by decide)
        have y0 := hc2 k _ hy 0 (by decide)
        have x1 := hc k _ hx 1 (by decide)
        have y1 := hc2 k _ hy 1 (by decide)
        have x2 := hc k _ hx 2 (by decide)
        have y2 := hc2 k _ hy 2 (by decide)
        have x3 := hc k _ hx 3 (by decide)
        have y3 := hc2 k _ hy 3 (by decide)
        have x4 := hc k _ hx 4 (by decide)
        have y4 := hc2 k _ hy 4 (by decide)
        have x5 := hc k _ hx 5 (by decide)
        have y5 := hc2 k _ hy 5 (by decide)
        have x6 := hc k _ hx 6 (by decide)
        have y6 := hc2 k _ hy 6 (by decide)
        simp only [evc, hdv, List.getElem?_cons_zero, List.getElem?_cons_succ, Nat.add_zero] at x0 x1 x2 x3 x4 x5 x6 y0 y1 y2 y3 y4 y5 y6
        simp only at HX HY hp1 hp2 hn1
        have X4 : wr.cell? ⟨g, off + k * 7 + 3 + 1, none⟩ = some (.bool fo) := x4
        have X5 : wr.cell? ⟨g, off + k * 7 + 3 + 2, none⟩ = some (.string va) := x5
        have X6 : wr.cell? ⟨g, off + k * 7 + 3 + 3, none⟩ = some (.slice A1 n1 c1) := x6
        have Y4 : wr.cell? ⟨g2, off2 + k * 7 + 3 + 1, none⟩ = some (.bool fo2) := y4
        have Y5 : wr.cell? ⟨g2, off2 + k * 7 + 3 + 2, none⟩ = some (.string va2) := y5
        have Y6 : wr.cell? ⟨g2, off2 + k * 7 + 3 + 3, none⟩ = some (.slice A2 n2 c2) := y6
        clear hc hc2 hx hy hg hg2 x4 x5 x6 y4 y5 y6
        have HNO : Hid (((wh, t, cl, er, fo, va, ps) : Ev) ≠ (wh2, t2, cl2, er2, fo2, va2, ps2) → r = false) := fun he => by
          rw [← HR.out]
          refine decide_eq_false (fun e => he ?_)
          have h1 := HX.out
          rw [e, HY.out] at h1
          exact (Option.some.inj h1).symm
        have HPA : Hid (PO wr (A1, n1, c1) ps) := hp1
        have HPB : Hid (PO wr (A2, n2, c2) ps2) := hp2
        have HNA : Hid (n1 ≤ 100000) := hn1
        clear hp1 hp2 hn1
        by_cases h1 : wh = wh2
        · subst h1
          by_cases h2 : t = t2
          · subst h2
            by_cases h3 : cl = cl2
            · subst h3
              by_cases ha : ((er, fo, va, ps) : An) = (er2, fo2, va2, ps2)
              · have HE : Hid (((wh, t, cl, er, fo, va, ps) : Ev) = (wh, t, cl, er2, fo2, va2, ps2)) := by show _ = _; rw [ha]
                have HD : Hid (decide (((er, fo, va, ps) : An) = (er2, fo2, va2, ps2)) = true) := decide_eq_true ha
                clear ha
                go_upto_region 6 with (fail)
                go_still_tail 48, (by kernel_rfl)
                change wpList _ _ _ _ _ wr.drew
                have hbd : Below wr.heap.size wr wr.drew := Below.drew (Below.refl _ _)
                have x0' : wr.drew.cell? ⟨g, off + k * 7, none⟩ = _ := x0
                have x1' : wr.drew.cell? ⟨g, off + k * 7 + 1, none⟩ = _ := x1
                have x2' : wr.drew.cell? ⟨g, off + k * 7 + 2, none⟩ = _ := x2
                have x3' : wr.drew.cell? ⟨g, off + k * 7 + 3, none⟩ = _ := x3
                have X4' : wr.drew.cell? ⟨g, off + k * 7 + 3 + 1, none⟩ = _ := X4
                have X5' : wr.drew.cell? ⟨g, off + k * 7 + 3 + 2, none⟩ = _ := X5
                have X6' : wr.drew.cell? ⟨g, off + k * 7 + 3 + 3, none⟩ = _ := X6
                have y0' : wr.drew.cell? ⟨g2, off2 + k * 7, none⟩ = _ := y0
                have y1' : wr.drew.cell? ⟨g2, off2 + k * 7 + 1, none⟩ = _ := y1
                have y2' : wr.drew.cell? ⟨g2, off2 + k * 7 + 2, none⟩ = _ := y2
                have y3' : wr.drew.cell? ⟨g2, off2 + k * 7 + 3, none⟩ = _ := y3
                have Y4' : wr.drew.cell? ⟨g2, off2 + k * 7 + 3 + 1, none⟩ = _ := Y4
                have Y5' : wr.drew.cell? ⟨g2, off2 + k * 7 + 3 + 2, none⟩ = _ := Y5
                have Y6' : wr.drew.cell? ⟨g2, off2 + k * 7 + 3 + 3, none⟩ = _ := Y6
                have HBD := Lib.hid (stepB HB.out hbd)
                have HAN := Lib.hid (ans_any er er2 fo fo2 va va2 A1 A2 n1 n2 c1 c2 ps ps2 wr.drew (HPA.out.later hbd) (HPB.out.later hbd) HNA.out)
                clear hbd x0 x1 x2 x3 X4 X5 X6 y0 y1 y2 y3 Y4 Y5 Y6 HB
                generalize wr.drew = w4 at *
                rw [HD.out] at HAN
                go_wp2_with fail
                refine HAN.out.mono ?_
                rintro e w5 ⟨rfl, hb5⟩
                have HB5 := Lib.hid (stepB HBD.out hb5)
                clear hb5 HBD HAN
                clear x0' x1' x2' x3' X4' X5' X6' y0' y1' y2' y3' Y4' Y5' Y6' i5 i6
                go_wp2
                go_roundw
                case rel => exact ⟨k + 1, by omega, by go_num, take_succ_eq HX.out HY.out HT.out HE.out, HB5.out⟩
                case measure => simp [intOf]; omega
              · have HE : Hid (r = false) := HNO.out (fun e => ha (by simp only [Prod.mk.injEq] at e ⊢; exact e.2.2.2))
                have HD : Hid (decide (((er, fo, va, ps) : An) = (er2, fo2, va2, ps2)) = false) := decide_eq_false ha
                clear ha
                go_upto_region 6 with (fail)
                go_still_tail 48, (by kernel_rfl)
                change wpList _ _ _ _ _ wr.drew
                have hbd : Below wr.heap.size wr wr.drew := Below.drew (Below.refl _ _)
                have x0' : wr.drew.cell? ⟨g, off + k * 7, none⟩ = _ := x0
                have x1' : wr.drew.cell? ⟨g, off + k * 7 + 1, none⟩ = _ := x1
                have x2' : wr.drew.cell? ⟨g, off + k * 7 + 2, none⟩ = _ := x2
                have x3' : wr.drew.cell? ⟨g, off + k * 7 + 3, none⟩ = _ := x3
                have X4' : wr.drew.cell? ⟨g, off + k * 7 + 3 + 1, none⟩ = _ := X4
                have X5' : wr.drew.cell? ⟨g, off + k * 7 + 3 + 2, none⟩ = _ := X5
                have X6' : wr.drew.cell? ⟨g, off + k * 7 + 3 + 3, none⟩ = _ := X6
                have y0' : wr.drew.cell? ⟨g2, off2 + k * 7, none⟩ = _ := y0
                have y1' : wr.drew.cell? ⟨g2, off2 + k * 7 + 1, none⟩ = _ := y1
                have y2' : wr.drew.cell? ⟨g2, off2 + k * 7 + 2, none⟩ = _ := y2
                have y3' : wr.drew.cell? ⟨g2, off2 + k * 7 + 3, none⟩ = _ := y3
                have Y4' : wr.drew.cell? ⟨g2, off2 + k * 7 + 3 + 1, none⟩ = _ := Y4
                have Y5' : wr.drew.cell? ⟨g2, off2 + k * 7 + 3 + 2, none⟩ = _ := Y5
                have Y6' : wr.drew.cell? ⟨g2, off2 + k * 7 + 3 + 3, none⟩ = _ := Y6
                have HBD := Lib.hid (stepB HB.out hbd)
                have HAN := Lib.hid (ans_any er er2 fo fo2 va va2 A1 A2 n1 n2 c1 c2 ps ps2 wr.drew (HPA.out.later hbd) (HPB.out.later hbd) HNA.out)
                clear hbd x0 x1 x2 x3 X4 X5 X6 y0 y1 y2 y3 Y4 Y5 Y6 HB
                generalize wr.drew = w4 at *
                rw [HD.out] at HAN
                go_wp2_with fail
                refine HAN.out.mono ?_
                rintro e w5 ⟨rfl, hb5⟩
                have HB5 := Lib.hid (stepB HBD.out hb5)
                clear hb5 HBD HAN
                clear x0' x1' x2' x3' X4' X5' X6' y0' y1' y2' y3' Y4' Y5' Y6' i5 i6
                go_wp2
                go_ret
                exact ⟨by rw [HE.out]; rfl, HB5.out⟩
            · have q3 : (cl != cl2) = true := by simpa using h3
              have HE : Hid (r = false) := HNO.out (fun e => h3 (by simp only [Prod.mk.injEq] at e; exact e.2.2.1))
              clear h3
              go_upto_region 6 with (fail)
              go_quiet (fail)
              clear x0 x1 x2 x3 X4 X5 X6 y0 y1 y2 y3 Y4 Y5 Y6 i5 i6
              have hbn := below_drewN (Below.refl wr.heap.size wr) nq
              have HBn := Lib.hid (stepB HB.out hbn)
              clear hbn
              go_wp2
              go_ret
              exact ⟨by rw [HE.out]; rfl, HBn.out⟩
          · have q2 : (t != t2) = true := by simpa using h2
            have HE : Hid (r = false) := HNO.out (fun e => h2 (by simp only [Prod.mk.injEq] at e; exact e.2.1))
            clear h2
            go_upto_region 6 with (fail)
            go_quiet (fail)
            clear x0 x1 x2 x3 X4 X5 X6 y0 y1 y2 y3 Y4 Y5 Y6 i5 i6
            have hbn := below_drewN (Below.refl wr.heap.size wr) nq
            have HBn := Lib.hid (stepB HB.out hbn)
            clear hbn
            go_wp2
            go_ret
            exact ⟨by rw [HE.out]; rfl, HBn.out⟩
        · have q1b : (wh != wh2) = true := by simpa using h1
          have HE : Hid (r = false) := HNO.out (fun e => h1 (by simp only [Prod.mk.injEq] at e; exact e.1))
          clear h1
          go_upto_region 6 with (fail)
          go_quiet (fail)
          clear x0 x1 x2 x3 X4 X5 X6 y0 y1 y2 y3 Y4 Y5 Y6 i5 i6
          have hbn := below_drewN (Below.refl wr.heap.size wr) nq
          have HBn := Lib.hid (stepB HB.out hbn)
          clear hbn
          go_wp2
          go_ret
          exact ⟨by rw [HE.out]; rfl, HBn.out⟩
      · obtain rfl : k = n := by omega
        have d1 : decide ((k : Int) < (k : Int)) = false := decide_eq_false (by omega)
        have HE : Hid (r = true) := by
          show _ = _
          rw [← HR.out]
          refine decide_eq_true ?_
          have h1 := HT.out
          rw [List.take_of_length_le (by rw [List.length_map, HL.out.1]; exact Nat.le_refl _), List.take_of_length_le (by rw [List.length_map, HL.out.2]; exact Nat.le_refl _)] at h1
          exact h1
        go_wp2
        go_ret
        exact ⟨by rw [HE.out]; rfl, HB.out⟩
  · have q1 : ((n : Int) != (m : Int)) = true := by simp; omega
    have HE : Hid (r = false) := by
      show _ = _
      rw [← HR.out]
      refine decide_eq_false (fun e => hnn ?_)
      have := congrArg List.length e
      rw [List.length_map, List.length_map, HL.out.1, HL.out.2] at this
      exact this
    clear hnn
    go_enter Try.func25, Try.ntmps25
    go_wp2
    go_ret
    exact ⟨by rw [HE.out]; rfl, Below.refl _ _⟩
end Go.Proofs.Ytgbcncfgpdlmiaa
