/- Refused. -/
import Derived.Test.YtoinjnocopejjaaMP
import Derived.StillTailTactics
namespace Go.Proofs.Ytoinjnocopejjaa
open Go.ChangeShapes Go.WideShapes Go.ChangeAt Go.RowKit Go.Maps
set_option linter.unusedVariables false
set_option linter.unusedSimpArgs false
set_option maxRecDepth 100000 in
set_option maxHeartbeats 4000000 in
theorem named_any (kn : Nat) (w : World) : Calls Try.prog 61 #[.int .u8 (kn : Int)] w fun e w' => e = .returned (.bool (namedK kn)) ∧ w = w' := by
  by_cases h1 : 2 ≤ kn
  · have d1 : decide (2 ≤ (kn : Int)) = true := decide_eq_true (by omega)
    have d2 : decide (2 ≤ kn) = true := decide_eq_true h1
    have d3 : decide ((kn : Int) ≥ 2) = true := decide_eq_true (by omega)
    by_cases h2 : kn ≤ 7
    · have d4 : decide ((kn : Int) ≤ 7) = true := decide_eq_true (by omega)
      have d5 : decide (kn ≤ 7) = true := decide_eq_true h2
      have HR : Hid (namedK kn = true) := Lib.hid (by unfold namedK; rw [d2, d5]; rfl)
      clear h1 h2
      go_enter Try.func61, Try.ntmps61
      go_wp2
      go_ret
      exact ⟨by rw [HR.out]; rfl, rfl⟩
    · have d4 : decide ((kn : Int) ≤ 7) = false := decide_eq_false (by omega)
      have d5 : decide (kn ≤ 7) = false := decide_eq_false h2
      have HR : Hid (namedK kn = false) := Lib.hid (by unfold namedK; rw [d2, d5]; rfl)
      clear h1 h2
      go_enter Try.func61, Try.ntmps61
      go_wp2
      go_ret
      exact ⟨by rw [HR.out]; rfl, rfl⟩
  · have d1 : decide (2 ≤ (kn : Int)) = false := decide_eq_false (by omega)
    have d2 : decide (2 ≤ kn) = false := decide_eq_false h1
    have d3 : decide ((kn : Int) ≥ 2) = false := decide_eq_false (by omega)
    have HR : Hid (namedK kn = false) := Lib.hid (by unfold namedK; rw [d2]; rfl)
    clear h1
    go_enter Try.func61, Try.ntmps61
    go_wp2
    go_ret
    exact ⟨by rw [HR.out]; rfl, rfl⟩
theorem refused_nil (t : Int) (x : Cl) (w : World) : Calls Try.prog 19 #[.pointer none, .int .i64 t, clV x] w fun e w' => e = .returned (.int .i64 2) ∧ Below w.heap.size w w' := by
  obtain ⟨kn, tx, ke, en, va, li, eg⟩ := x
  unfold clV
  simp only
  have HB : Hid (Below w.heap.size w (w.alloc (.cells #[.int .u8 (kn : Int), .int .i64 tx, .string ke, .string en, .string va, .int .i64 li, .int .u8 (eg : Int)] 36))) := Lib.hid ((Below.refl _ _).alloc (Nat.le_refl _) _)
  go_enter Try.func19, Try.ntmps19
  go_wp2
  go_ret
  exact ⟨rfl, HB.out⟩
def ErEnd (r : Int) (w : World) (e : Ending) (w' : World) : Prop := e = .returned (.int .i64 r) ∧ Below w.heap.size w w'
set_option maxRecDepth 100000 in
set_option maxHeartbeats 16000000 in
theorem refused_any (B p : Nat) (s : MS) (S : Nat → Prop) (t : Int) (x : Cl) (w : World) (h : MR w B p s S) (hn : s.txns.length ≤ 100000) (hx : COk x) : Calls Try.prog 19 #[.pointer (some ⟨p, 0, none⟩), .int .i64 t, clV x] w (ErEnd (refM s t x) w) := by
  obtain ⟨kn, tx, ke, en, va, li, eg⟩ := x
  have HB : Hid (Below w.heap.size w (w.alloc (.cells #[.int .u8 (kn : Int), .int .i64 tx, .string ke, .string en, .string va, .int .i64 li, .int .u8 (eg : Int)] 36))) := Lib.hid ((Below.refl _ _).alloc (Nat.le_refl _) _)
  have K5 : Hid (Blk (w.alloc (.cells #[.int .u8 (kn : Int), .int .i64 tx, .string ke, .string en, .string va, .int .i64 li, .int .u8 (eg : Int)] 36)) w.heap.size #[.int .u8 (kn : Int), .int .i64 tx, .string ke, .string en, .string va, .int .i64 li, .int .u8 (eg : Int)] 36) := Lib.hid (Blk.new w _ 36)
  have HM : Hid (MR (w.alloc (.cells #[.int .u8 (kn : Int), .int .i64 tx, .string ke, .string en, .string va, .int .i64 li, .int .u8 (eg : Int)] 36)) B p s S) := Lib.hid (h.later HB.out)
  have HX := Lib.hid hx
  have HN := Lib.hid hn
  clear h hx hn
  unfold clV
  simp only
  obtain ⟨xx, hxx, _⟩ := HM.out
  have k11 := hxx.c0 11
  simp only [mdC, List.getElem?_cons_succ, List.getElem?_cons_zero] at k11
  obtain ⟨m, hm⟩ : ∃ m, s.tasks.length = m := ⟨_, rfl⟩
  have HMM := Lib.hid hm
  rw [hm] at k11
  clear hxx hm
  have z0 := K5.out.cell 0
  have z1 := K5.out.cell 1
  have z2 := K5.out.cell 2
  have z3 := K5.out.cell 3
  have z4 := K5.out.cell 4
  have z5 := K5.out.cell 5
  have z6 := K5.out.cell 6
  simp only [List.getElem?_toArray, List.getElem?_cons_zero, List.getElem?_cons_succ] at z0 z1 z2 z3 z4 z5 z6
  unfold ErEnd
  by_cases h1 : t < 0
  · have d1 : decide (t < 0) = true := decide_eq_true h1
    have HR : Hid (refM s t (kn, tx, ke, en, va, li, eg) = 1) := Lib.hid (by unfold refM; rw [if_pos (.inl h1)])
    clear h1
    go_enter Try.func19, Try.ntmps19
    go_wp2
    go_ret
    exact ⟨by rw [HR.out]; rfl, HB.out⟩
  obtain ⟨i, rfl⟩ : ∃ i : Nat, t = (i : Int) := ⟨t.toNat, by omega⟩
  have d1 : decide ((i : Int) < 0) = false := decide_eq_false (by omega)
  by_cases h2 : m ≤ i
  · have d2 : decide ((m : Int) ≤ (i : Int)) = true := decide_eq_true (by omega)
    have d3 : decide (m ≤ i) = true := decide_eq_true h2
    have HR : Hid (refM s (i : Int) (kn, tx, ke, en, va, li, eg) = 1) := Lib.hid (by have := HMM.out; unfold refM; rw [if_pos (.inr (.inl (by omega)))])
    clear h1 h2
    go_enter Try.func19, Try.ntmps19
    go_wp2
    go_ret
    exact ⟨by rw [HR.out]; rfl, HB.out⟩
  have d2 : decide ((m : Int) ≤ (i : Int)) = false := decide_eq_false (by omega)
  have d3 : decide (m ≤ i) = false := decide_eq_false h2
  by_cases h3 : kn = 0
  · have d4 : decide ((kn : Int) < 1) = true := decide_eq_true (by omega)
    have d5 : decide (kn < 1) = true := decide_eq_true (by omega)
    have d6 : decide (kn = 0) = true := decide_eq_true h3
    have HR : Hid (refM s (i : Int) (kn, tx, ke, en, va, li, eg) = 1) := Lib.hid (by unfold refM; rw [if_pos (.inr (.inr (.inl (by simp only; omega))))])
    clear h1 h2 h3
    go_enter Try.func19, Try.ntmps19
    go_wp2
    go_ret
    exact ⟨by rw [HR.out]; rfl, HB.out⟩
  have d4 : decide ((kn : Int) < 1) = false := decide_eq_false (by omega)
  have d5 : decide (kn < 1) = false := decide_eq_false (by omega)
  have d6 : decide (kn = 0) = false := decide_eq_false h3
  by_cases h4 : 9 < kn
  · have d7 : decide (9 < (kn : Int)) = true := decide_eq_true (by omega)
    have d8 : decide (9 < kn) = true := decide_eq_true h4
    have HR : Hid (refM s (i : Int) (kn, tx, ke, en, va, li, eg) = 1) := Lib.hid (by unfold refM; rw [if_pos (.inr (.inr (.inr h4)))])
    clear h1 h2 h3 h4
    go_enter Try.func19, Try.ntmps19
    go_wp2
    go_ret
    exact ⟨by rw [HR.out]; rfl, HB.out⟩
  have d7 : decide (9 < (kn : Int)) = false := decide_eq_false (by omega)
  have d8 : decide (9 < kn) = false := decide_eq_false h4
  have HR1 : Hid (¬ ((i : Int) < 0 ∨ (s.tasks.length : Int) ≤ (i : Int) ∨ kn < 1 ∨ 9 < kn)) := Lib.hid (by have := HMM.out; omega)
  by_cases h5 : kn = 9 ∧ eg ≠ 1 ∧ eg ≠ 2
  · obtain ⟨h9, h6, h7⟩ := h5
    have e9 : ((kn : Int) == 9) = true := by rw [h9]; rfl
    have e6 : ((eg : Int) != 1) = true := by rw [bne_iff_ne]; omega
    have e7 : ((eg : Int) != 2) = true := by rw [bne_iff_ne]; omega
    have HR : Hid (refM s (i : Int) (kn, tx, ke, en, va, li, eg) = 1) := Lib.hid (by unfold refM; rw [if_neg HR1.out, if_pos ⟨h9, h6, h7⟩])
    clear h1 h2 h3 h4 h6 h7 h9
    go_enter Try.func19, Try.ntmps19
    go_wp2
    go_ret
    exact ⟨by rw [HR.out]; rfl, HB.out⟩
  have HR2 : Hid (¬ (kn = 9 ∧ eg ≠ 1 ∧ eg ≠ 2)) := Lib.hid h5
  have HW : (((kn : Int) == 9) = false) ∨ (((kn : Int) == 9) = true ∧ ((eg : Int) != 1) = false) ∨ (((kn : Int) == 9) = true ∧ ((eg : Int) != 1) = true ∧ ((eg : Int) != 2) = false) := by
    by_cases a : kn = 9
    · have a1 : ((kn : Int) == 9) = true := by rw [a]; rfl
      by_cases b : eg = 1
      · exact .inr (.inl ⟨a1, by rw [b]; rfl⟩)
      · have b1 : ((eg : Int) != 1) = true := by rw [bne_iff_ne]; omega
        have b2 : eg = 2 := by
          by_cases c : eg = 2
          · exact c
          · exact absurd ⟨a, b, c⟩ h5
        exact .inr (.inr ⟨a1, b1, by rw [b2]; rfl⟩)
    · exact .inl (by rw [beq_eq_false_iff_ne]; omega)
  clear h1 h2 h3 h4 h5
  rcases HW with HW | ⟨HW1, HW2⟩ | ⟨HW1, HW2, HW3⟩
  all_goals
    go_enter Try.func19, Try.ntmps19
    go_wp2_with fail
    refine (named_any _ _).mono ?_
    rintro e w1 ⟨rfl, rfl⟩
    clear k11 z0 z1 z2 z3 z4 z5 z6 d1 d2 d3 d4 d5 d6 d7 d8
    cases hnm : namedK kn with
    | false =>
      have HR3 : Hid (refM s (i : Int) (kn, tx, ke, en, va, li, eg) = if fitsM s.cf (kn, tx, ke, en, va, li, eg) = true then 0 else 32) := Lib.hid (by
        unfold refM; rw [if_neg HR1.out, if_neg HR2.out, if_neg (by simp only [hnm]; simp), if_neg (by simp only [hnm]; simp)])
      go_upto_region 13 with (fail)
      generalize (w.alloc (.cells #[.int .u8 (kn : Int), .int .i64 tx, .string ke, .string en, .string va, .int .i64 li, .int .u8 (eg : Int)] 36)) = w_ at *
      go_upto_region 13 with (fail)
      have Q5 := HM.out
      obtain ⟨xx, hxx, _⟩ := Q5
      have q0 := hxx.c0 0
      have q1 := hxx.c0 1
      have q2 := hxx.c0 2
      have q3 := hxx.c0 3
      have q4 := hxx.c0 4
      have q5 := hxx.c0 5
      have q6 := hxx.c0 6
      have q7 := hxx.c0 7
      simp only [mdC, List.getElem?_cons_succ, List.getElem?_cons_zero] at q0 q1 q2 q3 q4 q5 q6 q7
      clear hxx
      have y0 := K5.out.cell 0
      have y1 := K5.out.cell 1
      have y2 := K5.out.cell 2
      have y3 := K5.out.cell 3
      have y4 := K5.out.cell 4
      have y5 := K5.out.cell 5
      have y6 := K5.out.cell 6
      simp only [List.getElem?_toArray, List.getElem?_cons_zero, List.getElem?_cons_succ] at y0 y1 y2 y3 y4 y5 y6
      go_still_tail 5, (by kernel_rfl)
      change wpList _ _ _ _ _ (World.drew w_)
      have hb3 : Below w_.heap.size w_ ((World.drew w_)) := Below.drew (Below.refl _ _)
      replace HB := Lib.hid (stepB HB.out hb3)
      clear hb3 q0 q1 q2 q3 q4 q5 q6 q7 y0 y1 y2 y3 y4 y5 y6 K5 HM
      generalize World.drew w_ = w5 at *
      have HF := Lib.hid (fits_any s.cf (kn, tx, ke, en, va, li, eg) w5 HX.out)
      go_wp2_with fail
      refine HF.out.mono ?_
      rintro e w6 ⟨rfl, hb⟩
      replace HB := Lib.hid (stepB HB.out hb)
      clear hb HF
      cases hfit : fitsM s.cf (kn, tx, ke, en, va, li, eg) with
      | false =>
        have HR4 : Hid (refM s (i : Int) (kn, tx, ke, en, va, li, eg) = 32) := Lib.hid (by rw [HR3.out, hfit]; rfl)
        go_wp2
        go_ret
        exact ⟨by rw [HR4.out]; rfl, HB.out⟩
      | true =>
        have HR4 : Hid (refM s (i : Int) (kn, tx, ke, en, va, li, eg) = 0) := Lib.hid (by rw [HR3.out, hfit]; rfl)
        go_wp2
        go_ret
        exact ⟨by rw [HR4.out]; rfl, HB.out⟩
    | true =>
      have z0 := K5.out.cell 0
      have z1 := K5.out.cell 1
      have z2 := K5.out.cell 2
      have z3 := K5.out.cell 3
      have z4 := K5.out.cell 4
      have z5 := K5.out.cell 5
      have z6 := K5.out.cell 6
      simp only [List.getElem?_toArray, List.getElem?_cons_zero, List.getElem?_cons_succ] at z0 z1 z2 z3 z4 z5 z6
      go_wp2_with fail
      refine (tx_any B p s S (i : Int) tx _ HM.out HN.out).mono ?_
      rintro e w2 ⟨rfl, hb⟩
      replace HB := Lib.hid (stepB HB.out hb)
      replace K5 := Lib.hid (K5.out.later hb)
      replace HM := Lib.hid (HM.out.later hb)
      clear hb
      by_cases h6 : txW s (i : Int) tx = 0
      · have HR3 : Hid (refM s (i : Int) (kn, tx, ke, en, va, li, eg) = 30) := Lib.hid (by
          unfold refM; rw [if_neg HR1.out, if_neg HR2.out, if_pos ⟨hnm, h6⟩])
        rw [h6]
        go_wp2
        go_ret
        exact ⟨by rw [HR3.out]; rfl, HB.out⟩
      · have e6 : (txW s (i : Int) tx == 0) = false := by rw [beq_eq_false_iff_ne]; exact h6
        by_cases h7 : stW s (txW s (i : Int) tx) = 1
        · have e7 : (stW s (txW s (i : Int) tx) != 1) = false := by rw [h7]; rfl
          have HR3 : Hid (refM s (i : Int) (kn, tx, ke, en, va, li, eg) = if fitsM s.cf (kn, tx, ke, en, va, li, eg) = true then 0 else 32) := Lib.hid (by
            unfold refM; rw [if_neg HR1.out, if_neg HR2.out, if_neg (fun e => h6 e.2), if_neg (fun e => e.2 h7)])
          generalize txW s (i : Int) tx = ww at *
          generalize stW s ww = st at *
          generalize snW s ww = sn at *
          clear h6 h7
          go_upto_region 13 with (fail)
          go_upto_region 13 with (fail)
          have Q5 := HM.out
          obtain ⟨xx, hxx, _⟩ := Q5
          have q0 := hxx.c0 0
          have q1 := hxx.c0 1
          have q2 := hxx.c0 2
          have q3 := hxx.c0 3
          have q4 := hxx.c0 4
          have q5 := hxx.c0 5
          have q6 := hxx.c0 6
          have q7 := hxx.c0 7
          simp only [mdC, List.getElem?_cons_succ, List.getElem?_cons_zero] at q0 q1 q2 q3 q4 q5 q6 q7
          clear hxx
          have y0 := K5.out.cell 0
          have y1 := K5.out.cell 1
          have y2 := K5.out.cell 2
          have y3 := K5.out.cell 3
          have y4 := K5.out.cell 4
          have y5 := K5.out.cell 5
          have y6 := K5.out.cell 6
          simp only [List.getElem?_toArray, List.getElem?_cons_zero, List.getElem?_cons_succ] at y0 y1 y2 y3 y4 y5 y6
          go_still_tail 5, (by kernel_rfl)
          change wpList _ _ _ _ _ (World.drew w2)
          have hb3 : Below w2.heap.size w2 ((World.drew w2)) := Below.drew (Below.refl _ _)
          replace HB := Lib.hid (stepB HB.out hb3)
          clear hb3 q0 q1 q2 q3 q4 q5 q6 q7 y0 y1 y2 y3 y4 y5 y6 K5 HM
          generalize World.drew w2 = w5 at *
          have HF := Lib.hid (fits_any s.cf (kn, tx, ke, en, va, li, eg) w5 HX.out)
          go_wp2_with fail
          refine HF.out.mono ?_
          rintro e w6 ⟨rfl, hb⟩
          replace HB := Lib.hid (stepB HB.out hb)
          clear hb HF
          cases hfit : fitsM s.cf (kn, tx, ke, en, va, li, eg) with
          | false =>
            have HR4 : Hid (refM s (i : Int) (kn, tx, ke, en, va, li, eg) = 32) := Lib.hid (by rw [HR3.out, hfit]; rfl)
            go_wp2
            go_ret
            exact ⟨by rw [HR4.out]; rfl, HB.out⟩
          | true =>
            have HR4 : Hid (refM s (i : Int) (kn, tx, ke, en, va, li, eg) = 0) := Lib.hid (by rw [HR3.out, hfit]; rfl)
            go_wp2
            go_ret
            exact ⟨by rw [HR4.out]; rfl, HB.out⟩
        · have e7 : (stW s (txW s (i : Int) tx) != 1) = true := by rw [bne_iff_ne]; exact h7
          have HR3 : Hid (refM s (i : Int) (kn, tx, ke, en, va, li, eg) = 31) := Lib.hid (by
            unfold refM; rw [if_neg HR1.out, if_neg HR2.out, if_neg (fun e => h6 e.2), if_pos ⟨hnm, h7⟩])
          generalize txW s (i : Int) tx = ww at *
          generalize stW s ww = st at *
          generalize snW s ww = sn at *
          clear h6 h7
          go_wp2
          go_ret
          exact ⟨by rw [HR3.out]; rfl, HB.out⟩
end Go.Proofs.Ytoinjnocopejjaa
