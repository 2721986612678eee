/-
What was recorded is legal; and each legal history is what a recorder has, to which its events come one by one. For any steps, any history.
-/
import Derived.Test.YtgbcncfgpdlmiaaRB
import Derived.Test.YtgbcncfgpdlmiaaRows
namespace Go.Proofs.Ytgbcncfgpdlmiaa.eventLegal
open Go.ChangeShapes Go.WideShapes Go.ChangeAt Go.RowKit Go.Maps
set_option linter.unusedVariables false
set_option linter.unusedSimpArgs false

theorem own : ownKnob Try.prog.godebug = none := by kernel_rfl
theorem laidOut : laidOutB Try.prog = true := by kernel_rfl

theorem works_x (w : World) : Calls Try.prog 11 #[] w (Bl true w) := works_any w
theorem legalR_take (tasks : Int) (k : Nat) : ∀ (L P : List Ev), legalR tasks P L = true → legalR tasks P (L.take k) = true := by
  induction k with
  | zero => exact fun L P _ => by rw [List.take_zero]; rfl
  | succ k ih =>
    intro L P h
    cases L with
    | nil => exact h
    | cons e L =>
      rw [List.take_succ_cons]
      unfold legalR at h ⊢
      rw [Bool.and_eq_true] at h ⊢
      exact ⟨h.1, ih _ _ h.2⟩
theorem legalR_snoc (tasks : Int) (e : Ev) : ∀ (L P : List Ev), legalR tasks P (L ++ [e]) = (legalR tasks P L && okE tasks (P ++ L) e) := by
  intro L
  induction L with
  | nil => exact fun P => by simp [legalR]
  | cons x L ih =>
    intro P
    show (okE tasks P x && legalR tasks (P ++ [x]) (L ++ [e])) = ((okE tasks P x && legalR tasks (P ++ [x]) L) && okE tasks (P ++ x :: L) e)
    rw [ih, Bool.and_assoc, List.append_assoc]; rfl
theorem addC_zero {tasks wh t : Int} {L : List Ev} (h : addC tasks L wh t = 0) : (0 ≤ t ∧ t < tasks) ∧ wh = 1 + (cnt L t % 3 : Nat) := by
  unfold addC at h
  split at h
  · cases h
  · split at h
    · exact ⟨by omega, by assumption⟩
    · cases h
theorem addC_of {tasks wh t : Int} {L : List Ev} (h : 0 ≤ t ∧ t < tasks) (e : wh = 1 + (cnt L t % 3 : Nat)) : addC tasks L wh t = 0 := by
  unfold addC
  rw [if_neg (by omega), if_pos e]
theorem doA_of (wh : Int) (a : An) : doA wh a = if doW wh = 3 then a else an0 := by
  unfold doA doW
  by_cases h1 : wh = 1
  · simp [h1]
  · by_cases h2 : wh = 2
    · simp [h2]
    · simp [h1, h2]
theorem legal_do {tasks : Int} {L : List Ev} (s : SE) (h : legalR tasks [] L = true) : legalR tasks [] (doS tasks L s) = true := by
  unfold doS addL
  split
  · rename_i h0
    obtain ⟨h1, h2⟩ := addC_zero h0
    rw [legalR_snoc, h, Bool.true_and, List.nil_append]
    unfold okE nextE
    rw [Bool.and_eq_true]
    exact ⟨decide_eq_true h1, decide_eq_true (by rw [doA_of]; simp only [← h2]; split <;> rfl)⟩
  · exact h
theorem okE_do {tasks : Int} {L : List Ev} {wh t cl : Int} {a : An} {hd : Hd} (h : okE tasks L (wh, t, cl, a) = true) : (1 ≤ wh ∧ wh ≤ 3) ∧ addC tasks L (doW wh) t = 0 ∧ doS tasks L ((wh, t, a), hd) = L ++ [(wh, t, cl, a)] := by
  unfold okE nextE at h
  rw [Bool.and_eq_true, decide_eq_true_eq, decide_eq_true_eq] at h
  obtain ⟨h1, h2⟩ := h
  simp only [Prod.mk.injEq, true_and] at h2
  obtain ⟨h3, h4, h5⟩ := h2
  have hr : 1 ≤ wh ∧ wh ≤ 3 := by omega
  have hw : doW wh = wh := by unfold doW; split <;> (try split) <;> omega
  have h0 : addC tasks L (doW wh) t = 0 := addC_of h1 (by rw [hw]; exact h3)
  refine ⟨hr, h0, ?_⟩
  unfold doS addL
  rw [if_pos h0]
  have h6 : doA wh a = a := by rw [doA_of, hw]; exact h5.symm
  show L ++ [(doW wh, t, _, doA wh a)] = _
  rw [h6, hw, h4]
/-- what is known behind k events of a history: is a recorder that takes them one by one still at it, and what has it -/
structure Lk (tasks : Int) (H : List Ev) (k : Nat) (b : Bool) (M : List Ev) : Prop where
  legal : legalR tasks [] M = true
  yes : b = true → legalR tasks [] (H.take k) = true → M = H.take k
  no : b = false → legalR tasks [] (H.take k) = false
theorem Lk.zero (tasks : Int) (H : List Ev) : Lk tasks H 0 true [] := ⟨rfl, fun _ _ => rfl, (fun h => by cases h)⟩
theorem Lk.out {tasks : Int} {H : List Ev} {k : Nat} {M : List Ev} {e : Ev} (h : Lk tasks H k true M) (he : H[k]? = some e) (hw : ¬ (1 ≤ e.1 ∧ e.1 ≤ 3)) : Lk tasks H (k + 1) false M :=
  ⟨h.legal, (fun h => by cases h), fun _ => by
    rw [List.take_add_one, he]
    show legalR tasks [] (H.take k ++ [e]) = false
    rw [legalR_snoc, Bool.and_eq_false_iff]
    exact .inr (by
      rcases Bool.eq_false_or_eq_true (okE tasks ([] ++ H.take k) e) with h2 | h2
      · obtain ⟨wh, t, cl, a⟩ := e
        exact absurd (okE_do (hd := (none, 0, 0)) h2).1 hw
      · exact h2)⟩
theorem Lk.step {tasks : Int} {H : List Ev} {k : Nat} {M : List Ev} {wh t cl : Int} {a : An} {hd : Hd} (h : Lk tasks H k true M) (he : H[k]? = some (wh, t, cl, a)) (b : Bool) (hb : b = decide (addC tasks M (doW wh) t = 0)) : Lk tasks H (k + 1) b (doS tasks M ((wh, t, a), hd)) := by
  have key : legalR tasks [] (H.take (k + 1)) = true → addC tasks M (doW wh) t = 0 ∧ doS tasks M ((wh, t, a), hd) = H.take (k + 1) := fun h2 => by
    rw [List.take_add_one, he] at h2 ⊢
    show _ ∧ _ = H.take k ++ [(wh, t, cl, a)]
    change legalR tasks [] (H.take k ++ [(wh, t, cl, a)]) = true at h2
    rw [legalR_snoc, Bool.and_eq_true, List.nil_append] at h2
    have h3 := h.yes rfl h2.1
    rw [← h3] at h2 ⊢
    exact (okE_do h2.2).2
  refine ⟨legal_do _ h.legal, fun _ h2 => (key h2).2, fun h2 => ?_⟩
  rcases Bool.eq_false_or_eq_true (legalR tasks [] (H.take (k + 1))) with h3 | h3
  · rw [h2] at hb
    exact absurd (key h3).1 (of_decide_eq_false hb.symm)
  · exact h3
theorem Lk.stop {tasks : Int} {H : List Ev} {k : Nat} {M : List Ev} (h : Lk tasks H k false M) (ht : 1 ≤ tasks ∧ tasks ≤ 6) : legalL tasks H = false := by
  unfold legalL
  rw [decide_eq_true ht, Bool.true_and]
  rcases Bool.eq_false_or_eq_true (legalR tasks [] H) with h3 | h3
  · have := legalR_take tasks k _ _ h3
    rw [h.no rfl] at this
    cases this
  · exact h3
theorem Lk.all {tasks : Int} {H : List Ev} {k : Nat} {M : List Ev} (h : Lk tasks H k true M) (hk : H.length = k) (ht : 1 ≤ tasks ∧ tasks ≤ 6) : legalL tasks H = decide (M = H) := by
  have h2 := h.yes rfl
  rw [List.take_of_length_le (by omega)] at h2
  unfold legalL
  rw [decide_eq_true ht, Bool.true_and]
  rcases Bool.eq_false_or_eq_true (legalR tasks [] H) with h3 | h3
  · rw [h3, decide_eq_true (h2 h3)]
  · rw [h3, decide_eq_false (fun e => by rw [← e, h.legal] at h3; cases h3)]
theorem legalL_to {tasks : Int} {L : List Ev} (h : 1 ≤ tasks ∧ tasks ≤ 6) (h2 : legalR tasks [] L = true) : legalL tasks L = true := by
  unfold legalL
  rw [h2, decide_eq_true h]; rfl
theorem legalL_bad {tasks : Int} {L : List Ev} (h : ¬ (1 ≤ tasks ∧ tasks ≤ 6)) : legalL tasks L = false := by
  unfold legalL
  rw [decide_eq_false h]; rfl
theorem r1_new {w0 W W' : World} {tasks : Int} {p q : Nat} {L : List Ev} {v2 : Value} {Rs2 : List RE} (h : R1 w0 tasks p L W) (hr : RcAt W' W.heap.size q tasks v2 Rs2) (hb : Below W.heap.size W W') : R2 w0 tasks p L q (Rs2.map Prod.fst) (.slice none 0 0) 0 [] W' := by
  obtain ⟨v, Rs, h1, h2, h3⟩ := h
  refine ⟨v, Rs, v2, Rs2, ⟨h1.later hb, hr.base h3.size, fun e => ?_, fun k e e2 => ?_, EvO.nil _ _, (fun k e => by cases e), stepB h3 hb⟩, h2, rfl⟩
  · have := hr.hp; have := h1.blk.lt; omega
  · have := (hr.row.lt k e).1; have := (h1.row.lt k e2).2; omega
theorem built50 (wh t er : Int) (fo : Bool) (va : ByteArray) (A : Option Addr) (n c : Nat) : Try.prog.built 50 [(0, .int .u8 wh), (1, .int .i64 t), (2, .agg #[.int .i64 er, .bool fo, .string va, .slice A n c])] = some #[.int .u8 wh, .int .i64 t, .int .i64 er, .bool fo, .string va, .slice A n c] := by kernel_rfl
set_option maxRecDepth 100000 in
set_option maxHeartbeats 16000000 in
theorem walk (tasks : Int) (A1_ : Option Addr) (m1 c1_ : Nat) (S1 : List SE) (A : Option Addr) (m c : Nat) (Rs : List RE) (w : World) (h1 : StS w A1_ m1 S1) (hm1 : m1 ≤ maxLen) (h2 : EvS w A m Rs) (hm2 : m ≤ maxLen) : Calls Try.prog 6 #[.int .i64 tasks, .slice A1_ m1 c1_, .slice A m c] w (Bl true w) := by
  have HS1 : Hid (∀ W, Below w.heap.size w W → StS W A1_ m1 S1) := fun W hb => h1.later hb
  have HS : Hid (∀ W, Below w.heap.size w W → EvS W A m Rs) := fun W hb => h2.later hb
  have HL1 : Hid (S1.length = m1) := h1.rd.1
  have HL : Hid (Rs.length = m) := h2.rd.1
  have HM1 := Lib.hid hm1
  have HM := Lib.hid hm2
  clear h1 h2 hm1 hm2
  go_enter Try.func6, Try.ntmps6
  go_wp2_with fail
  refine (works_x w).mono ?_
  rintro e w1 ⟨rfl, hb⟩
  have HB1 := Lib.hid hb
  clear hb
  go_wp2_with fail
  refine (large_any A1_ m1 c1_ S1 w1 (HS1.out _ HB1.out) HM1.out).mono ?_
  rintro e w2 ⟨r, rfl, hb, hr⟩
  have HB2 := Lib.hid (stepB HB1.out hb)
  have HR1 := Lib.hid hr
  clear hb hr
  cases r with
  | true =>
    go_wp2_with fail
    refine (works_x _).mono ?_
    rintro e w3 ⟨rfl, hb⟩
    have HB3 := Lib.hid (stepB HB2.out hb)
    clear hb
    go_wp2
    go_ret
    exact ⟨rfl, HB3.out⟩
  | false =>
    have HRA := Lib.hid (HR1.out rfl)
    clear HR1
    go_wp2_with fail
    refine (wide_any A m c Rs w2 (HS.out _ HB2.out) HM.out).mono ?_
    rintro e w3 ⟨r, rfl, hb, hr⟩
    have HB3 := Lib.hid (stepB HB2.out hb)
    have HR2 := Lib.hid hr
    clear hb hr
    cases r with
    | true =>
      go_wp2_with fail
      refine (works_x _).mono ?_
      rintro e w4 ⟨rfl, hb⟩
      have HB4 := Lib.hid (stepB HB3.out hb)
      clear hb
      go_wp2
      go_ret
      exact ⟨rfl, HB4.out⟩
    | false =>
      have hn1 : m1 ≤ 200 := HRA.out.1
      have hn2 : m < 3000 := (HR2.out rfl).1
      have HN1_ : Hid (∀ s ∈ S1, s.2.2.1 < 3000) := HRA.out.2
      have HP : Hid (∀ r ∈ Rs, r.2.2.1 ≤ 100000) := fun r hr => by have := (HR2.out rfl).2 r hr; omega
      clear HRA HR2 HM1 HM
      by_cases ht : 1 ≤ tasks ∧ tasks ≤ 6
      · have HT := Lib.hid ht
        go_wp2_with fail
        refine (new_any tasks w3 ht.1 ht.2).mono ?_
        rintro e w4 ⟨p, rfl, hr, hb⟩
        have HK4 : Hid (R1 w tasks p [] w4) := ⟨_, _, hr.base HB3.out.size, rfl, stepB HB3.out hb⟩
        clear hr hb HB3 HB2 HB1
        go_wp2_with fail
        refine (new_any tasks w4 ht.1 ht.2).mono ?_
        rintro e w5 ⟨q, rfl, hr, hb⟩
        have HK5 : Hid (R2 w tasks p [] q [] (.slice none 0 0) 0 [] w5) := r1_new HK4.out hr hb
        clear hr hb HK4 ht
        go_wp2
        go_loopw [11] (fun i W => ∃ k : Nat, k ≤ m1 ∧ i = .int .i64 k ∧ R2 w tasks p (runS tasks [] (S1.take k)) q [] (.slice none 0 0) 0 [] W ∧ Bd (runS tasks [] (S1.take k)) k ∧ legalR tasks [] (runS tasks [] (S1.take k)) = true) (fun i _ => m1 - (intOf i).toNat)
        case atStart => exact ⟨0, Nat.zero_le _, rfl, HK5.out, Bd.nil, rfl⟩
        case round =>
          obtain ⟨k, hk, rfl, hr0, hd0, hg0⟩ := hrel
          have HK0 := Lib.hid hr0
          have HBD := Lib.hid hd0
          have HLG := Lib.hid hg0
          clear hr0 hd0 hg0 HK5
          by_cases hlt : k < m1
          · have d1 : decide ((k : Int) < (m1 : Int)) = true := decide_eq_true (by omega)
            have wk : IntKind.i64.wrap ((k : Int) + 1) = (k : Int) + 1 := IntWalk.i64_in _ (by omega)
            obtain ⟨g, off, hAe, hg, hc⟩ := (HS1.out _ HK0.out.below).rd.2 (by omega)
            subst hAe
            have i5 := idx47 g off m1 c1_ k (k : Int) rfl hlt
            have hrk : S1[k]? = some (S1[k]'(by rw [HL1.out]; exact hlt)) := List.getElem?_eq_getElem _
            have HSK := Lib.hid (runS_succ tasks [] S1 k _ hrk)
            have HPK : Hid (∀ W, Below w.heap.size w W → PO W (S1[k]'(by rw [HL1.out]; exact hlt)).2 (S1[k]'(by rw [HL1.out]; exact hlt)).1.2.2.2.2.2) := fun W hb => (HS1.out W hb).po _ (List.mem_of_getElem? hrk)
            have hn3 := HN1_.out _ (List.mem_of_getElem? hrk)
            generalize S1[k]'(by rw [HL1.out]; exact hlt) = s at *
            obtain ⟨⟨wh, t, er, fo, va, ps⟩, A1, n1, c1⟩ := s
            have x0 := hc k _ hrk 0 (by decide)
            have x1 := hc k _ hrk 1 (by decide)
            have x2 := hc k _ hrk 2 (by decide)
            have x3 := hc k _ hrk 3 (by decide)
            have x4 := hc k _ hrk 4 (by decide)
            have x5 := hc k _ hrk 5 (by decide)
            simp only [stc, hdv, List.getElem?_cons_zero, List.getElem?_cons_succ, Nat.add_zero] at x0 x1 x2 x3 x4 x5
            simp only at hn3
            have HPL : Hid (ps.length ≤ 100000) := by
              have := (HPK.out _ HK0.out.below).rd.1
              show _ ≤ _
              simp only at this
              omega
            have HN1 : Hid (n1 ≤ 100000) := by show _ ≤ _; omega
            clear hc hrk hg hn3
            go_wp2_with fail
            refine (r2_do HK0.out HT.out.2 HBD.out (by omega) wh t er fo va ps A1 n1 c1 HPK.out HN1.out).mono ?_
            rintro e w9 ⟨⟨_, rfl⟩, hk9⟩
            have HK9 := Lib.hid hk9
            have HBE := Lib.hid (HBD.out.doS (tasks := tasks) (s := ((wh, t, er, fo, va, ps), (A1, n1, c1))) HPL.out)
            have HLE := Lib.hid (legal_do (tasks := tasks) ((wh, t, er, fo, va, ps), (A1, n1, c1)) HLG.out)
            rw [← HSK.out] at HK9 HBE HLE
            clear hk9 HK0 HBD HLG HPL HPK HN1 HSK
            go_wp2_with fail
            refine (r1_events HK9.out.r1 HBE.out (by omega)).mono ?_
            rintro e w10 ⟨Av, cv, nv, Tr, rfl, ho, hm, hb⟩
            have HK10 := Lib.hid (HK9.out.later hb)
            have HLL : Hid (Calls Try.prog 18 #[.int .i64 tasks, .slice Av nv cv] w10 (Bl true w10)) := by
              have h1 := HBE.out.lenR hm (by omega)
              rw [ho.row.1] at h1
              have := legal_any tasks Av nv cv Tr w10 ho.evs (HBE.out.np hm ho) h1
              rw [hm, legalL_to HT.out HLE.out] at this
              exact this
            clear ho hm hb HK9
            go_wp2_with fail
            refine HLL.out.mono ?_
            rintro e w11 ⟨rfl, hb⟩
            have HK11 := Lib.hid (HK10.out.later hb)
            clear hb HLL HK10
            go_wp2
            go_roundw
            case rel => exact ⟨k + 1, by omega, by go_num, HK11.out, HBE.out, HLE.out⟩
            case measure => simp [intOf]; omega
          · obtain rfl : k = m1 := by omega
            have d1 : decide ((k : Int) < (k : Int)) = false := decide_eq_false (by omega)
            have HQ0 := Lib.hid HK0.out.swap.r1
            clear HK0 HBD HLG HS1 HL1 HN1_
            obtain ⟨H, hHe⟩ : ∃ H, Rs.map Prod.fst = H := ⟨_, rfl⟩
            have HHE := Lib.hid hHe
            have HHL : Hid (H.length = m) := by show _ = _; rw [← hHe, List.length_map, HL.out]
            clear hHe
            go_wp2
            go_loopw [12, 13] (fun b i W => ∃ (j : Nat) (b' : Bool) (M : List Ev), j ≤ m ∧ i = .int .i64 j ∧ b = .bool b' ∧ R1 w tasks q M W ∧ Bd M j ∧ Lk tasks H j b' M) (fun _ i _ => m - (intOf i).toNat)
            case atStart => exact ⟨0, true, [], Nat.zero_le _, rfl, rfl, HQ0.out, Bd.nil, Lk.zero _ _⟩
            case round =>
              obtain ⟨j, b, M, hj, rfl, rfl, hr0, hd0, hl0⟩ := hrel
              have HK0 := Lib.hid hr0
              have HBE := Lib.hid hd0
              have HLK := Lib.hid hl0
              clear hr0 hd0 hl0 HQ0
              by_cases hlt : j < m
              · have d1 : decide ((j : Int) < (m : Int)) = true := decide_eq_true (by omega)
                cases b with
                | false =>
                  have HLC := Lib.hid (legal_any tasks A m c Rs wr (HS.out _ HK0.out.below) HP.out (by omega))
                  rw [HHE.out, HLK.out.stop HT.out] at HLC
                  go_wp2_with fail
                  refine HLC.out.mono ?_
                  rintro e w9 ⟨rfl, hb⟩
                  have HB9 := Lib.hid (stepB HK0.out.below hb)
                  clear hb HK0 HLC
                  go_wp2
                  go_ret
                  exact ⟨rfl, HB9.out⟩
                | true =>
                  have wk : IntKind.i64.wrap ((j : Int) + 1) = (j : Int) + 1 := IntWalk.i64_in _ (by omega)
                  obtain ⟨g, off, hAe, hg, hc⟩ := (HS.out _ HK0.out.below).rd.2 (by omega)
                  subst hAe
                  have i5 := idx32 g off m c j (j : Int) rfl hlt
                  have hrk : Rs[j]? = some (Rs[j]'(by rw [HL.out]; exact hlt)) := List.getElem?_eq_getElem _
                  have HPK : Hid (∀ W, Below w.heap.size w W → PO W (Rs[j]'(by rw [HL.out]; exact hlt)).2 (Rs[j]'(by rw [HL.out]; exact hlt)).1.2.2.2.2.2.2) := fun W hb => (HS.out W hb).po _ (List.mem_of_getElem? hrk)
                  have HX : Hid (H[j]? = some (Rs[j]'(by rw [HL.out]; exact hlt)).1) := by show _ = _; rw [← HHE.out, List.getElem?_map, hrk]; rfl
                  have hn3 := HP.out _ (List.mem_of_getElem? hrk)
                  generalize Rs[j]'(by rw [HL.out]; exact hlt) = r at *
                  obtain ⟨⟨wh, t, cl, er, fo, va, ps⟩, A1, n1, c1⟩ := r
                  have x0 := hc j _ hrk 0 (by decide)
                  have x1 := hc j _ hrk 1 (by decide)
                  have x2 := hc j _ hrk 2 (by decide)
                  have x3 := hc j _ hrk 3 (by decide)
                  have x4 := hc j _ hrk 4 (by decide)
                  have x5 := hc j _ hrk 5 (by decide)
                  have x6 := hc j _ hrk 6 (by decide)
                  simp only [evc, hdv, List.getElem?_cons_zero, List.getElem?_cons_succ, Nat.add_zero] at x0 x1 x2 x3 x4 x5 x6
                  simp only at hn3
                  have HPL : Hid (ps.length ≤ 100000) := by
                    have := (HPK.out _ HK0.out.below).rd.1
                    show _ ≤ _
                    simp only at this
                    omega
                  have HN1 : Hid (n1 ≤ 100000) := by show _ ≤ _; omega
                  have HKA := Lib.hid (HK0.out.later ((Below.refl _ wr).alloc (Nat.le_refl _) (.cells #[.int .u8 wh, .int .i64 t, .int .i64 cl, .int .i64 er, .bool fo, .string va, .slice A1 n1 c1] 40)))
                  clear hc hrk hg hn3 HK0
                  by_cases hw1 : 1 ≤ wh
                  · have d2 : decide ((1 : Int) ≤ wh) = true := decide_eq_true hw1
                    by_cases hw3 : wh ≤ 3
                    · have d3 : decide (wh ≤ (3 : Int)) = true := decide_eq_true hw3
                      clear hw1 hw3
                      go_wp2_with (first
                        | (refine wpl_build rfl 50 _ rfl _ (built50 wh t er fo va A1 n1 c1) ?_)
                        | fail)
                      refine (r1_do HKA.out HT.out.2 HBE.out (by omega) wh t er fo va ps A1 n1 c1 HPK.out HN1.out).mono ?_
                      rintro e w9 ⟨⟨cc, rfl, hcc⟩, hk9⟩
                      have HK9 := Lib.hid hk9
                      have HBF := Lib.hid (HBE.out.doS (tasks := tasks) (s := ((wh, t, er, fo, va, ps), (A1, n1, c1))) HPL.out)
                      have HCC := Lib.hid hcc
                      clear hk9 HKA hcc
                      by_cases hz : cc = 0
                      · have d4 : (cc == 0) = true := by simp [hz]
                        have HLK2 := Lib.hid (HLK.out.step (hd := (A1, n1, c1)) HX.out true (by rw [← HCC.out, decide_eq_true hz]))
                        clear hz
                        go_wp2
                        go_roundw
                        case rel => exact ⟨j + 1, true, _, by omega, by go_num, rfl, HK9.out, HBF.out, HLK2.out⟩
                        case measure => simp [intOf]; omega
                      · have d4 : (cc == 0) = false := by simp [hz]
                        have HLK2 := Lib.hid (HLK.out.step (hd := (A1, n1, c1)) HX.out false (by rw [← HCC.out, decide_eq_false hz]))
                        clear hz
                        go_wp2
                        go_roundw
                        case rel => exact ⟨j + 1, false, _, by omega, by go_num, rfl, HK9.out, HBF.out, HLK2.out⟩
                        case measure => simp [intOf]; omega
                    · have d3 : decide (wh ≤ (3 : Int)) = false := decide_eq_false hw3
                      have HLK2 := Lib.hid (HLK.out.out HX.out (fun h => hw3 h.2))
                      have HBF : Hid (Bd M (j + 1)) := ⟨by have := HBE.out.len; omega, HBE.out.prs⟩
                      clear hw1 hw3
                      go_wp2
                      go_roundw
                      case rel => exact ⟨j + 1, false, _, by omega, by go_num, rfl, HKA.out, HBF.out, HLK2.out⟩
                      case measure => simp [intOf]; omega
                  · have d2 : decide ((1 : Int) ≤ wh) = false := decide_eq_false hw1
                    have HLK2 := Lib.hid (HLK.out.out HX.out (fun h => hw1 h.1))
                    have HBF : Hid (Bd M (j + 1)) := ⟨by have := HBE.out.len; omega, HBE.out.prs⟩
                    clear hw1
                    go_wp2
                    go_roundw
                    case rel => exact ⟨j + 1, false, _, by omega, by go_num, rfl, HKA.out, HBF.out, HLK2.out⟩
                    case measure => simp [intOf]; omega
              · have d1 : decide ((j : Int) < (m : Int)) = false := decide_eq_false (by omega)
                cases b with
                | false =>
                  have HLC := Lib.hid (legal_any tasks A m c Rs wr (HS.out _ HK0.out.below) HP.out (by omega))
                  rw [HHE.out, HLK.out.stop HT.out] at HLC
                  go_wp2_with fail
                  refine HLC.out.mono ?_
                  rintro e w9 ⟨rfl, hb⟩
                  have HB9 := Lib.hid (stepB HK0.out.below hb)
                  clear hb HK0 HLC
                  go_wp2
                  go_ret
                  exact ⟨rfl, HB9.out⟩
                | true =>
                  have HJ : Hid (H.length = j) := by show _ = _; rw [HHL.out]; omega
                  have HLF := Lib.hid (HLK.out.all HJ.out HT.out)
                  have HLC := Lib.hid (legal_any tasks A m c Rs wr (HS.out _ HK0.out.below) HP.out (by omega))
                  rw [HHE.out, HLF.out] at HLC
                  obtain ⟨bb, hbe⟩ : ∃ bb, decide (M = H) = bb := ⟨_, rfl⟩
                  rw [hbe] at HLC
                  have HBB := Lib.hid hbe
                  clear hbe HLF HLK
                  go_wp2_with fail
                  refine HLC.out.mono ?_
                  rintro e w9 ⟨rfl, hb⟩
                  have HK9 := Lib.hid (HK0.out.later hb)
                  clear hb HK0 HLC
                  go_wp2_with fail
                  refine (r1_events HK9.out HBE.out (by omega)).mono ?_
                  rintro e w10 ⟨Av, cv, nv, Tr, rfl, ho, hm, hb⟩
                  have HK10 := Lib.hid (HK9.out.later hb)
                  have HSM : Hid (Calls Try.prog 19 #[.slice Av nv cv, .slice A m c] w10 (Bl bb w10)) := by
                    have h1 := HBE.out.lenR hm (by omega)
                    rw [ho.row.1] at h1
                    have := same_any Av A nv m cv c Tr Rs w10 ho.evs (HS.out _ HK10.out.below) (HBE.out.np hm ho) h1
                    rw [hm, HHE.out, HBB.out] at this
                    exact this
                  clear ho hm hb HK9
                  go_wp2_with fail
                  refine HSM.out.mono ?_
                  rintro e w11 ⟨rfl, hb⟩
                  have HB11 := Lib.hid (stepB HK10.out.below hb)
                  clear hb HSM HK10 HBB
                  cases bb with
                  | true =>
                    go_wp2
                    go_ret
                    exact ⟨rfl, HB11.out⟩
                  | false =>
                    go_wp2
                    go_ret
                    exact ⟨rfl, HB11.out⟩
      · have HLC := Lib.hid (legal_any tasks A m c Rs w3 (HS.out _ HB3.out) HP.out (by omega))
        rw [legalL_bad ht] at HLC
        go_wp2_with fail
        refine (new_no tasks w3 ht).mono ?_
        rintro e w4 ⟨rfl, rfl⟩
        go_wp2_with fail
        refine (new_no tasks w3 ht).mono ?_
        rintro e w4 ⟨rfl, rfl⟩
        go_wp2_with fail
        refine HLC.out.mono ?_
        rintro e w4 ⟨rfl, hb⟩
        have HB4 := Lib.hid (stepB HB3.out hb)
        clear hb
        go_wp2
        go_ret
        exact ⟨rfl, HB4.out⟩


set_option maxRecDepth 100000 in
theorem lifted (os : Os) (started : os.Started) (H : Type) (enc : TypeId × Value → H) :
    ReturnsInHanded {} Try.checked os 6 .any (Rows.eventLegalSpec.pre6 enc Try.prog Try.f6 Rows.eventLegalRow.domain false) (Rows.eventLegalSpec.post enc Try.prog Try.f6 false true false false) := by
  refine returnsInHanded_of_change_sized (C := Try.checked) own started (by kernel_rfl) Try.func6
    (ChangeSpec.witness6 (enc := enc) (C := Try.checked) false ⟨#[], #[.int .i64 0, .slice none 0 0, .slice none 0 0], []⟩ 8 (by kernel_rfl) (by kernel_rfl) (by kernel_rfl) (by kernel_rfl)) ?_
  intro W base args ds gs before hval0 hW _ hsz _
  have hval : ∀ (j : Nat) t v, Try.f6.params[j]? = some t → args[j]? = some v → Value.okWide Try.prog W .any base t v := hval0
  have hW' := hW
  obtain ⟨p, q, hA0, hV, hbef, _, _⟩ := hW
  have hA : DataW.TrodAll enc Try.prog W 0 (fun _ => true) true Try.f6.params.toList args.toList ds p := hA0
  rw [Try.params6] at hA hval
  obtain ⟨v0, vs0, d0, ds0, p0, q0, hargs, rfl, rfl, h0, r0⟩ := trodAll_cons hA
  obtain ⟨v1, vs1, d1, ds1, p1, q1, rfl, rfl, rfl, h1, r1⟩ := trodAll_cons r0
  obtain ⟨v2, vs2, d2, ds2, p2, q2, rfl, rfl, rfl, h2, r2⟩ := trodAll_cons r1
  obtain ⟨rfl, rfl, rfl⟩ := trodAll_nil r2
  obtain rfl : args = #[v0, v1, v2] := by cases args; simp_all
  obtain ⟨rfl, rfl⟩ := trodVars_none hV
  obtain ⟨a0, rfl, _, _, w0⟩ := open_int Try.underlying3 (hval 0 3 v0 rfl rfl) h0
  obtain ⟨A1, n1, c1, S1, rfl, st1, mx1, _, _⟩ := open_steps (hval 1 47 v1 rfl rfl) h1
  obtain ⟨A2, n2, c2, S2, rfl, st2, mx2, _, _⟩ := open_events (hval 2 32 v2 rfl rfl) h2
  refine (walk a0 A1 n1 c1 S1 A2 n2 c2 S2 W st1 mx1 st2 mx2).mono fun e W' ⟨he, hb⟩ => ?_
  subst he
  exact ⟨_, rfl, law_post laidOut (of_decide_eq_true (by kernel_rfl)) rfl Try.underlying4 rfl rfl hW' hb⟩

theorem over : Rows.eventLegalRow.holds Try.pinned (OpenSpec.ofChange Rows.eventLegalSpec) :=
  OpenClaim.holds_of_wide 6 Try.f6 rfl rfl rfl rfl rfl rfl rfl ⟨rfl, rfl, rfl, rfl, rfl⟩ rfl rfl rfl rfl rfl (by kernel_rfl) Try.func6 (by kernel_rfl)
    (of_decide_eq_true (by kernel_rfl)) (by unfold Func.isWrapper; first | (rw [if_pos (by decide +kernel)]; kernel_rfl) | (rw [if_neg (by decide +kernel)]; exact ⟨rfl, rfl⟩))
    (fun os started H enc _ => lifted os started H enc)

end Go.Proofs.Ytgbcncfgpdlmiaa.eventLegal
namespace Go.Proofs.Ytgbcncfgpdlmiaa
theorem eventLegal_holds : Rows.EventLegalSaid := eventLegal.over
end Go.Proofs.Ytgbcncfgpdlmiaa
