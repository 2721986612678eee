/- The document's functions: is a history legal? -/
import Derived.Test.YtgbcncfgpdlmiaaU3
namespace Go.Proofs.Ytgbcncfgpdlmiaa
open Go.ChangeShapes Go.WideShapes Go.ChangeAt Go.RowKit Go.Maps
set_option linter.unusedVariables false
set_option linter.unusedSimpArgs false

/-- the event that stands at a place among its task's -/
def OkI (i : Nat) (e : Ev) : Prop := e.1 = 1 + (i % 3 : Nat) ∧ e.2.2.1 = (i / 3 : Nat) ∧ (i % 3 ≠ 2 → e.2.2.2 = an0)
def OkT (L : List Ev) (t : Int) : Prop := ∀ i e, (L.filter (fun e => decide (e.2.1 = t)))[i]? = some e → OkI i e
/-- how many events are of the first tasks -/
def many (L : List Ev) (T : Nat) : Nat := (L.filter (fun e => decide (0 ≤ e.2.1 ∧ e.2.1 < (T : Int)))).length
theorem many_zero (L : List Ev) : many L 0 = 0 := by
  unfold many
  rw [List.length_eq_zero_iff, List.filter_eq_nil_iff]
  intro e _
  rw [decide_eq_true_eq]
  omega
theorem many_succ (T : Nat) : ∀ L : List Ev, many L (T + 1) = many L T + cnt L (T : Int) := by
  intro L
  induction L with
  | nil => rfl
  | cons e L ih =>
    unfold many cnt at ih ⊢
    simp only [List.filter_cons]
    by_cases h1 : 0 ≤ e.2.1 ∧ e.2.1 < T
    · rw [if_pos (decide_eq_true (by omega)), if_pos (decide_eq_true h1), if_neg (by simp; omega)]
      simp only [List.length_cons]
      omega
    · by_cases h2 : e.2.1 = (T : Int)
      · rw [if_pos (decide_eq_true (by omega)), if_neg (by simp; omega), if_pos (decide_eq_true h2)]
        simp only [List.length_cons]
        omega
      · rw [if_neg (by simp; omega), if_neg (by simp; omega), if_neg (by simp; omega)]
        exact ih
theorem many_le (L : List Ev) (T : Nat) : many L T ≤ L.length := List.length_filter_le _ _
def RLegal (T : Nat) (L : List Ev) : Prop := (∀ t : Nat, t < T → OkT L (t : Int)) ∧ many L T = L.length
def RlEnd (T : Nat) (L : List Ev) (w : World) (e : Ending) (w' : World) : Prop := ∃ b : Bool, e = .returned (.bool b) ∧ (b = true → RLegal T L) ∧ (b = false → ¬ RLegal T L) ∧ Below w.heap.size w w'
theorem ofR_fst {t : Int} {Rs : List RE} {k : Nat} (h : Rs.length = k) : (ofR t Rs k).map Prod.fst = (Rs.map Prod.fst).filter (fun e => decide (e.2.1 = t)) := by
  unfold ofR
  rw [List.take_of_length_le (by omega), List.filter_map]; rfl
set_option maxRecDepth 100000 in
set_option maxHeartbeats 16000000 in
theorem rlegal_any (T : Nat) (A : Option Addr) (m c : Nat) (Rs : List RE) (w : World) (h : EvS w A m Rs) (hm : m ≤ 100000) (hp : ∀ r ∈ Rs, r.2.2.1 ≤ 100000) (hw : ∀ r ∈ Rs, 0 ≤ r.1.1 ∧ r.1.1 ≤ 255) (h1 : 1 ≤ T) (h6 : T ≤ 6) : Calls Try.prog 22 #[.int .i64 (T : Int), .slice A m c] w (RlEnd T (Rs.map Prod.fst) w) := by
  have HS : Hid (∀ W, Below w.heap.size w W → EvS W A m Rs) := fun W hb => h.later hb
  have HL : Hid (Rs.length = m) := h.rd.1
  have HP := Lib.hid hp
  have HW := Lib.hid hw
  obtain ⟨L, hLe⟩ : ∃ L, Rs.map Prod.fst = L := ⟨_, rfl⟩
  rw [hLe]
  have HLE := Lib.hid hLe
  have HLL : Hid (L.length = m) := by show _ = _; rw [← hLe, List.length_map, HL.out]
  have d0 : decide ((T : Int) < 1) = false := decide_eq_false (by omega)
  have d6 : decide ((6 : Int) < (T : Int)) = false := decide_eq_false (by omega)
  clear h hp hw hLe
  go_enter Try.func22, Try.ntmps22
  go_wp2
  go_loopw [5, 6] (fun a i W => ∃ k : Nat, k ≤ T ∧ i = .int .i64 k ∧ a = .int .i64 ((many L k : Nat) : Int) ∧ (∀ t : Nat, t < k → OkT L (t : Int)) ∧ Below w.heap.size w W) (fun _ i _ => T - (intOf i).toNat)
  case atStart => exact ⟨0, Nat.zero_le _, rfl, by rw [many_zero]; rfl, (fun t h => absurd h (Nat.not_lt_zero t)), Below.refl _ _⟩
  case round =>
    obtain ⟨k, hk, rfl, rfl, hok, hb⟩ := hrel
    have HOT := Lib.hid hok
    have HBW := Lib.hid hb
    clear hok hb
    by_cases hlt : k < T
    · have d1 : decide ((k : Int) < (T : Int)) = true := decide_eq_true (by omega)
      have wk : IntKind.i64.wrap ((k : Int) + 1) = (k : Int) + 1 := IntWalk.i64_in _ (by omega)
      go_wp2_with fail
      refine (of_any A m c Rs (k : Int) wr (HS.out _ HBW.out) hm).mono ?_
      rintro e w5 ⟨Av, cv, rfl, ho, hb5⟩
      obtain ⟨F, hF⟩ : ∃ F, ofR (k : Int) Rs m = F := ⟨_, rfl⟩
      have HFM : Hid (∀ r ∈ F, r ∈ Rs) := fun r hr => by rw [← hF] at hr; exact ofR_mem hr
      have HFF : Hid (F.map Prod.fst = L.filter (fun e => decide (e.2.1 = (k : Int)))) := by show _ = _; rw [← hF, ofR_fst HL.out, HLE.out]
      have hFl : F.length ≤ m := by rw [← hF]; exact ofR_len _ _ _
      have HCN : Hid (many L (k + 1) = many L k + F.length) := by
        show _ = _
        rw [many_succ, ← hF, ofR_cnt HL.out, HLE.out]
      rw [hF] at ho ⊢
      have HB5 := Lib.hid hb5
      have HV : Hid (∀ W, Below w5.heap.size w5 W → EvS W Av F.length F) := fun W hb => ⟨(ho.later hb).rsl evc_len, fun r hr => (HS.out W (stepB HBW.out (stepB HB5.out hb))).po r (HFM.out r hr)⟩
      have hml : many L (k + 1) ≤ m := by rw [← HLL.out]; exact many_le L (k + 1)
      obtain ⟨n, hn⟩ : ∃ n, F.length = n := ⟨_, rfl⟩
      rw [hn] at HCN HV ⊢
      have HFN : Hid (F.length = n) := hn
      have wm : IntKind.i64.wrap (((many L k : Nat) : Int) + (n : Int)) = ((many L (k + 1) : Nat) : Int) := by
        rw [HCN.out, IntWalk.i64_in _ (by have := HCN.out; omega)]
        exact (Int.natCast_add _ _).symm
      rw [hn] at hFl
      clear hF ho hb5 hn hml
      go_wp2
      go_loopw [8] (fun i W => ∃ j : Nat, j ≤ n ∧ i = .int .i64 j ∧ (∀ i e, i < j → (F.map Prod.fst)[i]? = some e → OkI i e) ∧ Below w5.heap.size w5 W) (fun i _ => n - (intOf i).toNat)
      case atStart => exact ⟨0, Nat.zero_le _, rfl, (fun i e h => absurd h (Nat.not_lt_zero i)), Below.refl _ _⟩
      case round =>
        obtain ⟨j, hj, rfl, hpr, hbr⟩ := hrel
        have HPR := Lib.hid hpr
        have HBR := Lib.hid hbr
        clear hpr hbr
        by_cases hltj : j < n
        · have d2 : decide ((j : Int) < (n : Int)) = true := decide_eq_true (by omega)
          have wj : IntKind.i64.wrap ((j : Int) + 1) = (j : Int) + 1 := IntWalk.i64_in _ (by omega)
          obtain ⟨g, off, hAe, hg, hc⟩ := (HV.out _ HBR.out).rd.2 (by omega)
          subst hAe
          have i5 := idx32 g off n cv j (j : Int) rfl hltj
          have hrk : F[j]? = some (F[j]'(by rw [HFN.out]; exact hltj)) := List.getElem?_eq_getElem _
          have hp1 := (HV.out _ HBR.out).po _ (List.mem_of_getElem? hrk)
          have hn1 := HP.out _ (HFM.out _ (List.mem_of_getElem? hrk))
          have hw1 := HW.out _ (HFM.out _ (List.mem_of_getElem? hrk))
          have HX : Hid ((F.map Prod.fst)[j]? = some (F[j]'(by rw [HFN.out]; exact hltj)).1) := by show _ = _; rw [List.getElem?_map, hrk]; rfl
          generalize F[j]'(by rw [HFN.out]; exact hltj) = r1 at *
          obtain ⟨⟨wh, t2, cl, er, fo, va, ps⟩, A1, n1, c1⟩ := r1
          have x0 := hc j _ hrk 0 (by decide)
          have x2 := hc j _ hrk 2 (by decide)
          have x3 := hc j _ hrk 3 (by decide)
          have x4 := hc j _ hrk 4 (by decide)
          have x5 := hc j _ hrk 5 (by decide)
          have x6 := hc j _ hrk 6 (by decide)
          simp only [evc, hdv, List.getElem?_cons_zero, List.getElem?_cons_succ, Nat.add_zero] at x0 x2 x3 x4 x5 x6
          simp only at HX hp1 hn1 hw1
          have X4 : wr.cell? ⟨g, off + j * 7 + 3 + 1, none⟩ = some (.bool fo) := x4
          have X5 : wr.cell? ⟨g, off + j * 7 + 3 + 2, none⟩ = some (.string va) := x5
          have X6 : wr.cell? ⟨g, off + j * 7 + 3 + 3, none⟩ = some (.slice A1 n1 c1) := x6
          have ww : IntKind.i64.wrap wh = wh := IntWalk.i64_in _ (by omega)
          have HAN := Lib.hid (ans_any er 0 fo false va { data := #[] } A1 none n1 0 c1 0 ps [] wr hp1 (PO.empty _) hn1)
          have HBAD : Hid (¬ OkI j (wh, t2, cl, er, fo, va, ps) → ¬ RLegal T L) := fun hno h => hno (h.1 k hlt j _ (by rw [← HFF.out]; exact HX.out))
          obtain ⟨z, hz⟩ : ∃ z : Int, z = ((j / 3 : Nat) : Int) := ⟨_, rfl⟩
          have qa : ((j : Nat) : Int).tdiv 3 = z := hz.symm
          have qb : (j : Int) / 3 = z := by rw [hz]; rfl
          clear hc hrk hg hp1 hn1 x4 x5 x6
          have h3 : j % 3 = 0 ∨ j % 3 = 1 ∨ j % 3 = 2 := by omega
          rcases h3 with hm | hm | hm
          ·
            have r3 : ((j : Nat) : Int).tmod 3 = 0 := by
              show ((j % 3 : Nat) : Int) = 0
              rw [hm]; rfl
            have e3 : (j : Int) % 3 = 0 := by omega
            by_cases h1 : wh = 1
            · by_cases h2 : cl = z
              · by_cases h3 : ((er, fo, va, ps) : An) = an0
                ·
                  have HOK : Hid (∀ i e, i < j + 1 → (F.map Prod.fst)[i]? = some e → OkI i e) := fun i e hi he => by
                    by_cases hij : i < j
                    · exact HPR.out i e hij he
                    · obtain rfl : i = j := by omega
                      rw [HX.out] at he
                      cases he
                      exact ⟨by rw [hm]; exact h1, by rw [← hz]; exact h2, fun _ => h3⟩
                  rw [show decide (((er, fo, va, ps) : An) = (0, false, { data := #[] }, [])) = true from decide_eq_true h3] at HAN
                  subst h1 h2
                  clear hm hz e3 h3
                  have q1 : (cl != cl) = false := by simp
                  go_wp2_with (first
                    | (refine wpl_build rfl 31 _ rfl _ built31 ?_)
                    | fail)
                  refine HAN.out.mono ?_
                  rintro e w9 ⟨rfl, hb⟩
                  have HB9 := Lib.hid (stepB HBR.out hb)
                  clear hb HAN
                  go_wp2
                  go_roundw
                  case rel => exact ⟨j + 1, by omega, by go_num, HOK.out, HB9.out⟩
                  case measure => simp [intOf]; omega
                ·
                  have HNO2 : Hid (¬ OkI j (wh, t2, cl, er, fo, va, ps)) := fun h => h3 (h.2.2 (by omega))
                  have HNO := Lib.hid (HBAD.out HNO2.out)
                  rw [show decide (((er, fo, va, ps) : An) = (0, false, { data := #[] }, [])) = false from decide_eq_false h3] at HAN
                  subst h1 h2
                  clear hm hz e3 h3 HNO2
                  have q1 : (cl != cl) = false := by simp
                  go_wp2_with (first
                    | (refine wpl_build rfl 31 _ rfl _ built31 ?_)
                    | fail)
                  refine HAN.out.mono ?_
                  rintro e w9 ⟨rfl, hb⟩
                  have HB9 := Lib.hid (stepB HBW.out (stepB (stepB HB5.out HBR.out) hb))
                  clear hb HAN
                  go_wp2
                  go_ret
                  exact ⟨false, rfl, (fun h => by cases h), (fun _ => HNO.out), HB9.out⟩
              · have HNO2 : Hid (¬ OkI j (wh, t2, cl, er, fo, va, ps)) := fun h => h2 (by rw [hz]; exact h.2.1)
                have HNO := Lib.hid (HBAD.out HNO2.out)
                have q2 : (cl != z) = true := by simpa using h2
                subst h1
                clear hm hz e3 h2 HNO2
                go_wp2
                go_ret
                exact ⟨false, rfl, (fun h => by cases h), (fun _ => HNO.out), (stepB HBW.out (stepB HB5.out HBR.out))⟩
            · have HNO2 : Hid (¬ OkI j (wh, t2, cl, er, fo, va, ps)) := fun h => h1 (by have := h.1; rw [hm] at this; exact this)
              have HNO := Lib.hid (HBAD.out HNO2.out)
              have q1 : (wh != 1) = true := by simpa using h1
              clear hm hz e3 h1 HNO2
              go_wp2
              go_ret
              exact ⟨false, rfl, (fun h => by cases h), (fun _ => HNO.out), (stepB HBW.out (stepB HB5.out HBR.out))⟩
          ·
            have r3 : ((j : Nat) : Int).tmod 3 = 1 := by
              show ((j % 3 : Nat) : Int) = 1
              rw [hm]; rfl
            have e3 : (j : Int) % 3 = 1 := by omega
            by_cases h1 : wh = 2
            · by_cases h2 : cl = z
              · by_cases h3 : ((er, fo, va, ps) : An) = an0
                ·
                  have HOK : Hid (∀ i e, i < j + 1 → (F.map Prod.fst)[i]? = some e → OkI i e) := fun i e hi he => by
                    by_cases hij : i < j
                    · exact HPR.out i e hij he
                    · obtain rfl : i = j := by omega
                      rw [HX.out] at he
                      cases he
                      exact ⟨by rw [hm]; exact h1, by rw [← hz]; exact h2, fun _ => h3⟩
                  rw [show decide (((er, fo, va, ps) : An) = (0, false, { data := #[] }, [])) = true from decide_eq_true h3] at HAN
                  subst h1 h2
                  clear hm hz e3 h3
                  have q1 : (cl != cl) = false := by simp
                  go_wp2_with (first
                    | (refine wpl_build rfl 31 _ rfl _ built31 ?_)
                    | fail)
                  refine HAN.out.mono ?_
                  rintro e w9 ⟨rfl, hb⟩
                  have HB9 := Lib.hid (stepB HBR.out hb)
                  clear hb HAN
                  go_wp2
                  go_roundw
                  case rel => exact ⟨j + 1, by omega, by go_num, HOK.out, HB9.out⟩
                  case measure => simp [intOf]; omega
                ·
                  have HNO2 : Hid (¬ OkI j (wh, t2, cl, er, fo, va, ps)) := fun h => h3 (h.2.2 (by omega))
                  have HNO := Lib.hid (HBAD.out HNO2.out)
                  rw [show decide (((er, fo, va, ps) : An) = (0, false, { data := #[] }, [])) = false from decide_eq_false h3] at HAN
                  subst h1 h2
                  clear hm hz e3 h3 HNO2
                  have q1 : (cl != cl) = false := by simp
                  go_wp2_with (first
                    | (refine wpl_build rfl 31 _ rfl _ built31 ?_)
                    | fail)
                  refine HAN.out.mono ?_
                  rintro e w9 ⟨rfl, hb⟩
                  have HB9 := Lib.hid (stepB HBW.out (stepB (stepB HB5.out HBR.out) hb))
                  clear hb HAN
                  go_wp2
                  go_ret
                  exact ⟨false, rfl, (fun h => by cases h), (fun _ => HNO.out), HB9.out⟩
              · have HNO2 : Hid (¬ OkI j (wh, t2, cl, er, fo, va, ps)) := fun h => h2 (by rw [hz]; exact h.2.1)
                have HNO := Lib.hid (HBAD.out HNO2.out)
                have q2 : (cl != z) = true := by simpa using h2
                subst h1
                clear hm hz e3 h2 HNO2
                go_wp2
                go_ret
                exact ⟨false, rfl, (fun h => by cases h), (fun _ => HNO.out), (stepB HBW.out (stepB HB5.out HBR.out))⟩
            · have HNO2 : Hid (¬ OkI j (wh, t2, cl, er, fo, va, ps)) := fun h => h1 (by have := h.1; rw [hm] at this; exact this)
              have HNO := Lib.hid (HBAD.out HNO2.out)
              have q1 : (wh != 2) = true := by simpa using h1
              clear hm hz e3 h1 HNO2
              go_wp2
              go_ret
              exact ⟨false, rfl, (fun h => by cases h), (fun _ => HNO.out), (stepB HBW.out (stepB HB5.out HBR.out))⟩
          ·
            have r3 : ((j : Nat) : Int).tmod 3 = 2 := by
              show ((j % 3 : Nat) : Int) = 2
              rw [hm]; rfl
            have e3 : (j : Int) % 3 = 2 := by omega
            by_cases h1 : wh = 3
            · by_cases h2 : cl = z
              ·
                have HOK : Hid (∀ i e, i < j + 1 → (F.map Prod.fst)[i]? = some e → OkI i e) := fun i e hi he => by
                  by_cases hij : i < j
                  · exact HPR.out i e hij he
                  · obtain rfl : i = j := by omega
                    rw [HX.out] at he
                    cases he
                    exact ⟨by rw [hm]; exact h1, by rw [← hz]; exact h2, fun h => absurd hm h⟩
                have HB9 : Hid (Below w5.heap.size w5 wr) := HBR.out
                subst h1 h2
                clear hm hz e3
                have q1 : (cl != cl) = false := by simp
                go_wp2
                go_roundw
                case rel => exact ⟨j + 1, by omega, by go_num, HOK.out, HB9.out⟩
                case measure => simp [intOf]; omega
              · have HNO2 : Hid (¬ OkI j (wh, t2, cl, er, fo, va, ps)) := fun h => h2 (by rw [hz]; exact h.2.1)
                have HNO := Lib.hid (HBAD.out HNO2.out)
                have q2 : (cl != z) = true := by simpa using h2
                subst h1
                clear hm hz e3 h2 HNO2
                go_wp2
                go_ret
                exact ⟨false, rfl, (fun h => by cases h), (fun _ => HNO.out), (stepB HBW.out (stepB HB5.out HBR.out))⟩
            · have HNO2 : Hid (¬ OkI j (wh, t2, cl, er, fo, va, ps)) := fun h => h1 (by have := h.1; rw [hm] at this; exact this)
              have HNO := Lib.hid (HBAD.out HNO2.out)
              have q1 : (wh != 3) = true := by simpa using h1
              clear hm hz e3 h1 HNO2
              go_wp2
              go_ret
              exact ⟨false, rfl, (fun h => by cases h), (fun _ => HNO.out), (stepB HBW.out (stepB HB5.out HBR.out))⟩
        · obtain rfl : j = n := by omega
          have d2 : decide ((j : Int) < (j : Int)) = false := decide_eq_false (by omega)
          have HOT2 : Hid (∀ t : Nat, t < k + 1 → OkT L (t : Int)) := fun t ht => by
            by_cases h : t < k
            · exact HOT.out t h
            · obtain rfl : t = k := by omega
              intro i e he
              rw [← HFF.out] at he
              exact HPR.out i e (by have := (List.getElem?_eq_some_iff.1 he).1; rw [List.length_map, HFN.out] at this; exact this) he
          have HB9 := Lib.hid (stepB HBW.out (stepB HB5.out HBR.out))
          go_wp2
          go_roundw
          case rel => exact ⟨k + 1, by omega, by go_num, by go_num, HOT2.out, HB9.out⟩
          case measure => simp [intOf]; omega
    · obtain rfl : k = T := by omega
      have d1 : decide ((k : Int) < (k : Int)) = false := decide_eq_false (by omega)
      by_cases hme : many L k = m
      · have q1 : (((many L k : Nat) : Int) == (m : Int)) = true := by rw [hme]; simp
        have HOK : Hid (RLegal k L) := ⟨HOT.out, hme.trans HLL.out.symm⟩
        clear hme
        go_wp2
        go_ret
        exact ⟨true, rfl, (fun _ => HOK.out), (fun h => by cases h), HBW.out⟩
      · have q1 : (((many L k : Nat) : Int) == (m : Int)) = false := by simp; omega
        have HNO : Hid (¬ RLegal k L) := fun h => hme (h.2.trans HLL.out)
        clear hme
        go_wp2
        go_ret
        exact ⟨false, rfl, (fun h => by cases h), (fun _ => HNO.out), HBW.out⟩
end Go.Proofs.Ytgbcncfgpdlmiaa
