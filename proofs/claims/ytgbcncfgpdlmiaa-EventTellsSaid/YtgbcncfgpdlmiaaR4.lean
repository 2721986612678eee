/-
Whether any history is legal, what it is bare, or without any calls, and whether two are the same, are the document's; what was handed in stands. For any number of tasks, any two histories, any calls.
-/
import Derived.Test.YtgbcncfgpdlmiaaUW
import Derived.Test.YtgbcncfgpdlmiaaFR
import Derived.Test.YtgbcncfgpdlmiaaWT
import Derived.Test.YtgbcncfgpdlmiaaPW
import Derived.Test.YtgbcncfgpdlmiaaOB
import Derived.Test.YtgbcncfgpdlmiaaU6
import Derived.Test.YtgbcncfgpdlmiaaU7
import Derived.Test.YtgbcncfgpdlmiaaNN
import Derived.Test.YtgbcncfgpdlmiaaEN
import Derived.Test.YtgbcncfgpdlmiaaRows
namespace Go.Proofs.Ytgbcncfgpdlmiaa.eventTells
open Go.ChangeShapes Go.WideShapes Go.ChangeAt Go.RowKit Go.Maps
set_option linter.unusedVariables false
set_option linter.unusedSimpArgs false

theorem own : ownKnob Try.prog.godebug = none := by kernel_rfl
theorem laidOut : laidOutB Try.prog = true := by kernel_rfl

theorem works_x (w : World) : Calls Try.prog 11 #[] w (Bl true w) := works_any w
/-- two rows that are told, which may be written over; the list of both -/
structure Two (w3 W : World) (q : Nat) (Aa : Option Addr) (na ca : Nat) (Ha : List Hd) (Ab : Option Addr) (nb cb : Nat) (Hb : List Hd) : Prop where
  a : Wtn W w3.heap.size Aa na Ha
  b : Wtn W w3.heap.size Ab nb Hb
  l : Blk W q #[.slice Aa na ca, .slice Ab nb cb] 32
  w : Below w3.heap.size w3 W
section
variable {w3 W W' : World} {q na ca nb cb g o i : Nat} {Aa Ab : Option Addr} {Ha Hb : List Hd} {u : Value} {c : Array Value}
theorem Two.set40 (h : Two w3 W q Aa na ca Ha Ab nb cb Hb) (hg : Blk W g c 40) (hB : w3.heap.size ≤ g) : Two w3 (W.setCell ⟨g, i * 7 + 1, none⟩ u) q Aa na ca Ha Ab nb cb Hb :=
  ⟨h.a.set40 hg, h.b.set40 hg, h.l.other (by rintro rfl; exact absurd (blk_inj h.l hg).2 (by decide)) u, Below.setCell (p := ⟨g, i * 7 + 1, none⟩) h.w hB u⟩
theorem Two.set53 (h : Two w3 W q Aa na ca Ha Ab nb cb Hb) (hg : Blk W g c 53) (hB : w3.heap.size ≤ g) : Two w3 (W.setCell ⟨g, o, none⟩ u) q Aa na ca Ha Ab nb cb Hb :=
  ⟨h.a.set53 hg, h.b.set53 hg, h.l.other (by rintro rfl; exact absurd (blk_inj h.l hg).2 (by decide)) u, Below.setCell (p := ⟨g, o, none⟩) h.w hB u⟩
theorem Two.later (h : Two w3 W q Aa na ca Ha Ab nb cb Hb) (hb : Below W.heap.size W W') : Two w3 W' q Aa na ca Ha Ab nb cb Hb := ⟨h.a.later hb, h.b.later hb, h.l.later hb, stepB h.w hb⟩
/-- one of both -/
structure Pick (w3 : World) (q na ca : Nat) (Aa : Option Addr) (Ha : List Hd) (nb cb : Nat) (Ab : Option Addr) (Hb : List Hd) (r : Nat) (Ax : Option Addr) (nx cx : Nat) (Hx : List Hd) : Prop where
  at_ : ∀ W, Two w3 W q Aa na ca Ha Ab nb cb Hb → W.cell? ⟨q, r, none⟩ = some (.slice Ax nx cx) ∧ Wtn W w3.heap.size Ax nx Hx
  len : nx ≤ 100000
  prs : ∀ h ∈ Hx, h.2.1 ≤ 100000
theorem Pick.of (ha : na ≤ 100000) (hpa : ∀ h ∈ Ha, h.2.1 ≤ 100000) (hb : nb ≤ 100000) (hpb : ∀ h ∈ Hb, h.2.1 ≤ 100000) {r : Nat} (hr : r < 2) : ∃ Ax nx cx Hx, Pick w3 q na ca Aa Ha nb cb Ab Hb r Ax nx cx Hx := by
  have h2 : r = 0 ∨ r = 1 := by omega
  rcases h2 with rfl | rfl
  · exact ⟨Aa, na, ca, Ha, fun W h => ⟨by rw [h.l.cell]; rfl, h.a⟩, ha, hpa⟩
  · exact ⟨Ab, nb, cb, Hb, fun W h => ⟨by rw [h.l.cell]; rfl, h.b⟩, hb, hpb⟩
end
theorem hd_np {W : World} {B n : Nat} {v : Value} {Rs : List RE} {M : List Ev} (h : EvO W B v n Rs) (hm : Rs.map Prod.fst = M) (hp : ∀ e ∈ M, e.2.2.2.2.2.2.length ≤ 100000) : ∀ h ∈ Rs.map Prod.snd, h.2.1 ≤ 100000 := by
  intro x hx
  obtain ⟨r, hr, rfl⟩ := List.mem_map.1 hx
  exact h.np (by rw [hm]; exact hp) r hr
theorem bareL_prs {L : List Ev} {n : Nat} (h : ∀ e ∈ L, e.2.2.2.2.2.2.length ≤ n) : ∀ e ∈ bareL L, e.2.2.2.2.2.2.length ≤ n := fun e he => h e (List.mem_filter.1 he).1
theorem bareL_len (L : List Ev) : (bareL L).length ≤ L.length := List.length_filter_le _ _
theorem len_of {W : World} {B n : Nat} {v : Value} {Rs : List RE} {M : List Ev} (h : EvO W B v n Rs) (hm : Rs.map Prod.fst = M) : n = M.length := by rw [← hm, List.length_map]; exact h.row.1.symm
set_option maxRecDepth 100000 in
set_option maxHeartbeats 16000000 in
theorem walk (tasks : Int) (A : Option Addr) (m c : Nat) (Rs : List RE) (Ao : Option Addr) (mo co : Nat) (Os : List RE) (AG : Option Addr) (mg cg : Nat) (P : List Pl) (w : World) (h1 : EvS w A m Rs) (hk : ∀ r ∈ Rs, ROkE r) (hm1 : m ≤ maxLen) (ho1 : EvS w Ao mo Os) (hmo : mo ≤ maxLen) (h2 : RSl plc 2 w AG mg P) (hm2 : mg ≤ maxLen) : Calls Try.prog 5 #[.int .i64 tasks, .slice A m c, .slice Ao mo co, .slice AG mg cg] w (Bl true w) := by
  have HS : Hid (∀ W, Below w.heap.size w W → EvS W A m Rs) := fun W hb => h1.later hb
  have HSO : Hid (∀ W, Below w.heap.size w W → EvS W Ao mo Os) := fun W hb => ho1.later hb
  have HG : Hid (∀ W, Below w.heap.size w W → RSl plc 2 W AG mg P) := fun W hb => h2.later hb
  have HL : Hid (Rs.length = m) := h1.rd.1
  have HLO : Hid (Os.length = mo) := ho1.rd.1
  have HGL : Hid (P.length = mg) := h2.1
  have HM := Lib.hid hm1
  have HMO := Lib.hid hmo
  have HPQ : Hid (∀ r ∈ Rs, r.1.2.2.2.2.2.2.length = r.2.2.1) := fun r hr => (h1.po r hr).rd.1
  have HK := Lib.hid hk
  clear h1 ho1 h2 hm1 hmo hm2 hk
  go_enter Try.func5, Try.ntmps5
  go_wp2_with fail
  refine (wide_any A m c Rs w (HS.out _ (Below.refl _ _)) HM.out).mono ?_
  rintro e w1 ⟨r, rfl, hb, hr⟩
  have HB1 := Lib.hid hb
  have HR1 := Lib.hid hr
  clear hb hr
  cases r with
  | true =>
    go_wp2_with fail
    refine (works_x _).mono ?_
    rintro e w3 ⟨rfl, hb⟩
    have HB3 := Lib.hid (stepB HB1.out hb)
    clear hb
    go_wp2
    go_ret
    exact ⟨rfl, HB3.out⟩
  | false =>
    have hm : m < 3000 := (HR1.out rfl).1
    have HP : Hid (∀ r ∈ Rs, r.2.2.1 ≤ 100000) := fun r hr => by have := (HR1.out rfl).2 r hr; omega
    clear HR1 HM
    go_wp2_with fail
    refine (wide_any Ao mo co Os w1 (HSO.out _ HB1.out) HMO.out).mono ?_
    rintro e w2 ⟨r, rfl, hb, hr⟩
    have HB2 := Lib.hid (stepB HB1.out hb)
    have HR1 := Lib.hid hr
    clear hb hr HB1
    cases r with
    | true =>
      go_wp2_with fail
      refine (works_x _).mono ?_
      rintro e w3 ⟨rfl, hb⟩
      have HB3 := Lib.hid (stepB HB2.out hb)
      clear hb
      go_wp2
      go_ret
      exact ⟨rfl, HB3.out⟩
    | false =>
      have hmo : mo < 3000 := (HR1.out rfl).1
      have HPO : Hid (∀ r ∈ Os, r.2.2.1 ≤ 100000) := fun r hr => by have := (HR1.out rfl).2 r hr; omega
      clear HR1 HMO
      by_cases hg60 : 100 < mg
      · have d60 : decide ((100 : Int) < (mg : Int)) = true := decide_eq_true (by omega)
        clear hg60
        go_wp2_with fail
        refine (works_x _).mono ?_
        rintro e w3 ⟨rfl, hb⟩
        have HB3 := Lib.hid (stepB HB2.out hb)
        clear hb
        go_wp2
        go_ret
        exact ⟨rfl, HB3.out⟩
      · have d60 : decide ((100 : Int) < (mg : Int)) = false := decide_eq_false (by omega)
        have hmg : mg ≤ 100 := by omega
        clear hg60
        obtain ⟨H, hH⟩ : ∃ H, Rs.map Prod.fst = H := ⟨_, rfl⟩
        have HH := Lib.hid hH
        have HHL : Hid (H.length = m) := by show _ = _; rw [← hH, List.length_map]; exact HL.out
        have HPR : Hid (∀ e ∈ H, e.2.2.2.2.2.2.length ≤ 100000) := by
          intro e he
          rw [← hH] at he
          obtain ⟨r, hr, rfl⟩ := List.mem_map.1 he
          have h1 := HPQ.out r hr
          have h2 := HP.out r hr
          omega
        have HCR : Hid (∀ r ∈ Rs, -9223372036854775808 ≤ r.1.2.2.1 ∧ r.1.2.2.1 ≤ 9223372036854775807) := fun r hr => (HK.out r hr).2
        have HW8 : Hid (∀ r ∈ Rs, 0 ≤ r.1.1 ∧ r.1.1 ≤ 255) := fun r hr => (HK.out r hr).1
        clear hH
        go_wp2_with fail
        refine (fresh_any A m c Rs w2 (HS.out _ HB2.out) (by omega) HP.out).mono ?_
        rintro e w3 ⟨A9, c9, n9, R9, rfl, he9, hm9, hb⟩
        rw [HH.out] at hm9
        have HE9 : Hid (EvS w3 A9 n9 R9) := he9.evs
        have HM9 := Lib.hid hm9
        have HB3 := Lib.hid (stepB HB2.out hb)
        clear hb he9 hm9 HB2
        go_wp2_with fail
        refine (bare_any A m c Rs w3 (HS.out _ HB3.out) (by omega) HP.out).mono ?_
        rintro e w4 ⟨Aa, ca, na, Ra, rfl, hea, hma, hb⟩
        rw [HH.out] at hma
        have HEA := Lib.hid hea
        have HMA := Lib.hid hma
        have HB34 := Lib.hid hb
        have HB4 := Lib.hid (stepB HB3.out hb)
        clear hb hea hma
        go_wp2_with fail
        refine (given_any AG mg cg P w4 (HG.out _ HB4.out) (by omega)).mono ?_
        rintro e w5 ⟨A5, c5, rfl, ho, h0, hb⟩
        have HB5 := Lib.hid (stepB HB4.out hb)
        have HB35 := Lib.hid (stepB HB34.out hb)
        have HEA5 := Lib.hid (HEA.out.later hb)
        have HO5 := Lib.hid ho
        have H05 := Lib.hid h0
        clear hb ho h0 HB4 HEA HB34
        go_wp2_with fail
        refine (withoutG_any A m c A5 mg c5 P Rs w5 (HS.out _ HB5.out) (by omega) HP.out HCR.out HO5.out (by omega) H05.out).mono ?_
        rintro e w6 ⟨E, hr, hmE, Ab, cb, nb, Rb, rfl, heb, hmb, hb⟩
        rw [HH.out, woL_eq hr] at hmb
        have HEB : Hid (EvO w6 w3.heap.size (.slice Ab nb cb) nb Rb) := heb.base HB35.out.size
        have HMB := Lib.hid hmb
        have HEN := Lib.hid (ris_nd hr)
        have HEM := Lib.hid hmE
        have HB6 := Lib.hid (stepB HB5.out hb)
        have HB36 := Lib.hid (stepB HB35.out hb)
        have HEA6 := Lib.hid (HEA5.out.later hb)
        clear hb heb hmb hr hmE HB5 HEA5 HO5 H05 HB35
        have HNA : Hid (na ≤ 100000) := by
          have h1 := len_of HEA6.out HMA.out
          have h2 := bareL_len H
          rw [HHL.out] at h2
          show _ ≤ _
          omega
        have HNB : Hid (nb ≤ 100000) := by
          have h1 := len_of HEB.out HMB.out
          have h2 := wS_len E H
          rw [HHL.out] at h2
          show _ ≤ _
          omega
        have HPA : Hid (∀ h ∈ Ra.map Prod.snd, h.2.1 ≤ 100000) := hd_np HEA6.out HMA.out (bareL_prs HPR.out)
        have HPB : Hid (∀ h ∈ Rb.map Prod.snd, h.2.1 ≤ 100000) := hd_np HEB.out HMB.out (wS_prs HPR.out)
        go_wp2_with fail
        refine (legal_any tasks A m c Rs w6 (HS.out _ HB6.out) HP.out (by omega)).mono ?_
        rintro e w7 ⟨rfl, hb⟩
        rw [HH.out]
        have HB7 := Lib.hid (stepB HB6.out hb)
        have HB37 := Lib.hid (stepB HB36.out hb)
        have HEA7 := Lib.hid (HEA6.out.later hb)
        have HEB7 := Lib.hid (HEB.out.later hb)
        clear hb HB6 HB36 HEA6 HEB
        have HRL := Lib.hid (rlegalA_any tasks A m c Rs w7 (HS.out _ HB7.out) (by omega) HP.out HW8.out)
        rw [HH.out] at HRL
        obtain ⟨lg, hlg⟩ : ∃ b, legalL tasks H = b := ⟨_, rfl⟩
        rw [hlg] at HRL
        rw [hlg]
        clear hlg
        have blg : (lg != lg) = false := by cases lg <;> rfl
        go_wp2_with fail
        refine HRL.out.mono ?_
        rintro e w8 ⟨rfl, hb⟩
        have HB8 := Lib.hid (stepB HB7.out hb)
        have HB38 := Lib.hid (stepB HB37.out hb)
        have HEA8 := Lib.hid (HEA7.out.later hb)
        have HEB8 := Lib.hid (HEB7.out.later hb)
        clear hb HB7 HB37 HEA7 HEB7 HRL
        go_wp2_with fail
        refine (rbare_any A m c Rs w8 (HS.out _ HB8.out) (by omega)).mono ?_
        rintro e w9 ⟨Ac, cc, rfl, hoc, hb⟩
        have HB9 := Lib.hid (stepB HB8.out hb)
        have HB39 := Lib.hid (stepB HB38.out hb)
        have HEA9 := Lib.hid (HEA8.out.later hb)
        have HEB9 := Lib.hid (HEB8.out.later hb)
        have HEC9 : Hid (EvS w9 Ac (baR Rs m).length (baR Rs m)) := ⟨hoc.rsl evc_len, fun r hr => (HS.out _ HB9.out).po r (baR_mem hr)⟩
        have HSM : Hid (decide (Ra.map Prod.fst = (baR Rs m).map Prod.fst) = true) := decide_eq_true (by rw [HMA.out, baR_fst HL.out, HH.out])
        clear hb hoc HB8 HB38 HEA8 HEB8
        go_wp2_with fail
        refine (rsame_any Aa Ac na (baR Rs m).length ca cc Ra (baR Rs m) w9 HEA9.out.evs HEC9.out (evs_np HEA9.out.evs HMA.out (bareL_prs HPR.out)) HNA.out).mono ?_
        rintro e w10 ⟨rfl, hb⟩
        rw [HSM.out]
        have HB10 := Lib.hid (stepB HB9.out hb)
        have HB310 := Lib.hid (stepB HB39.out hb)
        have HEA10 := Lib.hid (HEA9.out.later hb)
        have HEB10 := Lib.hid (HEB9.out.later hb)
        clear hb HB9 HB39 HEA9 HEB9 HEC9 HSM
        go_wp2_with fail
        refine (rwithout_any A m c AG mg cg P Rs w10 (HS.out _ HB10.out) (by omega) HCR.out (HG.out _ HB10.out) (by omega)).mono ?_
        rintro e w11 ⟨Ad, cd, rfl, hod, hb⟩
        have HB11 := Lib.hid (stepB HB10.out hb)
        have HB311 := Lib.hid (stepB HB310.out hb)
        have HEA11 := Lib.hid (HEA10.out.later hb)
        have HEB11 := Lib.hid (HEB10.out.later hb)
        have HED11 : Hid (EvS w11 Ad (rwR P Rs m).length (rwR P Rs m)) := rwR_evs (W0 := w) hod (HS.out _ HB11.out).po
        have HSM : Hid (decide (Rb.map Prod.fst = (rwR P Rs m).map Prod.fst) = true) := decide_eq_true (by
          rw [HMB.out, rwR_fst HL.out, HH.out]
          exact wS_members HEN.out (fo_nd P _) (fun p => by rw [HEM.out p, fo_mem, List.take_of_length_le (Nat.le_refl _)]))
        clear hb hod HB10 HB310 HEA10 HEB10
        go_wp2_with fail
        refine (rsame_any Ab Ad nb (rwR P Rs m).length cb cd Rb (rwR P Rs m) w11 HEB11.out.evs HED11.out (evs_np HEB11.out.evs HMB.out (wS_prs HPR.out)) HNB.out).mono ?_
        rintro e w12 ⟨rfl, hb⟩
        rw [HSM.out]
        have HB12 := Lib.hid (stepB HB11.out hb)
        have HB312 := Lib.hid (stepB HB311.out hb)
        have HEA12 := Lib.hid (HEA11.out.later hb)
        have HEB12 := Lib.hid (HEB11.out.later hb)
        clear hb HB11 HB311 HEA11 HEB11 HED11 HSM
        have HQ1 := Lib.hid (same_any A Ao m mo c co Rs Os w12 (HS.out _ HB12.out) (HSO.out _ HB12.out) HP.out (by omega))
        have HQ2 : Hid (∀ W, Below w12.heap.size w12 W → Calls Try.prog 25 #[.slice A m c, .slice Ao mo co] W (Bl (decide (Rs.map Prod.fst = Os.map Prod.fst)) W)) := fun W hb => rsame_any A Ao m mo c co Rs Os W (HS.out _ (stepB HB12.out hb)) (HSO.out _ (stepB HB12.out hb)) HP.out (by omega)
        obtain ⟨lg, hlg⟩ : ∃ b, decide (Rs.map Prod.fst = Os.map Prod.fst) = b := ⟨_, rfl⟩
        rw [hlg] at HQ1 HQ2
        clear hlg blg
        have blg : (lg != lg) = false := by cases lg <;> rfl
        go_wp2_with fail
        refine HQ1.out.mono ?_
        rintro e w13 ⟨rfl, hb⟩
        have HB13 := Lib.hid (stepB HB12.out hb)
        have HB313 := Lib.hid (stepB HB312.out hb)
        have HEA13 := Lib.hid (HEA12.out.later hb)
        have HEB13 := Lib.hid (HEB12.out.later hb)
        have HQ3 := Lib.hid (HQ2.out _ hb)
        clear hb HB12 HB312 HEA12 HEB12 HQ1 HQ2
        go_wp2_with fail
        refine HQ3.out.mono ?_
        rintro e w14 ⟨rfl, hb⟩
        have HB14 := Lib.hid (stepB HB13.out hb)
        have HB314 := Lib.hid (stepB HB313.out hb)
        have HEA14 := Lib.hid (HEA13.out.later hb)
        have HEB14 := Lib.hid (HEB13.out.later hb)
        clear hb HB13 HB313 HEA13 HEB13 HQ3
        go_upto_region 7 with (fail)
        obtain ⟨q, hq⟩ : ∃ q, w14.heap.size = q := ⟨_, rfl⟩
        have HT0 : Hid (Two w3 (w14.alloc (.cells #[.slice Aa na ca, .slice Ab nb cb] 32)) q Aa na ca (Ra.map Prod.snd) Ab nb cb (Rb.map Prod.snd)) := by
          have hb : Below w14.heap.size w14 (w14.alloc (.cells #[.slice Aa na ca, .slice Ab nb cb] 32)) := (Below.refl _ _).alloc (Nat.le_refl _) _
          exact ⟨HEA14.out.wtn.later hb, HEB14.out.wtn.later hb, Blk.new2 _ _ _ hq, stepB HB314.out hb⟩
        have HPK : Hid (∀ r, r < 2 → ∃ Ax nx cx Hx, Pick w3 q na ca Aa (Ra.map Prod.snd) nb cb Ab (Rb.map Prod.snd) r Ax nx cx Hx) := fun r hr => Pick.of HNA.out HPA.out HNB.out HPB.out hr
        generalize Ra.map Prod.snd = Ha at *
        generalize Rb.map Prod.snd = Hb at *
        clear HB14 HB314 HEA14 HEB14 HMA HMB HNA HNB HPA HPB HEN HEM blg
        go_wp2
        clear hq
        go_loopw [71] (fun i W => ∃ r : Nat, r ≤ 2 ∧ i = .int .i64 r ∧ Two w3 W q Aa na ca Ha Ab nb cb Hb) (fun i _ => 2 - (intOf i).toNat)
        case atStart => exact ⟨0, by decide, rfl, HT0.out⟩
        case round =>
          clear HT0
          obtain ⟨wa, rfl⟩ : ∃ wa : World, wa = wr := ⟨_, rfl⟩
          obtain ⟨r, hr2, rfl, ht⟩ := hrel
          have HT := Lib.hid ht
          clear ht
          by_cases hlr : r < 2
          · have d1 : decide ((r : Int) < 2) = true := decide_eq_true (by omega)
            have wr1 : IntKind.i64.wrap ((r : Int) + 1) = (r : Int) + 1 := IntWalk.i64_in _ (by omega)
            obtain ⟨Ax, nx, cx, Hx, hpk⟩ := HPK.out r hlr
            have HX := Lib.hid hpk
            have c0 := (hpk.at_ _ HT.out).1
            have i5 := idx41 q 2 2 r (r : Int) rfl hlr
            have HNX : Hid (nx ≤ 100000) := hpk.len
            clear hpk
            go_wp2
            clear c0 i5
            go_loopw [14] (fun i W => ∃ k : Nat, k ≤ nx ∧ i = .int .i64 k ∧ Two w3 W q Aa na ca Ha Ab nb cb Hb) (fun i _ => nx - (intOf i).toNat)
            case atStart => exact ⟨0, Nat.zero_le _, rfl, HT.out⟩
            case round =>
              clear HT
              obtain ⟨wb, rfl⟩ : ∃ wb : World, wb = wr := ⟨_, rfl⟩
              obtain ⟨k, hk, rfl, ht⟩ := hrel
              have HT := Lib.hid ht
              clear ht
              have hnx := HNX.out
              by_cases hlt : k < nx
              · have d2 : decide ((k : Int) < (nx : Int)) = true := decide_eq_true (by omega)
                have wk : IntKind.i64.wrap ((k : Int) + 1) = (k : Int) + 1 := IntWalk.i64_in _ (by omega)
                obtain ⟨g, cur, h, hAx, hgB, hgk, hhx, ⟨u, hu⟩, _, _⟩ := (HX.out.at_ _ HT.out).2.at_ hlt
                obtain ⟨A1, n1, c1⟩ := h
                subst hAx
                have HHX := Lib.hid hhx
                have HN1 : Hid (n1 ≤ 100000) := HX.out.prs _ (List.mem_of_getElem? hhx)
                have HGB := Lib.hid hgB
                have i5 := idx32 g 0 nx cx k (k : Int) rfl hlt
                simp only [Nat.zero_add] at i5
                have f0 := hgk.frozen (k * 7 + 1)
                have HT1 : Hid (Two w3 (wb.setCell ⟨g, k * 7 + 1, none⟩ (.int .i64 (-7))) q Aa na ca Ha Ab nb cb Hb) := HT.out.set40 hgk hgB
                clear hgk hhx hgB HT
                go_wp2
                clear hu f0
                go_loopw [15] (fun i W => ∃ j : Nat, j ≤ n1 ∧ i = .int .i64 j ∧ Two w3 W q Aa na ca Ha Ab nb cb Hb) (fun i _ => n1 - (intOf i).toNat)
                case atStart => exact ⟨0, Nat.zero_le _, rfl, HT1.out⟩
                case round =>
                  clear HT1
                  obtain ⟨wc, rfl⟩ : ∃ wc : World, wc = wr := ⟨_, rfl⟩
                  obtain ⟨j, hj, rfl, ht⟩ := hrel
                  have HT := Lib.hid ht
                  clear ht
                  have hn1 := HN1.out
                  obtain ⟨g2, cur2, h2, hAx, _, _, hhx, _, hc6, hwp⟩ := (HX.out.at_ _ HT.out).2.at_ hlt
                  cases hAx
                  rw [HHX.out] at hhx
                  obtain rfl := Option.some.inj hhx
                  simp only [hdv] at hc6
                  by_cases hlj : j < n1
                  · have d3 : decide ((j : Int) < (n1 : Int)) = true := decide_eq_true (by omega)
                    have wj : IntKind.i64.wrap ((j : Int) + 1) = (j : Int) + 1 := IntWalk.i64_in _ (by omega)
                    obtain ⟨g3, off3, cur3, hA3, hB3, hk3, _, ⟨u3, hu3⟩⟩ := hwp.at_ hlj
                    simp only at hA3
                    subst hA3
                    have i6 := idx29 g3 off3 n1 c1 j (j : Int) rfl hlj
                    have f3 := hk3.frozen (off3 + j * 2 + 1)
                    have HT3 : Hid (Two w3 (wc.setCell ⟨g3, off3 + j * 2 + 1, none⟩ (.string { data := #[115, 112, 111, 105, 108, 116] })) q Aa na ca Ha Ab nb cb Hb) := HT.out.set53 hk3 hB3
                    clear hk3 hB3 hwp hhx HT
                    go_wp2
                    go_roundw
                    case rel => exact ⟨j + 1, by omega, by go_num, HT3.out⟩
                    case measure => simp [intOf]; omega
                  · obtain rfl : j = n1 := by omega
                    have d3 : decide ((j : Int) < (j : Int)) = false := decide_eq_false (by omega)
                    clear hwp hhx
                    go_wp2
                    go_roundw
                    case rel => exact ⟨k + 1, by omega, by go_num, HT.out⟩
                    case measure => simp [intOf]; omega
              · obtain rfl : k = nx := by omega
                have d2 : decide ((k : Int) < (k : Int)) = false := decide_eq_false (by omega)
                go_wp2
                go_roundw
                case rel => exact ⟨r + 1, by omega, by go_num, HT.out⟩
                case measure => simp [intOf]; omega
          · obtain rfl : r = 2 := by omega
            have d1 : decide (((2 : Nat) : Int) < 2) = false := decide_eq_false (by omega)
            have HE16 := Lib.hid (HE9.out.later HT.out.w)
            have HB16 := Lib.hid (stepB HB3.out HT.out.w)
            have HSM : Hid (decide (Rs.map Prod.fst = R9.map Prod.fst) = true) := decide_eq_true (by rw [HM9.out, HH.out])
            clear HT HPK
            go_wp2_with fail
            refine (rsame_any A A9 m n9 c c9 Rs R9 wa (HS.out _ HB16.out) HE16.out HP.out (by omega)).mono ?_
            rintro e w17 ⟨rfl, hb⟩
            rw [HSM.out]
            have HB17 := Lib.hid (stepB HB16.out hb)
            clear hb HSM HE16 HB16
            go_wp2_with fail
            refine (given_any AG mg cg P w17 (HG.out _ HB17.out) (by omega)).mono ?_
            rintro e w18 ⟨A5, c5, rfl, ho, h0, hb⟩
            have HB18 := Lib.hid (stepB HB17.out hb)
            have HO5 := Lib.hid ho
            have H05 := Lib.hid h0
            clear hb ho h0 HB17
            go_wp2_with fail
            refine (withoutG_any A m c A5 mg c5 P Rs w18 (HS.out _ HB18.out) (by omega) HP.out HCR.out HO5.out (by omega) H05.out).mono ?_
            rintro e w19 ⟨E, hr, hmE, Ab2, cb2, nb2, Rb2, rfl, heb, hmb, hb⟩
            rw [HH.out, woL_eq hr] at hmb
            have HEB := Lib.hid heb
            have HMB := Lib.hid hmb
            have HEN := Lib.hid (ris_nd hr)
            have HEM := Lib.hid hmE
            have HB19 := Lib.hid (stepB HB18.out hb)
            have HNB : Hid (nb2 ≤ 100000) := by
              have h1 := len_of heb hmb
              have h2 := wS_len E H
              rw [HHL.out] at h2
              show _ ≤ _
              omega
            clear hb heb hmb hr hmE HB18 HO5 H05
            go_wp2_with fail
            refine (rwithout_any A m c AG mg cg P Rs w19 (HS.out _ HB19.out) (by omega) HCR.out (HG.out _ HB19.out) (by omega)).mono ?_
            rintro e w20 ⟨Ad, cd, rfl, hod, hb⟩
            have HB20 := Lib.hid (stepB HB19.out hb)
            have HEB20 := Lib.hid (HEB.out.later hb)
            have HED : Hid (EvS w20 Ad (rwR P Rs m).length (rwR P Rs m)) := rwR_evs (W0 := w) hod (HS.out _ HB20.out).po
            have HSM : Hid (decide (Rb2.map Prod.fst = (rwR P Rs m).map Prod.fst) = true) := decide_eq_true (by
              rw [HMB.out, rwR_fst HL.out, HH.out]
              exact wS_members HEN.out (fo_nd P _) (fun p => by rw [HEM.out p, fo_mem, List.take_of_length_le (Nat.le_refl _)]))
            clear hb hod HB19 HEB
            go_wp2_with fail
            refine (rsame_any Ab2 Ad nb2 (rwR P Rs m).length cb2 cd Rb2 (rwR P Rs m) w20 HEB20.out.evs HED.out (evs_np HEB20.out.evs HMB.out (wS_prs HPR.out)) HNB.out).mono ?_
            rintro e w21 ⟨rfl, hb⟩
            rw [HSM.out]
            have HB21 := Lib.hid (stepB HB20.out hb)
            clear hb HSM HED HEB20 HB20
            go_wp2_with fail
            refine (works_x _).mono ?_
            rintro e w22 ⟨rfl, hb⟩
            have HB22 := Lib.hid (stepB HB21.out hb)
            clear hb
            go_wp2
            go_ret
            exact ⟨rfl, HB22.out⟩


set_option maxRecDepth 100000 in
theorem lifted (os : Os) (started : os.Started) (H : Type) (enc : TypeId × Value → H) :
    ReturnsInHanded {} Try.checked os 5 .any (Rows.eventTellsSpec.pre6 enc Try.prog Try.f5 Rows.eventTellsRow.domain false) (Rows.eventTellsSpec.post enc Try.prog Try.f5 false true false false) := by
  refine returnsInHanded_of_change_sized (C := Try.checked) own started (by kernel_rfl) Try.func5
    (ChangeSpec.witness6 (enc := enc) (C := Try.checked) false ⟨#[], #[.int .i64 0, .slice none 0 0, .slice none 0 0, .slice none 0 0], []⟩ 8 (by kernel_rfl) (by kernel_rfl) (by kernel_rfl) (by kernel_rfl)) ?_
  intro W base args ds gs before hval0 hW _ hsz _
  have hval : ∀ (j : Nat) t v, Try.f5.params[j]? = some t → args[j]? = some v → Value.okWide Try.prog W .any base t v := hval0
  have hW' := hW
  obtain ⟨p, q, hA0, hV, hbef, _, _⟩ := hW
  have hA : DataW.TrodAll enc Try.prog W 0 (fun _ => true) true Try.f5.params.toList args.toList ds p := hA0
  rw [Try.params5] at hA hval
  obtain ⟨v0, vs0, d0, ds0, p0, q0, hargs, rfl, rfl, h0, r0⟩ := trodAll_cons hA
  obtain ⟨v1, vs1, d1, ds1, p1, q1, rfl, rfl, rfl, h1, r1⟩ := trodAll_cons r0
  obtain ⟨v2, vs2, d2, ds2, p2, q2, rfl, rfl, rfl, h2, r2⟩ := trodAll_cons r1
  obtain ⟨v3, vs3, d3, ds3, p3, q3, rfl, rfl, rfl, h3, r3⟩ := trodAll_cons r2
  obtain ⟨rfl, rfl, rfl⟩ := trodAll_nil r3
  obtain rfl : args = #[v0, v1, v2, v3] := by cases args; simp_all
  obtain ⟨rfl, rfl⟩ := trodVars_none hV
  obtain ⟨a0, rfl, _, _, w0⟩ := open_int Try.underlying3 (hval 0 3 v0 rfl rfl) h0
  obtain ⟨A1, n1, c1, S1, rfl, st1, ok1, mx1, _, _⟩ := open_events2 (hval 1 32 v1 rfl rfl) h1
  obtain ⟨A2, n2, c2, S2, rfl, st2, _, mx2, _, _⟩ := open_events2 (hval 2 32 v2 rfl rfl) h2
  obtain ⟨A3, n3, c3, S3, rfl, st3, mx3, _, _⟩ := open_places (hval 3 58 v3 rfl rfl) h3
  refine (walk a0 A1 n1 c1 S1 A2 n2 c2 S2 A3 n3 c3 S3 W st1 ok1 mx1 st2 mx2 st3 mx3).mono fun e W' ⟨he, hb⟩ => ?_
  subst he
  exact ⟨_, rfl, law_post laidOut (of_decide_eq_true (by kernel_rfl)) rfl Try.underlying4 rfl rfl hW' hb⟩

theorem over : Rows.eventTellsRow.holds Try.pinned (OpenSpec.ofChange Rows.eventTellsSpec) :=
  OpenClaim.holds_of_wide 5 Try.f5 rfl rfl rfl rfl rfl rfl rfl ⟨rfl, rfl, rfl, rfl, rfl⟩ rfl rfl rfl rfl rfl (by kernel_rfl) Try.func5 (by kernel_rfl)
    (of_decide_eq_true (by kernel_rfl)) (by unfold Func.isWrapper; first | (rw [if_pos (by decide +kernel)]; kernel_rfl) | (rw [if_neg (by decide +kernel)]; exact ⟨rfl, rfl⟩))
    (fun os started H enc _ => lifted os started H enc)

end Go.Proofs.Ytgbcncfgpdlmiaa.eventTells
namespace Go.Proofs.Ytgbcncfgpdlmiaa
theorem eventTells_holds : Rows.EventTellsSaid := eventTells.over
end Go.Proofs.Ytgbcncfgpdlmiaa
