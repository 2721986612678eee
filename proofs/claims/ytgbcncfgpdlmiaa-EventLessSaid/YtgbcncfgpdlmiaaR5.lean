/-
Without any calls a legal history is legal; what is left out at once, or one behind the other, by the numbers that are then theirs, is the same; bare it is shorter by as many as there are Marks. For any history, any calls.
-/
import Derived.Test.YtgbcncfgpdlmiaaMI
import Derived.Test.YtgbcncfgpdlmiaaPW
import Derived.Test.YtgbcncfgpdlmiaaOB
import Derived.Test.YtgbcncfgpdlmiaaI
import Derived.Test.YtgbcncfgpdlmiaaNN
import Derived.Test.YtgbcncfgpdlmiaaRows
namespace Go.Proofs.Ytgbcncfgpdlmiaa.eventLess
open Go.ChangeShapes Go.WideShapes Go.ChangeAt Go.RowKit Go.Maps
set_option linter.unusedVariables false
set_option linter.unusedSimpArgs false

theorem own : ownKnob Try.prog.godebug = none := by kernel_rfl
theorem laidOut : laidOutB Try.prog = true := by kernel_rfl

theorem works_x (w : World) : Calls Try.prog 11 #[] w (Bl true w) := works_any w
theorem lg_of {tasks : Int} {L : List Ev} (h : legalL tasks L = true) : (1 ≤ tasks ∧ tasks ≤ 6) ∧ legalR tasks [] L = true := by
  unfold legalL at h
  rw [Bool.and_eq_true, decide_eq_true_eq] at h
  exact h
theorem lg_to {tasks : Int} {L : List Ev} (h : 1 ≤ tasks ∧ tasks ≤ 6) (h2 : legalR tasks [] L = true) : legalL tasks L = true := by
  unfold legalL
  rw [h2, decide_eq_true h]; rfl
theorem wS_nil (L : List Ev) : wS [] L = L := by
  unfold wS
  rw [List.filter_eq_self.2 (fun e _ => by simp)]
  have : wM [] = (id : Ev → Ev) := by
    funext e
    unfold wM wx
    rw [List.countP_nil]
    simp
  rw [this, List.map_id]
def mk2 (H : List Ev) (k : Nat) : Nat := (H.take k).countP (fun e => decide (e.1 = 2))
theorem mk2_succ {H : List Ev} {k : Nat} {e : Ev} (h : H[k]? = some e) : mk2 H (k + 1) = mk2 H k + if e.1 = 2 then 1 else 0 := by
  unfold mk2
  rw [List.take_add_one, h, List.countP_append]
  by_cases h2 : e.1 = 2 <;> simp [h2]
theorem mk2_le (H : List Ev) (k : Nat) : mk2 H k ≤ k := Nat.le_trans List.countP_le_length (by rw [List.length_take]; omega)
/-- what Without tells -/
structure WoT (w W : World) (A : Option Addr) (n c : Nat) (Rs : List RE) (E : List Pl) (H : List Ev) : Prop where
  nd : E.Nodup
  ev : EvO W w.heap.size (.slice A n c) n Rs
  eq : Rs.map Prod.fst = wS E H
  len : n ≤ H.length
theorem wot {w w1 W : World} {A : Option Addr} {n c : Nat} {Rs : List RE} {E : List Pl} {H : List Ev} (hr : Ris E) (h : EvO W w1.heap.size (.slice A n c) n Rs) (hm : Rs.map Prod.fst = woL E H) (hw : w.heap.size ≤ w1.heap.size) : WoT w W A n c Rs E H :=
  ⟨ris_nd hr, h.base hw, by rw [hm, woL_eq hr], by
    have h1 := h.row.1
    have h2 := congrArg List.length hm
    rw [List.length_map, woL_eq hr] at h2
    have h3 := wS_len E H
    omega⟩
set_option maxRecDepth 100000 in
set_option maxHeartbeats 16000000 in
theorem walk (tasks : Int) (A : Option Addr) (m c : Nat) (Rs : List RE) (AG : Option Addr) (mg cg : Nat) (P : List Pl) (w : World) (h1 : EvS w A m Rs) (hm1 : m ≤ maxLen) (h2 : RSl plc 2 w AG mg P) (hm2 : mg ≤ maxLen) : Calls Try.prog 8 #[.int .i64 tasks, .slice A m c, .slice AG mg cg] w (Bl true w) := by
  have HS : Hid (∀ W, Below w.heap.size w W → EvS W A m Rs) := fun W hb => h1.later hb
  have HG : Hid (∀ W, Below w.heap.size w W → RSl plc 2 W AG mg P) := fun W hb => h2.later hb
  have HL : Hid (Rs.length = m) := h1.rd.1
  have HGL : Hid (P.length = mg) := h2.1
  have HM := Lib.hid hm1
  have HPQ : Hid (∀ r ∈ Rs, r.1.2.2.2.2.2.2.length = r.2.2.1) := fun r hr => (h1.po r hr).rd.1
  clear h1 h2 hm1 hm2
  go_enter Try.func8, Try.ntmps8
  go_wp2_with fail
  refine (works_x w).mono ?_
  rintro e w1 ⟨rfl, hb⟩
  have HB1 := Lib.hid hb
  clear hb
  go_wp2_with fail
  refine (wide_any A m c Rs w1 (HS.out _ HB1.out) HM.out).mono ?_
  rintro e w2 ⟨r, rfl, hb, hr⟩
  have HB2 := Lib.hid (stepB HB1.out hb)
  have HR1 := Lib.hid hr
  clear hb hr
  cases r with
  | true =>
    go_wp2_with fail
    refine (works_x _).mono ?_
    rintro e w3 ⟨rfl, hb⟩
    have HB3 := Lib.hid (stepB HB2.out hb)
    clear hb
    go_wp2
    go_ret
    exact ⟨rfl, HB3.out⟩
  | false =>
    have hm : m < 3000 := (HR1.out rfl).1
    have HP : Hid (∀ r ∈ Rs, r.2.2.1 ≤ 100000) := fun r hr => by have := (HR1.out rfl).2 r hr; omega
    clear HR1 HM HB1
    by_cases hg60 : 60 < mg
    · have d60 : decide ((60 : Int) < (mg : Int)) = true := decide_eq_true (by omega)
      clear hg60
      go_wp2_with fail
      refine (works_x _).mono ?_
      rintro e w3 ⟨rfl, hb⟩
      have HB3 := Lib.hid (stepB HB2.out hb)
      clear hb
      go_wp2
      go_ret
      exact ⟨rfl, HB3.out⟩
    · have d60 : decide ((60 : Int) < (mg : Int)) = false := decide_eq_false (by omega)
      have hmg : mg ≤ 60 := by omega
      clear hg60
      go_wp2_with fail
      refine (legal_any tasks A m c Rs w2 (HS.out _ HB2.out) HP.out (by omega)).mono ?_
      rintro e w3 ⟨rfl, hb⟩
      have HB3 := Lib.hid (stepB HB2.out hb)
      clear hb HB2
      obtain ⟨H, hH⟩ : ∃ H, Rs.map Prod.fst = H := ⟨_, rfl⟩
      rw [hH]
      have HH := Lib.hid hH
      obtain ⟨b, hbe⟩ : ∃ b, legalL tasks H = b := ⟨_, rfl⟩
      rw [hbe]
      cases b with
      | false =>
        clear hbe hH
        go_wp2_with fail
        refine (works_x _).mono ?_
        rintro e w4 ⟨rfl, hb⟩
        have HB4 := Lib.hid (stepB HB3.out hb)
        clear hb
        go_wp2
        go_ret
        exact ⟨rfl, HB4.out⟩
      | true =>
        have HT := Lib.hid (lg_of hbe).1
        have HLG := Lib.hid (lg_of hbe).2
        have HHL : Hid (H.length = m) := by show _ = _; rw [← hH, List.length_map]; exact HL.out
        have HCL : Hid (∀ e ∈ H, 0 ≤ e.2.2.1 ∧ e.2.2.1 ≤ (m : Int)) := by
          have := legal_call H HLG.out
          rw [HHL.out] at this
          exact this
        have HPR : Hid (∀ e ∈ H, e.2.2.2.2.2.2.length ≤ 100000) := by
          intro e he
          rw [← hH] at he
          obtain ⟨r, hr, rfl⟩ := List.mem_map.1 he
          have h1 := HPQ.out r hr
          have h2 := HP.out r hr
          omega
        have HCR : Hid (∀ r ∈ Rs, -9223372036854775808 ≤ r.1.2.2.1 ∧ r.1.2.2.1 ≤ 9223372036854775807) := evs_cr (n := (m : Int)) HH.out (by omega) HCL.out
        clear hbe hH
        go_wp2_with fail
        refine (given_any AG mg cg P w3 (HG.out _ HB3.out) (by omega)).mono ?_
        rintro e w4 ⟨A4, c4, rfl, ho, h0, hb⟩
        have HB4 := Lib.hid (stepB HB3.out hb)
        have HQ4 : Hid (QA w4 w.heap.size A4 mg P) := QA.of_own (ho.base HB3.out.size)
        have HO4 := Lib.hid ho
        have H04 := Lib.hid h0
        clear hb ho h0
        go_wp2_with fail
        refine (withoutG_any A m c A4 mg c4 P Rs w4 (HS.out _ HB4.out) (by omega) HP.out HCR.out HO4.out (by omega) H04.out).mono ?_
        rintro e w5 ⟨E, hr, hmE, A5, c5, n5, Rs5, rfl, he, hme, hb⟩
        rw [HH.out] at hme
        have HW := Lib.hid (wot (w := w) hr he hme HB4.out.size)
        have HB5 := Lib.hid (stepB HB4.out hb)
        have HQ5 := Lib.hid (HQ4.out.later hb)
        have HN5 : Hid (n5 ≤ 100000) := by have := HW.out.len; rw [HHL.out] at this; show _ ≤ _; omega
        have HLB : Hid (legalL tasks (Rs5.map Prod.fst) = true) := by
          show _ = _
          rw [HW.out.eq]
          exact lg_to HT.out (legal_wS HW.out.nd HLG.out)
        clear hr hmE he hme hb HQ4 HO4 H04
        go_wp2_with fail
        refine (legal_any tasks A5 n5 c5 Rs5 w5 HW.out.ev.evs (evs_np HW.out.ev.evs HW.out.eq (wS_prs HPR.out)) HN5.out).mono ?_
        rintro e w6 ⟨rfl, hb⟩
        rw [HLB.out]
        have HB6 := Lib.hid (stepB HB5.out hb)
        have HQ6 := Lib.hid (HQ5.out.later hb)
        clear hb HLB HN5 HW HB5 HQ5 HB4
        have HIV0 : Hid (IV P mg (m : Int) (m : Int) 0 P []) := by
          have := IV.start P (m : Int)
          rw [HGL.out] at this
          exact this
        have HON0 : Hid (OneE w w6 (.slice A m c) (wS [] H)) := by
          show OneE _ _ _ _
          rw [wS_nil]
          exact ⟨A, m, c, Rs, rfl, HS.out _ HB6.out, HH.out, Or.inl HS.out⟩
        go_wp2
        go_loopw [8, 9] (fun v8 i9 W => ∃ (x : Int) (v : Value) (Q S : List Pl), -1 ≤ x ∧ x ≤ m ∧ i9 = .int .i64 x ∧ v = v8 ∧ IV P mg (m : Int) x 0 Q S ∧ OneE w W v (wS S H) ∧ QA W w.heap.size A4 mg Q ∧ Below w.heap.size w W) (fun _ i _ => (intOf i + 1).toNat)
        case atStart => exact ⟨m, _, P, [], by omega, Int.le_refl _, rfl, rfl, HIV0.out, HON0.out, HQ6.out, HB6.out⟩
        case round =>
          obtain ⟨wy, rfl⟩ : ∃ wy : World, wy = wr := ⟨_, rfl⟩
          obtain ⟨x, v, Q, S, hx1, hx2, rfl, rfl, hiv, hone, hqa, hb⟩ := hrel
          have HIV := Lib.hid hiv
          have HON := Lib.hid hone
          have HQ := Lib.hid hqa
          have HB := Lib.hid hb
          clear hiv hone hqa hb HIV0 HON0 HQ6 HB6
          by_cases hx0 : 0 ≤ x
          · have d1 : decide (0 ≤ x) = true := decide_eq_true hx0
            have wx1 : IntKind.i64.wrap (x - 1) = x - 1 := IntWalk.i64_in _ (by omega)
            go_wp2
            go_loopw [8, 10] (fun v8 i10 W => ∃ (i : Nat) (v : Value) (Q S : List Pl), i ≤ mg ∧ i10 = .int .i64 i ∧ v = v8 ∧ IV P mg (m : Int) x i Q S ∧ OneE w W v (wS S H) ∧ QA W w.heap.size A4 mg Q ∧ Below w.heap.size w W) (fun _ i _ => mg - (intOf i).toNat)
            case atStart => exact ⟨0, _, Q, S, Nat.zero_le _, rfl, rfl, HIV.out, HON.out, HQ.out, HB.out⟩
            case round =>
              clear HIV HON HQ HB
              obtain ⟨wz, rfl⟩ : ∃ wz : World, wz = wr := ⟨_, rfl⟩
              obtain ⟨i, v, Q, S, hi, rfl, rfl, hiv, hone, hqa, hb⟩ := hrel
              have HIV := Lib.hid hiv
              have HQ := Lib.hid hqa
              have HB := Lib.hid hb
              obtain ⟨A8, n8, c8, Rs8, rfl, he8, hme8, hor⟩ := hone
              have HE8 := Lib.hid he8
              have HME8 := Lib.hid hme8
              have HON : Hid (OneE w wz (.slice A8 n8 c8) (wS S H)) := ⟨A8, n8, c8, Rs8, rfl, he8, hme8, hor⟩
              clear hiv hqa hb he8 hme8 hor
              by_cases hlt : i < mg
              · have d2 : decide ((i : Int) < (mg : Int)) = true := decide_eq_true (by omega)
                have wi : IntKind.i64.wrap ((i : Int) + 1) = (i : Int) + 1 := IntWalk.i64_in _ (by omega)
                obtain ⟨g, hA4, hB4, ⟨cur, hk⟩, hph⟩ := HQ.out.2 (by omega)
                subst hA4
                have HGB := Lib.hid hB4
                have hqi : Q[i]? = some (Q[i]'(by rw [HIV.out.ql]; exact hlt)) := List.getElem?_eq_getElem _
                generalize Q[i]'(by rw [HIV.out.ql]; exact hlt) = z at *
                obtain ⟨t, cl⟩ := z
                have HQI := Lib.hid hqi
                have i5 := idx46 g 0 mg c4 i (i : Int) rfl hlt
                obtain ⟨⟨x0, x1⟩, _⟩ := hph.at' i _ hqi
                simp only [Nat.zero_add] at i5 x0 x1
                clear hB4 hk hph hqi
                by_cases hcx : cl = x
                · have d3 : (cl == x) = true := by rw [hcx]; simp
                  have HCX := Lib.hid hcx
                  clear hcx
                  have hby : Below wz.heap.size wz (wz.alloc (.cells #[.int .i64 t, .int .i64 cl] 45)) := (Below.refl _ _).alloc (Nat.le_refl _) _
                  have HBY := Lib.hid hby
                  have HZ : Hid (RSl plc 2 (wz.alloc (.cells #[.int .i64 t, .int .i64 cl] 45)) (some ⟨wz.heap.size, 0, none⟩) [((t, cl) : Pl)].length [((t, cl) : Pl)]) := Blk.rsl (x := ((t, cl) : Pl)) (Blk.new wz _ 45)
                  have HN8 : Hid (n8 ≤ 100000) := by
                    have h1 := HE8.out.rd.1
                    have h2 := congrArg List.length HME8.out
                    rw [List.length_map] at h2
                    have h3 := wS_len S H
                    rw [HHL.out] at h3
                    show _ ≤ _
                    omega
                  have HCR8 : Hid (∀ r ∈ Rs8, -9223372036854775808 ≤ r.1.2.2.1 ∧ r.1.2.2.1 ≤ 9223372036854775807) := by
                    have h1 := legal_call _ (legal_wS HIV.out.nd HLG.out)
                    refine evs_cr (n := ((wS S H).length : Int)) HME8.out ?_ h1
                    have h3 := wS_len S H
                    rw [HHL.out] at h3
                    omega
                  clear hby
                  go_wp2_with fail
                  refine (without_any A8 n8 c8 ⟨wz.heap.size, 0, none⟩ 1 [((t, cl) : Pl)] Rs8 _ (HE8.out.later HBY.out) HN8.out (evs_np HE8.out HME8.out (wS_prs HPR.out)) HCR8.out HZ.out (by simp) (by simp)).mono ?_
                  rintro e w9 ⟨E, hr, hmE, A9, c9, n9, Rs9, rfl, he, hme, hb⟩
                  rw [HME8.out, wo_one hr hmE] at hme
                  have hb9 : Below wz.heap.size wz w9 := stepB HBY.out hb
                  have HON9 : Hid (OneE w w9 (.slice A9 n9 c9) (wS ((t, cl) :: S) H)) := by
                    rw [← HIV.out.wS (L := H) HQI.out HCX.out hx0, ← hme]
                    exact OneE.of_own he (Nat.le_trans HB.out.size HBY.out.size)
                  have HQ9 := Lib.hid (HQ.out.later hb9)
                  have HB9 := Lib.hid (stepB HB.out hb9)
                  clear hr hmE he hme hb hb9 HE8 HME8 HON HQ HB HBY HZ HN8 HCR8 x0 x1 i5
                  go_wp2
                  go_loopw [11] (fun i11 W => ∃ (k : Nat) (X : List Pl), i + 1 ≤ k ∧ k ≤ mg ∧ i11 = .int .i64 k ∧ MkI Q (t, cl) i k X ∧ OneE w W (.slice A9 n9 c9) (wS ((t, cl) :: S) H) ∧ QA W w.heap.size (some ⟨g, 0, none⟩) mg X ∧ Below w.heap.size w W) (fun i _ => mg - (intOf i).toNat)
                  case atStart => exact ⟨i + 1, Q, Nat.le_refl _, by omega, by go_num, MkI.start _ _ _, HON9.out, HQ9.out, HB9.out⟩
                  case round =>
                    clear HON9 HQ9 HB9
                    obtain ⟨wv, rfl⟩ : ∃ wv : World, wv = wr := ⟨_, rfl⟩
                    obtain ⟨k, X, hik, hkm, rfl, hmk, hone, hqa, hb⟩ := hrel
                    have HMK := Lib.hid hmk
                    have HON := Lib.hid hone
                    have HQ := Lib.hid hqa
                    have HB := Lib.hid hb
                    clear hmk hone hqa hb
                    by_cases hlk : k < mg
                    · have d4 : decide ((k : Int) < (mg : Int)) = true := decide_eq_true (by omega)
                      have wk : IntKind.i64.wrap ((k : Int) + 1) = (k : Int) + 1 := IntWalk.i64_in _ (by omega)
                      have hxl : X.length = mg := HQ.out.1
                      have hqk : X[k]? = some (X[k]'(by omega)) := List.getElem?_eq_getElem _
                      have hqi : X[i]? = some (t, cl) := by rw [HMK.out.same (Or.inl (Nat.le_refl _))]; exact HQI.out
                      have HQK : Hid (Q[k]? = X[k]?) := (HMK.out.same (Or.inr (Nat.le_refl _))).symm
                      generalize X[k]'(by omega) = z at *
                      obtain ⟨a2, b2⟩ := z
                      have HXK := Lib.hid hqk
                      have i5 := idx46 g 0 mg c4 k (k : Int) rfl hlk
                      have i6 := idx46 g 0 mg c4 i (i : Int) rfl hlt
                      obtain ⟨g2, hA4, _, _, hph⟩ := HQ.out.2 (by omega)
                      cases hA4
                      obtain ⟨⟨x0, x1⟩, _⟩ := hph.at' i _ hqi
                      obtain ⟨⟨y0, y1⟩, _⟩ := hph.at' k _ hqk
                      simp only [Nat.zero_add] at i5 i6 x0 x1 y0 y1
                      have he := eq45 (a2, b2) (t, cl)
                      simp only at he
                      clear hph hqi hqk hxl
                      by_cases e : ((a2, b2) : Pl) = (t, cl)
                      · rw [decide_eq_true e] at he
                        have HE := Lib.hid e
                        clear e
                        go_wp2
                        go_quiet (fail)
                        have hbq := below_drewN (Below.refl wv.heap.size wv) nq
                        have HON2 := Lib.hid (HON.out.later hbq)
                        have HQ2 := Lib.hid (HQ.out.later hbq)
                        have HB2 := Lib.hid (stepB HB.out hbq)
                        clear hbq HON HQ HB x0 x1 y0 y1 he
                        obtain ⟨g3, hA4, hgb, ⟨cur, hcu⟩, hph⟩ := HQ2.out.2 (by omega)
                        cases hA4
                        obtain ⟨⟨y0, y1⟩, ⟨f0, f1⟩⟩ := hph.at' k _ HXK.out
                        simp only [Nat.zero_add] at y0 y1 f0 f1
                        generalize wv.drewN nq = wu at *
                        have HON3 : Hid (OneE w (wu.setCell ⟨g, k * 2 + 1, none⟩ (.int .i64 (-1))) (.slice A9 n9 c9) (wS ((t, cl) :: S) H)) := HON2.out.set HB2.out hgb hcu
                        have HQ3 : Hid (QA (wu.setCell ⟨g, k * 2 + 1, none⟩ (.int .i64 (-1))) w.heap.size (some ⟨g, 0, none⟩) mg (X.set k (a2, -1))) := HQ2.out.set HXK.out (-1)
                        have HB3 : Hid (Below w.heap.size w (wu.setCell ⟨g, k * 2 + 1, none⟩ (.int .i64 (-1)))) := Below.setCell (p := ⟨g, k * 2 + 1, none⟩) HB2.out hgb _
                        have HMK3 : Hid (MkI Q (t, cl) i (k + 1) (X.set k (a2, -1))) := by
                          have h1 := HMK.out.yes (k := k) (by rw [HQK.out, HXK.out, HE.out]) (by omega)
                          have h2 : a2 = t := by have := HE.out; injection this
                          rw [h2]
                          exact h1
                        clear hgb hcu hph y0 f0 HMK HQK HE HON2 HQ2 HB2
                        go_wp2
                        go_roundw
                        case rel => exact ⟨k + 1, _, by omega, by omega, by go_num, HMK3.out, HON3.out, HQ3.out, HB3.out⟩
                        case measure => simp [intOf]; omega
                      · rw [decide_eq_false e] at he
                        have HMK3 : Hid (MkI Q (t, cl) i (k + 1) X) := HMK.out.no (by
                          rw [HQK.out, HXK.out]
                          intro h
                          exact e (Option.some.inj h))
                        clear e
                        go_wp2
                        go_quiet (fail)
                        have hbq := below_drewN (Below.refl wv.heap.size wv) nq
                        have HON2 := Lib.hid (HON.out.later hbq)
                        have HQ2 := Lib.hid (HQ.out.later hbq)
                        have HB2 := Lib.hid (stepB HB.out hbq)
                        clear hbq HON HQ HB x0 x1 y0 y1 he
                        go_wp2
                        go_roundw
                        case rel => exact ⟨k + 1, _, by omega, by omega, by go_num, HMK3.out, HON2.out, HQ2.out, HB2.out⟩
                        case measure => simp [intOf]; omega
                    · obtain rfl : k = mg := by omega
                      have d4 : decide ((k : Int) < (k : Int)) = false := decide_eq_false (by omega)
                      have HIV9 := Lib.hid (HIV.out.hit HQI.out HCX.out hx0 HMK.out)
                      clear HMK HIV
                      go_wp2
                      go_roundw
                      case rel => exact ⟨i + 1, _, X, (t, cl) :: S, by omega, by go_num, rfl, HIV9.out, HON.out, HQ.out, HB.out⟩
                      case measure => simp [intOf]; omega
                · have d3 : (cl == x) = false := by rw [beq_eq_false_iff_ne]; exact hcx
                  have HIV9 := Lib.hid (HIV.out.skip HQI.out hcx)
                  clear hcx HE8 HME8
                  go_wp2
                  go_roundw
                  case rel => exact ⟨i + 1, _, Q, S, by omega, by go_num, rfl, HIV9.out, HON.out, HQ.out, HB.out⟩
                  case measure => simp [intOf]; omega
              · obtain rfl : i = mg := by omega
                have d2 : decide ((i : Int) < (i : Int)) = false := decide_eq_false (by omega)
                have HIV9 := Lib.hid HIV.out.next
                clear HIV HE8 HME8
                go_wp2
                go_roundw
                case rel => exact ⟨x - 1, _, Q, S, by omega, by omega, rfl, rfl, HIV9.out, HON.out, HQ.out, HB.out⟩
                case measure => simp [intOf]; omega
          · have d1 : decide (0 ≤ x) = false := decide_eq_false hx0
            obtain ⟨A8, n8, c8, Rs8, rfl, he8, hme8, _⟩ := HON.out
            have HE8 := Lib.hid he8
            have HME8 := Lib.hid hme8
            have HIV9 : Hid (IV P mg (m : Int) (-1) 0 Q S) := by
              have hxe : x = -1 := by omega
              have := HIV.out
              rw [hxe] at this
              exact this
            clear he8 hme8 HON HIV HQ
            go_wp2
            go_loopw [12, 13] (fun v12 i13 W => ∃ k : Nat, k ≤ m ∧ i13 = .int .i64 k ∧ v12 = .int .i64 (mk2 H k : Nat) ∧ Below wy.heap.size wy W) (fun _ i _ => m - (intOf i).toNat)
            case atStart => exact ⟨0, Nat.zero_le _, rfl, rfl, Below.refl _ _⟩
            case round =>
              obtain ⟨wz, rfl⟩ : ∃ wz : World, wz = wr := ⟨_, rfl⟩
              obtain ⟨k, hk, rfl, rfl, hb⟩ := hrel
              have HBZ := Lib.hid hb
              clear hb
              have hmk := mk2_le H k
              by_cases hlt : k < m
              · have d2 : decide ((k : Int) < (m : Int)) = true := decide_eq_true (by omega)
                have wk : IntKind.i64.wrap ((k : Int) + 1) = (k : Int) + 1 := IntWalk.i64_in _ (by omega)
                obtain ⟨g, off, hAe, hg, hc⟩ := (HS.out _ (stepB HB.out HBZ.out)).rd.2 (by omega)
                subst hAe
                have i5 := idx32 g off m c k (k : Int) rfl hlt
                have hrk : Rs[k]? = some (Rs[k]'(by rw [HL.out]; exact hlt)) := List.getElem?_eq_getElem _
                have HRK : Hid (H[k]? = some (Rs[k]'(by rw [HL.out]; exact hlt)).1) := by show _ = _; rw [← HH.out, List.getElem?_map, hrk]; rfl
                generalize Rs[k]'(by rw [HL.out]; exact hlt) = r at *
                obtain ⟨⟨wh, t2, cl, er, fo, va, ps⟩, A1, n1, c1⟩ := r
                have x0 := hc k _ hrk 0 (by decide)
                simp only [evc, hdv, List.getElem?_cons_zero, List.getElem?_cons_succ, Nat.add_zero] at x0
                have HMS := Lib.hid (mk2_succ HRK.out)
                clear hc hrk hg
                by_cases hw : wh = 2
                · have d3 : (wh == 2) = true := by rw [hw]; rfl
                  have wm : IntKind.i64.wrap (((mk2 H k : Nat) : Int) + 1) = ((mk2 H k : Nat) : Int) + 1 := IntWalk.i64_in _ (by omega)
                  have HM2 : Hid (((mk2 H (k + 1) : Nat) : Int) = ((mk2 H k : Nat) : Int) + 1) := by
                    have := HMS.out
                    rw [if_pos hw] at this
                    show _ = _
                    omega
                  clear hw HMS
                  go_wp2
                  go_roundw
                  case rel => exact ⟨k + 1, by omega, by go_num, by rw [HM2.out], HBZ.out⟩
                  case measure => simp [intOf]; omega
                · have d3 : (wh == 2) = false := by rw [beq_eq_false_iff_ne]; exact hw
                  have HM2 : Hid (mk2 H (k + 1) = mk2 H k) := by
                    have := HMS.out
                    rw [if_neg hw] at this
                    show _ = _
                    omega
                  clear hw HMS
                  go_wp2
                  go_roundw
                  case rel => exact ⟨k + 1, by omega, by go_num, by rw [HM2.out], HBZ.out⟩
                  case measure => simp [intOf]; omega
              · obtain rfl : k = m := by omega
                have d2 : decide ((k : Int) < (k : Int)) = false := decide_eq_false (by omega)
                have HBL : Hid ((bareL H).length + mk2 H k = k) := by
                  have h1 := bare_len H
                  have h2 : mk2 H k = H.countP (fun e => decide (e.1 = 2)) := by
                    unfold mk2
                    rw [List.take_of_length_le (by rw [HHL.out]; exact Nat.le_refl _)]
                  show _ = _
                  rw [h2, h1]
                  exact HHL.out
                have HBB := Lib.hid (stepB HB.out HBZ.out)
                have HE9 := Lib.hid (HE8.out.later HBZ.out)
                generalize mk2 H k = mk at *
                clear HE8 HB HBZ
                go_wp2_with fail
                refine (given_any AG mg cg P wz (HG.out _ HBB.out) (by omega)).mono ?_
                rintro e w11 ⟨A11, c11, rfl, ho, h0, hb⟩
                have HB11 := Lib.hid (stepB HBB.out hb)
                have HE11 := Lib.hid (HE9.out.later hb)
                have HO11 := Lib.hid ho
                have H011 := Lib.hid h0
                clear hb ho h0 HBB HE9
                go_wp2_with fail
                refine (withoutG_any A k c A11 mg c11 P Rs w11 (HS.out _ HB11.out) (by omega) HP.out HCR.out HO11.out (by omega) H011.out).mono ?_
                rintro e w12 ⟨E, hr, hmE, A12, c12, n12, Rs12, rfl, he, hme, hb⟩
                rw [HH.out] at hme
                have HW := Lib.hid (wot (w := w) hr he hme HB11.out.size)
                have HB12 := Lib.hid (stepB HB11.out hb)
                have HE12 := Lib.hid (HE11.out.later hb)
                have HSM : Hid (decide (Rs8.map Prod.fst = Rs12.map Prod.fst) = true) := by
                  refine decide_eq_true ?_
                  rw [HME8.out, HW.out.eq]
                  exact HIV9.out.done HW.out.nd hmE HCL.out
                have HN8 : Hid (n8 ≤ 100000) := by
                  have h1 := HE12.out.rd.1
                  have h2 := congrArg List.length HME8.out
                  rw [List.length_map] at h2
                  have h3 := wS_len S H
                  rw [HHL.out] at h3
                  show _ ≤ _
                  omega
                clear hr hmE he hme hb HO11 H011 HB11 HE11
                go_wp2_with fail
                refine (same_any A8 A12 n8 n12 c8 c12 Rs8 Rs12 w12 HE12.out HW.out.ev.evs (evs_np HE12.out HME8.out (wS_prs HPR.out)) HN8.out).mono ?_
                rintro e w13 ⟨rfl, hb⟩
                rw [HSM.out]
                have HB13 := Lib.hid (stepB HB12.out hb)
                clear hb HSM HB12 HE12 HW HN8
                go_wp2_with fail
                refine (bare_any A k c Rs w13 (HS.out _ HB13.out) (by omega) HP.out).mono ?_
                rintro e w14 ⟨A14, c14, n14, Rs14, rfl, ho, hme, hb⟩
                have hn14 : (n14 : Int) = (k : Int) - (mk : Int) := by
                  have h1 := ho.row.1
                  have h2 := congrArg List.length hme
                  rw [List.length_map, HH.out] at h2
                  have := HBL.out
                  omega
                have wd : IntKind.i64.wrap ((k : Int) - (mk : Int)) = (k : Int) - (mk : Int) := IntWalk.i64_in _ (by omega)
                have dq : ((n14 : Int) == (k : Int) - (mk : Int)) = true := by rw [hn14]; simp
                have HB14 := Lib.hid (stepB HB13.out hb)
                clear hb ho hme hn14 HBL
                go_wp2
                go_ret
                exact ⟨rfl, HB14.out⟩


set_option maxRecDepth 100000 in
theorem lifted (os : Os) (started : os.Started) (H : Type) (enc : TypeId × Value → H) :
    ReturnsInHanded {} Try.checked os 8 .any (Rows.eventLessSpec.pre6 enc Try.prog Try.f8 Rows.eventLessRow.domain false) (Rows.eventLessSpec.post enc Try.prog Try.f8 false true false false) := by
  refine returnsInHanded_of_change_sized (C := Try.checked) own started (by kernel_rfl) Try.func8
    (ChangeSpec.witness6 (enc := enc) (C := Try.checked) false ⟨#[], #[.int .i64 0, .slice none 0 0, .slice none 0 0], []⟩ 8 (by kernel_rfl) (by kernel_rfl) (by kernel_rfl) (by kernel_rfl)) ?_
  intro W base args ds gs before hval0 hW _ hsz _
  have hval : ∀ (j : Nat) t v, Try.f8.params[j]? = some t → args[j]? = some v → Value.okWide Try.prog W .any base t v := hval0
  have hW' := hW
  obtain ⟨p, q, hA0, hV, hbef, _, _⟩ := hW
  have hA : DataW.TrodAll enc Try.prog W 0 (fun _ => true) true Try.f8.params.toList args.toList ds p := hA0
  rw [Try.params8] at hA hval
  obtain ⟨v0, vs0, d0, ds0, p0, q0, hargs, rfl, rfl, h0, r0⟩ := trodAll_cons hA
  obtain ⟨v1, vs1, d1, ds1, p1, q1, rfl, rfl, rfl, h1, r1⟩ := trodAll_cons r0
  obtain ⟨v2, vs2, d2, ds2, p2, q2, rfl, rfl, rfl, h2, r2⟩ := trodAll_cons r1
  obtain ⟨rfl, rfl, rfl⟩ := trodAll_nil r2
  obtain rfl : args = #[v0, v1, v2] := by cases args; simp_all
  obtain ⟨rfl, rfl⟩ := trodVars_none hV
  obtain ⟨a0, rfl, _, _, w0⟩ := open_int Try.underlying3 (hval 0 3 v0 rfl rfl) h0
  obtain ⟨A1, n1, c1, S1, rfl, st1, _, mx1, _, _⟩ := open_events2 (hval 1 32 v1 rfl rfl) h1
  obtain ⟨A2, n2, c2, S2, rfl, st2, mx2, _, _⟩ := open_places (hval 2 58 v2 rfl rfl) h2
  refine (walk a0 A1 n1 c1 S1 A2 n2 c2 S2 W st1 mx1 st2 mx2).mono fun e W' ⟨he, hb⟩ => ?_
  subst he
  exact ⟨_, rfl, law_post laidOut (of_decide_eq_true (by kernel_rfl)) rfl Try.underlying4 rfl rfl hW' hb⟩

theorem over : Rows.eventLessRow.holds Try.pinned (OpenSpec.ofChange Rows.eventLessSpec) :=
  OpenClaim.holds_of_wide 8 Try.f8 rfl rfl rfl rfl rfl rfl rfl ⟨rfl, rfl, rfl, rfl, rfl⟩ rfl rfl rfl rfl rfl (by kernel_rfl) Try.func8 (by kernel_rfl)
    (of_decide_eq_true (by kernel_rfl)) (by unfold Func.isWrapper; first | (rw [if_pos (by decide +kernel)]; kernel_rfl) | (rw [if_neg (by decide +kernel)]; exact ⟨rfl, rfl⟩))
    (fun os started H enc _ => lifted os started H enc)

end Go.Proofs.Ytgbcncfgpdlmiaa.eventLess
namespace Go.Proofs.Ytgbcncfgpdlmiaa
theorem eventLess_holds : Rows.EventLessSaid := eventLess.over
end Go.Proofs.Ytgbcncfgpdlmiaa
