/- The walk of ModelTasks. -/
import Derived.Test.YtoinjnocopejjaaLG
import Derived.Test.YtoinjnocopejjaaWO
import Derived.Test.YtoinjnocopejjaaOC
import Derived.Test.YtoinjnocopejjaaSA
import Derived.Test.YtoinjnocopejjaaMO2
import Derived.Test.YtoinjnocopejjaaNZ
import Derived.Test.YtoinjnocopejjaaSM
import Derived.Test.YtoinjnocopejjaaAR
import Derived.StillTailTactics
namespace Go.Proofs.Ytoinjnocopejjaa.modelTasks
open Go.ChangeShapes Go.WideShapes Go.ChangeAt Go.RowKit Go.Maps
set_option linter.unusedVariables false
set_option linter.unusedSimpArgs false
theorem wrap_u64 (x : Int) : IntKind.u64.wrap x = x % 18446744073709551616 := by
  unfold IntKind.wrap
  simp [IntKind.bits, IntKind.signed]
theorem blk_neT {W : World} {p q : Nat} {c c2 : Array Value} {t t2 : TypeId} (h : Blk W p c t) (h2 : Blk W q c2 t2) (hne : t ≠ t2) : p ≠ q := fun e => by
  subst e
  have h1 : W.heap[p]? = some (.cells c t (0, 0)) := h
  rw [show W.heap[p]? = some (.cells c2 t2 (0, 0)) from h2] at h1
  simp only [Option.some.injEq, Obj.cells.injEq] at h1
  exact hne h1.2.1.symm
theorem doM_tasks (s : MS) (t : Int) (x : Cl) : (doM s t x).1.tasks.length = s.tasks.length := by
  unfold doM; split
  · rfl
  · unfold actM; split
    · split
      · rfl
      · simp [beginM]
    · rfl
    · split
      · rfl
      split <;> rfl
    · split
      · rfl
      split
      · rfl
      split <;> rfl
    · rfl
    · split
      · rfl
      split <;> rfl
    · rfl
    · rfl
    · rfl
set_option maxRecDepth 100000 in
set_option maxHeartbeats 1600000 in
theorem walk (c : Conf) (A : Option Addr) (n cc : Nat) (L : List Tn) (by_ : Int) (w : World) (hS : RSl tnE 8 w A n L) (hz : ∀ r ∈ L, TnOk r) (hby : (Lit.int .i64 by_).wf = true) : Calls Try.prog 8 #[c.val, .slice A n cc, .int .i64 by_] w fun e w' => e = .returned (.bool true) ∧ Below w.heap.size w w' := by
  have HBYI := Lib.hid hby
  clear hby
  have HS : Hid (∀ W, Below w.heap.size w W → RSl tnE 8 W A n L) := Lib.hid (fun W hb => hS.later hb)
  have HZ := Lib.hid hz
  have HLN : Hid (L.length = n) := Lib.hid hS.1
  have HB : Hid (Below w.heap.size w (w.alloc (.cells #[.int .i64 c.ta, .int .i64 c.ac, .int .i64 c.ke, .int .i64 c.de, .int .i64 c.ts, .int .i64 c.kl, .int .i64 c.vl, .int .i64 c.fa] 45))) := Lib.hid ((Below.refl _ _).alloc (Nat.le_refl _) _)
  have KC : Hid (Blk (w.alloc (.cells #[.int .i64 c.ta, .int .i64 c.ac, .int .i64 c.ke, .int .i64 c.de, .int .i64 c.ts, .int .i64 c.kl, .int .i64 c.vl, .int .i64 c.fa] 45)) w.heap.size #[.int .i64 c.ta, .int .i64 c.ac, .int .i64 c.ke, .int .i64 c.de, .int .i64 c.ts, .int .i64 c.kl, .int .i64 c.vl, .int .i64 c.fa] 45) := Lib.hid (Blk.new w _ 45)
  clear hS hz
  show Calls Try.prog 8 _ w _
  unfold Conf.val
  go_enter Try.func8, Try.ntmps8
  go_upto_region 1 with (fail)
  generalize (w.alloc (.cells #[.int .i64 c.ta, .int .i64 c.ac, .int .i64 c.ke, .int .i64 c.de, .int .i64 c.ts, .int .i64 c.kl, .int .i64 c.vl, .int .i64 c.fa] 45)) = w1 at *
  go_wp2_with fail
  refine (works_any _).mono ?_
  rintro e w2 ⟨rfl, hb⟩
  replace HB := Lib.hid (stepB HB.out hb)
  replace KC := Lib.hid (KC.out.later hb)
  clear hb
  go_wp2_with fail
  refine (large_any A n cc L _ (HS.out _ HB.out)).mono ?_
  rintro e w3 ⟨rfl, hb⟩
  replace HB := Lib.hid (stepB HB.out hb)
  replace KC := Lib.hid (KC.out.later hb)
  clear hb
  obtain ⟨b, hlg⟩ : ∃ b, decide (12000 ≤ lgT L) = b := ⟨_, rfl⟩
  rw [hlg]
  cases b with
  | true =>
    go_wp2_with fail
    refine (works_any _).mono ?_
    rintro e w4 ⟨rfl, hb⟩
    replace HB := Lib.hid (stepB HB.out hb)
    replace KC := Lib.hid (KC.out.later hb)
    clear hb
    go_wp2
    go_ret
    exact ⟨rfl, HB.out⟩
  | false =>
    have HLG : Hid (L.length < 200) := Lib.hid (lg_len (by have := of_decide_eq_false hlg; omega))
    clear hlg
    have z0 := KC.out.cell 0
    have z1 := KC.out.cell 1
    have z2 := KC.out.cell 2
    have z3 := KC.out.cell 3
    have z4 := KC.out.cell 4
    have z5 := KC.out.cell 5
    have z6 := KC.out.cell 6
    have z7 := KC.out.cell 7
    simp only [List.getElem?_toArray, List.getElem?_cons_zero, List.getElem?_cons_succ] at z0 z1 z2 z3 z4 z5 z6 z7
    go_wp2_with fail
    refine (new_any c _).mono ?_
    rintro e w4 ⟨hb, hnew⟩
    have HBP := Lib.hid HB.out.size
    replace HB := Lib.hid (stepB HB.out hb)
    replace KC := Lib.hid (KC.out.later hb)
    clear z0 z1 z2 z3 z4 z5 z6 z7
    have z0 := KC.out.cell 0
    have z1 := KC.out.cell 1
    have z2 := KC.out.cell 2
    have z3 := KC.out.cell 3
    have z4 := KC.out.cell 4
    have z5 := KC.out.cell 5
    have z6 := KC.out.cell 6
    have z7 := KC.out.cell 7
    simp only [List.getElem?_toArray, List.getElem?_cons_zero, List.getElem?_cons_succ] at z0 z1 z2 z3 z4 z5 z6 z7
    have hnew2 := hnew.symm
    clear hnew
    rcases hnew2 with ⟨hmay, rfl⟩ | ⟨hmay, p1, S1, rfl, hm1⟩
    · have HMAY := Lib.hid hmay
      clear hb hmay
      go_wp2_with fail
      refine (new_any c _).mono ?_
      rintro e w5 ⟨hb, hnew⟩
      rcases hnew with ⟨hmay, _⟩ | ⟨hmay, rfl⟩
      · rw [HMAY.out] at hmay; cases hmay
      have HB5 := Lib.hid (stepB HB.out hb)
      clear hb hmay z0 z1 z2 z3 z4 z5 z6 z7
      go_wp2
      go_ret
      exact ⟨rfl, HB5.out⟩
    have HMAY := Lib.hid hmay
    have HQ1 : Hid (MQ_ w4 w.heap.size (ownT w3 (fun _ => 0) p1) p1 (newM c)) := Lib.hid (MQ_.new hm1 HBP.out)
    clear hb hmay hm1 HBP
    go_wp2_with fail
    refine (new_any c _).mono ?_
    rintro e w5 ⟨hb, hnew⟩
    have hnew2 := hnew.symm
    clear hnew
    rcases hnew2 with ⟨hmay, _⟩ | ⟨_, p2, S2, rfl, hm2⟩
    · rw [HMAY.out] at hmay; cases hmay
    have HNE : Hid (p1 ≠ p2) := Lib.hid (by have h1 := HQ1.out.self; have h2 := hm2.lt p2 hm2.self; omega)
    have hq1 : MQ_ w5 w.heap.size (ownT w4 (ownT w3 (fun _ => 0) p1) p2) p1 (newM c) := (HQ1.out.own' (fun k hk => ownT_lt hk)).later hb
    have hq2 : MQ_ w5 w.heap.size (ownT w4 (ownT w3 (fun _ => 0) p1) p2) p2 (newM c) := MQ_.new hm2 HB.out.size
    have HB5 := Lib.hid (stepB HB.out hb)
    have KC5 := Lib.hid (KC.out.later hb)
    clear hb hm2 z0 z1 z2 z3 z4 z5 z6 z7 HQ1 HB KC
    generalize ownT w4 (ownT w3 (fun _ => 0) p1) p2 = own at hq1 hq2
    have HQ1 := Lib.hid hq1
    have HQ2 := Lib.hid hq2
    clear hq1 hq2
    go_wp2
    have HTT : Hid (1 ≤ c.ta ∧ c.ta ≤ 6) := Lib.hid (by have := may_lo HMAY.out; omega)
    obtain ⟨T, hT⟩ : ∃ T : Nat, c.ta = (T : Int) := ⟨c.ta.toNat, by have := HTT.out; omega⟩
    have HCT := Lib.hid hT
    clear hT
    have HCF : Hid (∀ W, Blk W w.heap.size #[.int .i64 c.ta, .int .i64 c.ac, .int .i64 c.ke, .int .i64 c.de, .int .i64 c.ts, .int .i64 c.kl, .int .i64 c.vl, .int .i64 c.fa] 45 → W.cell? ⟨w.heap.size, 0, none⟩ = some (.int .i64 (T : Int))) := Lib.hid (fun W hW => by
      have h1 := hW.cell 0
      simp only [List.getElem?_toArray, List.getElem?_cons_zero] at h1
      rw [HCT.out] at h1; exact h1)
    obtain ⟨d, hd⟩ : ∃ d : Nat, d = ((by_ % 18446744073709551616) % (T : Int)).toNat := ⟨_, rfl⟩
    have HD := Lib.hid hd
    clear hd
    go_loopw [11] (fun i W => ∃ (k : Nat) (s1 s2 : MS) (own : Nat → Nat), k ≤ n ∧ i = .int .i64 k ∧ MQ_ W w.heap.size own p1 s1 ∧ MQ_ W w.heap.size own p2 s2 ∧ RnM d s1 s2 ∧ s1.tasks.length = T ∧ s1.txns.length ≤ k ∧ Blk W w.heap.size #[.int .i64 c.ta, .int .i64 c.ac, .int .i64 c.ke, .int .i64 c.de, .int .i64 c.ts, .int .i64 c.kl, .int .i64 c.vl, .int .i64 c.fa] 45 ∧ Below w.heap.size w W) (fun i _ => n - (intOf i).toNat)
    case atStart => exact ⟨0, _, _, own, Nat.zero_le _, rfl, HQ1.out, HQ2.out, RnM.new d c, by show (List.replicate c.ta.toNat ([] : List Int)).length = T; rw [List.length_replicate, HCT.out]; rfl, Nat.le_refl _, KC5.out, HB5.out⟩
    case round =>
      obtain ⟨k, s1, s2, own, hk, rfl, hq1, hq2, hv, hts, htl, hkc, hb⟩ := hrel
      have HBW := Lib.hid hb
      have KCW := Lib.hid hkc
      have HN2 : Hid (n < 200) := Lib.hid (by rw [← HLN.out]; exact HLG.out)
      clear HQ1 HQ2 HB5 KC5 hb hkc
      have HQ1 := Lib.hid hq1
      have HQ2 := Lib.hid hq2
      have HV := Lib.hid hv
      have HTS := Lib.hid hts
      have HTL := Lib.hid htl
      clear hq1 hq2 hv htl hts
      by_cases hlt : k < n
      · have d2 : decide ((k : Int) < (n : Int)) = true := decide_eq_true (by omega)
        have wk : IntKind.i64.wrap ((k : Int) + 1) = (k : Int) + 1 := IntWalk.i64_in _ (by have := HN2.out; omega)
        have wk2 : wrap64 ((k : Int) + 1) = (k : Int) + 1 := by have := HN2.out; unfold wrap64; omega
        obtain ⟨g, off, rfl, hg, hc⟩ := (HS.out wr HBW.out).2 (by omega)
        have i1 := idx55 g off n cc k (k : Int) rfl hlt
        have hrk : L[k]? = some (L[k]'(by rw [HLN.out]; exact hlt)) := List.getElem?_eq_getElem _
        have hok := HZ.out _ (List.mem_of_getElem? hrk)
        have HTK := Lib.hid (runM_take (newM c) L k _ hrk)
        generalize L[k]'(by rw [HLN.out]; exact hlt) = r at *
        obtain ⟨ta, kn, tx, ke, en, va, li, eg⟩ := r
        have HCO := Lib.hid hok.2
        have HTA := Lib.hid hok.1
        have hcell : ∀ W, Below w.heap.size w W → W.cell? ⟨g, off + k * 8, none⟩ = some (.int .i64 ta) ∧ W.cell? ⟨g, off + k * 8 + 1, none⟩ = some (.int .u8 kn) ∧ W.cell? ⟨g, off + k * 8 + 1 + 1, none⟩ = some (.int .i64 tx) ∧ W.cell? ⟨g, off + k * 8 + 1 + 2, none⟩ = some (.string ke) ∧ W.cell? ⟨g, off + k * 8 + 1 + 3, none⟩ = some (.string en) ∧ W.cell? ⟨g, off + k * 8 + 1 + 4, none⟩ = some (.string va) ∧ W.cell? ⟨g, off + k * 8 + 1 + 5, none⟩ = some (.int .i64 li) ∧ W.cell? ⟨g, off + k * 8 + 1 + 6, none⟩ = some (.int .u8 eg) := fun W hW => by
          obtain ⟨g2, off2, e, hg2, hc2⟩ := (HS.out W hW).2 (by omega)
          cases e
          exact ⟨hc2 k _ hrk 0 (by decide), hc2 k _ hrk 1 (by decide), hc2 k _ hrk 2 (by decide), hc2 k _ hrk 3 (by decide), hc2 k _ hrk 4 (by decide), hc2 k _ hrk 5 (by decide), hc2 k _ hrk 6 (by decide), hc2 k _ hrk 7 (by decide)⟩
        have HCE := Lib.hid hcell
        obtain ⟨y0, y1, y2, y3, y4, y5, y6, y7⟩ := hcell wr HBW.out
        clear hc hg hrk hok hcell
        have HKN := Lib.hid hk
        have HLT := Lib.hid hlt
        have hbx : Below wr.heap.size wr (wr.alloc (.cells #[.int .i64 ta, .int .u8 kn, .int .i64 tx, .string ke, .string en, .string va, .int .i64 li, .int .u8 eg] 63)) := (Below.refl _ _).alloc (Nat.le_refl _) _
        have HBX : Hid (Below w.heap.size w (wr.alloc (.cells #[.int .i64 ta, .int .u8 kn, .int .i64 tx, .string ke, .string en, .string va, .int .i64 li, .int .u8 eg] 63))) := Lib.hid (stepB HBW.out hbx)
        have HKY := Lib.hid (KCW.out.later hbx)
        have KTN : Hid (Blk (wr.alloc (.cells #[.int .i64 ta, .int .u8 kn, .int .i64 tx, .string ke, .string en, .string va, .int .i64 li, .int .u8 eg] 63)) wr.heap.size #[.int .i64 ta, .int .u8 kn, .int .i64 tx, .string ke, .string en, .string va, .int .i64 li, .int .u8 eg] 63) := Lib.hid (Blk.new wr _ 63)
        have HQ1X := Lib.hid (HQ1.out.later hbx)
        have HQ2X := Lib.hid (HQ2.out.later hbx)
        clear hbx hk
        go_upto_region 11 with (fail)
        clear y0 y1 y2 y3 y4 y5 y6 y7 i1 HQ1 HQ2 HBW KCW
        generalize wr.alloc (.cells #[.int .i64 ta, .int .u8 kn, .int .i64 tx, .string ke, .string en, .string va, .int .i64 li, .int .u8 eg] 63) = w6 at *
        obtain ⟨pt, hpt⟩ : ∃ x, wr.heap.size = x := ⟨_, rfl⟩
        rw [hpt] at KTN ⊢
        clear hpt
        have t0 := KTN.out.cell 0
        simp only [List.getElem?_toArray, List.getElem?_cons_zero] at t0
        have cT := HCF.out _ HKY.out
        have HTK2 := Lib.hid (And.intro HKN.out HLT.out)
        go_upto_region 12 with (fail)
        clear d2 hlt
        go_cut [64] (fun s64 W => s64 = .bool (decide (0 ≤ ta ∧ ta < (T : Int))) ∧ w6 = W)
        case first =>
          by_cases h0 : 0 ≤ ta
          · have e1 : decide (ta ≥ 0) = true := decide_eq_true h0
            have e1' : decide (0 ≤ ta) = true := decide_eq_true h0
            by_cases h1 : ta < (T : Int)
            · have e2 : decide (ta < (T : Int)) = true := decide_eq_true h1
              have HE : Hid (decide (0 ≤ ta ∧ ta < (T : Int)) = true) := Lib.hid (decide_eq_true ⟨h0, h1⟩)
              clear h0 h1
              go_wp2
              go_meet
              exact ⟨by rw [HE.out], rfl⟩
            · have e2 : decide (ta < (T : Int)) = false := decide_eq_false h1
              have HE : Hid (decide (0 ≤ ta ∧ ta < (T : Int)) = false) := Lib.hid (decide_eq_false (fun h => h1 h.2))
              clear h0 h1
              go_wp2
              go_meet
              exact ⟨by rw [HE.out], rfl⟩
          · have e1 : decide (ta ≥ 0) = false := decide_eq_false h0
            have e1' : decide (0 ≤ ta) = false := decide_eq_false h0
            have HE : Hid (decide (0 ≤ ta ∧ ta < (T : Int)) = false) := Lib.hid (decide_eq_false (fun h => h0 h.1))
            clear h0
            go_wp2
            go_meet
            exact ⟨by rw [HE.out], rfl⟩
        case rest =>
        obtain ⟨rfl, rfl⟩ := hcut
        obtain ⟨bi, hbi⟩ : ∃ bi, decide (0 ≤ ta ∧ ta < (T : Int)) = bi := ⟨_, rfl⟩
        rw [hbi]
        have HBI := Lib.hid hbi
        clear hbi
        go_upto_if 64 with (fail)
        go_cut [13] (fun s13 W => s13 = .int .i64 (othT d T ta) ∧ ∃ q, w6.drewN q = W)
        case first =>
          cases bi with
          | true =>
            have hin := of_decide_eq_true HBI.out
            have hTT := HTT.out
            rw [HCT.out] at hTT
            have hT0 : ¬ ((T : Int) = 0) := by omega
            have hT0' : ¬ T = 0 := by omega
            have hdd := HD.out
            have hub : 0 ≤ by_ % 18446744073709551616 := Int.emod_nonneg _ (by decide)
            have hum : 0 ≤ (by_ % 18446744073709551616) % (T : Int) := Int.emod_nonneg _ hT0
            have hul : (by_ % 18446744073709551616) % (T : Int) < (T : Int) := Int.emod_lt_of_pos _ (by omega)
            have f3 : IntKind.u64.wrap by_ = by_ % 18446744073709551616 := wrap_u64 by_
            have f6 : IntKind.u64.wrap (T : Int) = (T : Int) := by rw [wrap_u64]; omega
            have f7 : Int.tmod (by_ % 18446744073709551616) (T : Int) = (d : Int) := by rw [Int.tmod_eq_emod_of_nonneg hub, hdd]; omega
            have hdT : (d : Int) < (T : Int) := by rw [hdd]; omega
            have f8 : IntKind.i64.wrap (d : Int) = (d : Int) := IntWalk.i64_in _ (by omega)
            have f9 : IntKind.i64.wrap (ta + (d : Int)) = ta + (d : Int) := IntWalk.i64_in _ (by omega)
            have f9' : wrap64 (ta + (d : Int)) = ta + (d : Int) := by unfold wrap64; omega
            have f12 : Int.tmod (ta + (d : Int)) (T : Int) = othT d T ta := by
              unfold othT
              rw [if_pos hin, Int.tmod_eq_emod_of_nonneg (by omega), Int.natCast_emod]
              congr 1
              omega
            clear hdd hub hum hul hdT hTT hin
            generalize by_ % 18446744073709551616 = ub at *
            go_wp2
            go_quiet (fail)
            go_wp2
            go_meet
            exact ⟨rfl, _, rfl⟩
          | false =>
            have hin := of_decide_eq_false HBI.out
            have HO : Hid (othT d T ta = ta) := Lib.hid (oth_out hin)
            clear hin
            go_wp2
            go_meet
            exact ⟨by rw [HO.out], 0, rfl⟩
        case rest =>
        obtain ⟨rfl, qd, rfl⟩ := hcut
        replace HQ1X := Lib.hid (HQ1X.out.later (below_drewN (Below.refl _ _) qd))
        replace HQ2X := Lib.hid (HQ2X.out.later (below_drewN (Below.refl _ _) qd))
        replace HBX := Lib.hid (below_drewN HBX.out qd)
        replace HKY := Lib.hid (HKY.out.later (below_drewN (Below.refl _ _) qd))
        replace KTN := Lib.hid (KTN.out.later (below_drewN (Below.refl _ _) qd))
        clear t0 cT
        generalize w6.drewN qd = w6 at *
        have HTS1 : Hid (s1.txns.length ≤ 100000) := Lib.hid (by have := HTL.out; have := HN2.out; have := HLT.out; omega)
        go_wp2_with fail
        refine (mq_copy HQ1X.out HTS1.out).mono ?_
        rintro e w7 ⟨pw, own', rfl, hqw, hall, hb⟩
        have HQW := Lib.hid hqw
        have HNW1 := Lib.hid (hall _ _ HQ1X.out).2
        have HNW2 := Lib.hid (hall _ _ HQ2X.out).2
        have HQ1 := Lib.hid (hall _ _ HQ1X.out).1
        have HQ2 := Lib.hid (hall _ _ HQ2X.out).1
        have HBW := Lib.hid (stepB HBX.out hb)
        have KCW := Lib.hid (HKY.out.later hb)
        replace KTN := Lib.hid (KTN.out.later hb)
        clear hqw hall hb HQ1X HQ2X HBX HKY
        obtain ⟨R1, hR1⟩ : ∃ R, doM s1 ta (kn, tx, ke, en, va, li, eg) = R := ⟨_, rfl⟩
        obtain ⟨R2, hR2⟩ : ∃ R, doM s2 (othT d T ta) (kn, tx, ke, en, va, li, eg) = R := ⟨_, rfl⟩
        obtain ⟨t1, er1, fo1, va1, pr1⟩ := R1
        obtain ⟨t2, er2, fo2, va2, pr2⟩ := R2
        have hvd := HV.out.do_ ta (kn, tx, ke, en, va, li, eg)
        rw [HTS.out, hR1, hR2] at hvd
        obtain ⟨hv2, he2⟩ := hvd
        simp only at hv2 he2
        cases he2
        have HC1 : Hid (∀ W own, MQ_ W w.heap.size own p1 s1 → Calls Try.prog 18 #[.pointer (some ⟨p1, 0, none⟩), .int .i64 ta, .agg #[.int .u8 (kn : Int), .int .i64 tx, .string ke, .string en, .string va, .int .i64 li, .int .u8 (eg : Int)]] W (DoE w.heap.size own p1 t1 (er1, fo1, va1, pr1) W)) := Lib.hid (fun W own h => by
          have := mq_do h ta tx li ke en va kn eg HTS1.out HCO.out
          rw [hR1] at this; exact this)
        have HC2 : Hid (∀ W own, MQ_ W w.heap.size own p2 s2 → Calls Try.prog 18 #[.pointer (some ⟨p2, 0, none⟩), .int .i64 (othT d T ta), .agg #[.int .u8 (kn : Int), .int .i64 tx, .string ke, .string en, .string va, .int .i64 li, .int .u8 (eg : Int)]] W (DoE w.heap.size own p2 t2 (er1, fo1, va1, pr1) W)) := Lib.hid (fun W own h => by
          have := mq_do h (othT d T ta) tx li ke en va kn eg (by rw [HV.out.txns]; exact HTS1.out) HCO.out
          rw [hR2] at this; exact this)
        have HV2 := Lib.hid hv2
        have HMG : Hid (kn = 9 → t1 = s1) := Lib.hid (fun e => by have := mig_same s1 ta (kn, tx, ke, en, va, li, eg) e; rw [hR1] at this; exact this)
        have HT1 : Hid (t1.txns.length ≤ k + 1) := Lib.hid (by
          have := doM_txns s1 ta (kn, tx, ke, en, va, li, eg)
          rw [hR1] at this
          have := HTL.out
          simp only at *
          omega)
        have HTT1 : Hid (t1.tasks.length = T) := Lib.hid (by
          have h1 := HTS.out
          have := doM_tasks s1 ta (kn, tx, ke, en, va, li, eg)
          rw [hR1] at this
          simp only at this
          omega)
        have HLP : Hid (pr1.length ≤ 100000) := Lib.hid (by
          have := pairs_le s1 ta (kn, tx, ke, en, va, li, eg)
          rw [hR1] at this
          simp only at this; omega)
        clear hR1 hR2 hv2 HV
        go_upto_region 15 with (fail)
        go_cut [15, 16] (fun s15 s16 W => ∃ (own : Nat → Nat) (pa pb : Nat) (A1 A2 : Option Addr) (c1 c2 : Nat), s15 = .pointer (some ⟨pa, 0, none⟩) ∧ s16 = .pointer (some ⟨pb, 0, none⟩) ∧ Blk W pa #[.int .i64 er1, .bool fo1, .string va1, .slice A1 pr1.length c1] 33 ∧ Blk W pb #[.int .i64 er1, .bool fo1, .string va1, .slice A2 pr1.length c2] 33 ∧
          ROwn pvc 2 W w.heap.size 129 (.slice A1 pr1.length c1) pr1.length pr1 ∧ ROwn pvc 2 W w.heap.size 129 (.slice A2 pr1.length c2) pr1.length pr1 ∧ MQ_ W w.heap.size own p1 t1 ∧ MQ_ W w.heap.size own p2 t2 ∧ MQ_ W w.heap.size own pw s1 ∧ Blk W pt #[.int .i64 ta, .int .u8 kn, .int .i64 tx, .string ke, .string en, .string va, .int .i64 li, .int .u8 eg] 63 ∧ Blk W w.heap.size #[.int .i64 c.ta, .int .i64 c.ac, .int .i64 c.ke, .int .i64 c.de, .int .i64 c.ts, .int .i64 c.kl, .int .i64 c.vl, .int .i64 c.fa] 45 ∧ Below w.heap.size w W)
        case first =>
          refine wp_region_noPanic ?_
          obtain ⟨W0, rfl⟩ : ∃ W0 : World, W0 = w7 := ⟨_, rfl⟩
          refine wp_region_held_drew (S := fun W => Blk W pt #[.int .i64 ta, .int .u8 kn, .int .i64 tx, .string ke, .string en, .string va, .int .i64 li, .int .u8 eg] 63) (by kernel_rfl) (KTN.out.later (Below.drew (Below.refl _ _))) (fun hHeld => ?_)
          replace HBW : Hid (Below w.heap.size w (World.drew W0)) := Lib.hid (Below.drew HBW.out)
          replace HQ1 := Lib.hid (HQ1.out.later (Below.drew (Below.refl _ _)))
          replace HQ2 := Lib.hid (HQ2.out.later (Below.drew (Below.refl _ _)))
          replace HQW := Lib.hid (HQW.out.later (Below.drew (Below.refl _ _)))
          replace KTN := Lib.hid (KTN.out.later (Below.drew (Below.refl _ _)))
          replace KCW := Lib.hid (KCW.out.later (Below.drew (Below.refl _ _)))
          generalize World.drew W0 = Wd at *
          refine wpAnyH_take (i := 0) (oi := { dst := some 80, op := Op.move (Operand.tmp 7), type := 22, pos := "outright.go:387", after := #[], guard := none }) (v := ?_) rfl (by kernel_rfl) (by kernel_rfl) (by kernel_rfl) (fun _ _ _ h => h) (Or.inl ⟨by rfl, ?_⟩) (by assumption) ?_
          rotate_left
          · intro W hSw
            clear hSw
            go_simp
            try with_reducible rfl
          simp only [Act.put, List.setIfInBounds_toArray, List.set_cons_zero, List.set_cons_succ]
          refine wpAnyH_take (i := 1) (oi := { dst := some 81, op := Op.fieldAddr 63 (Operand.tmp 12) 0, type := 0, pos := "outright.go:387", after := #[], guard := none }) (v := ?_) rfl (by kernel_rfl) (by kernel_rfl) (by kernel_rfl) (fun _ _ _ h => h) (Or.inl ⟨by rfl, ?_⟩) (by assumption) ?_
          rotate_left
          · intro W hSw
            clear hSw
            go_simp
            try with_reducible rfl
          simp only [Act.put, List.setIfInBounds_toArray, List.set_cons_zero, List.set_cons_succ]
          refine wpAnyH_take (i := 2) (oi := { dst := some 82, op := Op.load 3 (Operand.tmp 81), type := 3, pos := "outright.go:387", after := #[{ on := 1, ground := Ground.data }], guard := none }) (v := ?_) rfl (by kernel_rfl) (by kernel_rfl) (by kernel_rfl) (fun _ _ _ h => h) (Or.inl ⟨by rfl, ?_⟩) (by assumption) ?_
          rotate_left
          · intro W hSw
            have q0 := hSw.cell 0
            simp only [List.getElem?_toArray, List.getElem?_cons_zero, List.getElem?_cons_succ] at q0
            clear hSw
            go_simp
            try with_reducible rfl
          simp only [Act.put, List.setIfInBounds_toArray, List.set_cons_zero, List.set_cons_succ]
          refine wpAnyH_take (i := 3) (oi := { dst := some 83, op := Op.fieldAddr 63 (Operand.tmp 12) 1, type := 0, pos := "outright.go:387", after := #[], guard := none }) (v := ?_) rfl (by kernel_rfl) (by kernel_rfl) (by kernel_rfl) (fun _ _ _ h => h) (Or.inl ⟨by rfl, ?_⟩) (by assumption) ?_
          rotate_left
          · intro W hSw
            clear hSw
            go_simp
            try with_reducible rfl
          simp only [Act.put, List.setIfInBounds_toArray, List.set_cons_zero, List.set_cons_succ]
          refine wpAnyH_take (i := 4) (oi := { dst := some 84, op := Op.load 36 (Operand.tmp 83), type := 36, pos := "outright.go:387", after := #[{ on := 3, ground := Ground.data }], guard := none }) (v := ?_) rfl (by kernel_rfl) (by kernel_rfl) (by kernel_rfl) (fun _ _ _ h => h) (Or.inl ⟨by rfl, ?_⟩) (by assumption) ?_
          rotate_left
          · intro W hSw
            have q1 := hSw.cell 1
            have q2 := hSw.cell 2
            have q3 := hSw.cell 3
            have q4 := hSw.cell 4
            have q5 := hSw.cell 5
            have q6 := hSw.cell 6
            have q7 := hSw.cell 7
            simp only [List.getElem?_toArray, List.getElem?_cons_zero, List.getElem?_cons_succ] at q1 q2 q3 q4 q5 q6 q7
            clear hSw
            go_simp
            try with_reducible rfl
          simp only [Act.put, List.setIfInBounds_toArray, List.set_cons_zero, List.set_cons_succ]
          refine wpAnyH_take (i := 6) (oi := { dst := some 86, op := Op.move (Operand.tmp 9), type := 22, pos := "outright.go:387", after := #[], guard := none }) (v := ?_) rfl (by kernel_rfl) (by kernel_rfl) (by kernel_rfl) (fun _ _ _ h => h) (Or.inl ⟨by rfl, ?_⟩) (by assumption) ?_
          rotate_left
          · intro W hSw
            clear hSw
            go_simp
            try with_reducible rfl
          simp only [Act.put, List.setIfInBounds_toArray, List.set_cons_zero, List.set_cons_succ]
          refine wpAnyH_take (i := 7) (oi := { dst := some 87, op := Op.move (Operand.tmp 13), type := 3, pos := "outright.go:387", after := #[], guard := none }) (v := ?_) rfl (by kernel_rfl) (by kernel_rfl) (by kernel_rfl) (fun _ _ _ h => h) (Or.inl ⟨by rfl, ?_⟩) (by assumption) ?_
          rotate_left
          · intro W hSw
            clear hSw
            go_simp
            try with_reducible rfl
          simp only [Act.put, List.setIfInBounds_toArray, List.set_cons_zero, List.set_cons_succ]
          refine wpAnyH_take (i := 8) (oi := { dst := some 88, op := Op.fieldAddr 63 (Operand.tmp 12) 1, type := 0, pos := "outright.go:387", after := #[], guard := none }) (v := ?_) rfl (by kernel_rfl) (by kernel_rfl) (by kernel_rfl) (fun _ _ _ h => h) (Or.inl ⟨by rfl, ?_⟩) (by assumption) ?_
          rotate_left
          · intro W hSw
            clear hSw
            go_simp
            try with_reducible rfl
          simp only [Act.put, List.setIfInBounds_toArray, List.set_cons_zero, List.set_cons_succ]
          refine wpAnyH_take (i := 9) (oi := { dst := some 89, op := Op.load 36 (Operand.tmp 88), type := 36, pos := "outright.go:387", after := #[{ on := 8, ground := Ground.data }], guard := none }) (v := ?_) rfl (by kernel_rfl) (by kernel_rfl) (by kernel_rfl) (fun _ _ _ h => h) (Or.inl ⟨by rfl, ?_⟩) (by assumption) ?_
          rotate_left
          · intro W hSw
            have q1 := hSw.cell 1
            have q2 := hSw.cell 2
            have q3 := hSw.cell 3
            have q4 := hSw.cell 4
            have q5 := hSw.cell 5
            have q6 := hSw.cell 6
            have q7 := hSw.cell 7
            simp only [List.getElem?_toArray, List.getElem?_cons_zero, List.getElem?_cons_succ] at q1 q2 q3 q4 q5 q6 q7
            clear hSw
            go_simp
            try with_reducible rfl
          simp only [Act.put, List.setIfInBounds_toArray, List.set_cons_zero, List.set_cons_succ]
          refine wpAnyH_ready (rs := [5, 11, 12]) (by kernel_rfl) (by simp) (AllReadyH.cons (o := { dst := some 85, op := Op.call { callee := Callee.value (Operand.func 18), args := #[Operand.tmp 80, Operand.tmp 82, Operand.tmp 84], argTypes := #[22, 3, 36] }, type := 33, pos := "outright.go:387", after := #[{ on := 0, ground := Ground.data }, { on := 2, ground := Ground.data }, { on := 4, ground := Ground.data }], guard := none }) rfl (fun K hK => ?_) (AllReadyH.cons (o := { dst := some 15, op := Op.alloc 33, type := 0, pos := "outright.go:387", after := #[], guard := none }) rfl (fun K hK => ?_) (AllReadyH.cons (o := { dst := some 16, op := Op.alloc 33, type := 0, pos := "outright.go:387", after := #[], guard := none }) rfl (fun K hK => ?_) AllReadyH.nil)))
          · have HCL := Lib.hid (HC1.out Wd _ HQ1.out)
            go_simp
            refine HCL.out.mono ?_
            rintro e Wp1 ⟨A1, c1, rfl, hro, hm, hoth, hkp, hbl⟩
            have HRO1S := Lib.hid (hro.base HBW.out.size)
            replace HQ1 := Lib.hid hm
            replace HQ2 := Lib.hid (hoth _ _ HNE.out.symm HQ2.out)
            replace HQW := Lib.hid (hoth _ _ (by first | exact HNW1.out.symm | exact HNW2.out.symm) HQW.out)
            replace KTN := Lib.hid (hkp.blk _ _ _ KTN.out (by decide) (by decide) (by decide) (by decide))
            replace KCW := Lib.hid (hkp.blk _ _ _ KCW.out (by decide) (by decide) (by decide) (by decide))
            have RO1 := HRO1S
            replace HBW := Lib.hid (hbl _ _ HBW.out (Nat.le_refl _))
            clear hro hm hoth hkp hbl hHeld HCL HC1 HRO1S
            refine hK.out _ _ (KTN.out) (fun hHeld => ?_)
            clear hK K
            refine wpAnyH_ready (rs := [10, 11, 12]) (by kernel_rfl) (by simp) (AllReadyH.cons (o := { dst := some 90, op := Op.call { callee := Callee.value (Operand.func 18), args := #[Operand.tmp 86, Operand.tmp 87, Operand.tmp 89], argTypes := #[22, 3, 36] }, type := 33, pos := "outright.go:387", after := #[{ on := 6, ground := Ground.data }, { on := 7, ground := Ground.data }, { on := 9, ground := Ground.data }, { on := 5, ground := Ground.chain }], guard := none }) rfl (fun K hK => ?_) (AllReadyH.cons (o := { dst := some 15, op := Op.alloc 33, type := 0, pos := "outright.go:387", after := #[], guard := none }) rfl (fun K hK => ?_) (AllReadyH.cons (o := { dst := some 16, op := Op.alloc 33, type := 0, pos := "outright.go:387", after := #[], guard := none }) rfl (fun K hK => ?_) AllReadyH.nil)))
            · have HCL := Lib.hid (HC2.out Wp1 _ HQ2.out)
              go_simp
              refine HCL.out.mono ?_
              rintro e Wp2 ⟨A2, c2, rfl, hro, hm, hoth, hkp, hbl⟩
              have HRO2S := Lib.hid (hro.base HBW.out.size)
              replace HQ2 := Lib.hid hm
              replace HQ1 := Lib.hid (hoth _ _ HNE.out HQ1.out)
              replace RO1 := Lib.hid (RO1.out.kp hkp (by decide) (by decide) (by decide) (by decide))
              replace HQW := Lib.hid (hoth _ _ (by first | exact HNW1.out.symm | exact HNW2.out.symm) HQW.out)
              replace KTN := Lib.hid (hkp.blk _ _ _ KTN.out (by decide) (by decide) (by decide) (by decide))
              replace KCW := Lib.hid (hkp.blk _ _ _ KCW.out (by decide) (by decide) (by decide) (by decide))
              have RO2 := HRO2S
              replace HBW := Lib.hid (hbl _ _ HBW.out (Nat.le_refl _))
              clear hro hm hoth hkp hbl hHeld HCL HC2 HRO2S
              refine hK.out _ _ (KTN.out) (fun hHeld => ?_)
              clear hK K
              refine wpAnyH_ready (rs := [11, 12]) (by kernel_rfl) (by simp) (AllReadyH.cons (o := { dst := some 15, op := Op.alloc 33, type := 0, pos := "outright.go:387", after := #[], guard := none }) rfl (fun K hK => ?_) (AllReadyH.cons (o := { dst := some 16, op := Op.alloc 33, type := 0, pos := "outright.go:387", after := #[], guard := none }) rfl (fun K hK => ?_) AllReadyH.nil))
              · go_simp
                have hb : Below Wp2.heap.size Wp2 (Wp2.alloc (.cells #[.int .i64 0, .bool false, .string ⟨#[]⟩, .slice none 0 0] 33)) := (Below.refl _ _).alloc (Nat.le_refl _) _
                replace HQ1 := Lib.hid (HQ1.out.later hb)
                replace HQ2 := Lib.hid (HQ2.out.later hb)
                replace RO1 := Lib.hid (RO1.out.later hb)
                replace RO2 := Lib.hid (RO2.out.later hb)
                replace HQW := Lib.hid (HQW.out.later hb)
                replace KTN := Lib.hid (KTN.out.later hb)
                replace KCW := Lib.hid (KCW.out.later hb)
                have KA : Hid (Blk (Wp2.alloc (.cells #[.int .i64 0, .bool false, .string ⟨#[]⟩, .slice none 0 0] 33)) Wp2.heap.size #[.int .i64 0, .bool false, .string ⟨#[]⟩, .slice none 0 0] 33) := Lib.hid (Blk.new Wp2 _ 33)
                have HPKA : Hid (w.heap.size ≤ Wp2.heap.size) := Lib.hid HBW.out.size
                replace HBW := Lib.hid (stepB HBW.out hb)
                clear hb hHeld
                refine hK.out _ _ (KTN.out) (fun hHeld => ?_)
                clear hK K
                generalize Wp2.alloc (.cells #[.int .i64 0, .bool false, .string ⟨#[]⟩, .slice none 0 0] 33) = Wp3 at *
                obtain ⟨pa, hpp⟩ : ∃ x, Wp2.heap.size = x := ⟨_, rfl⟩
                rw [hpp] at KA HPKA ⊢
                clear hpp
                refine wpAnyH_ready (rs := [12]) (by kernel_rfl) (by simp) (AllReadyH.cons (o := { dst := some 16, op := Op.alloc 33, type := 0, pos := "outright.go:387", after := #[], guard := none }) rfl (fun K hK => ?_) AllReadyH.nil)
                go_simp
                have hb : Below Wp3.heap.size Wp3 (Wp3.alloc (.cells #[.int .i64 0, .bool false, .string ⟨#[]⟩, .slice none 0 0] 33)) := (Below.refl _ _).alloc (Nat.le_refl _) _
                have HNAB := Lib.hid (show pa ≠ Wp3.heap.size from by have := KA.out.lt; omega)
                replace HQ1 := Lib.hid (HQ1.out.later hb)
                replace HQ2 := Lib.hid (HQ2.out.later hb)
                replace KA := Lib.hid (KA.out.later hb)
                replace RO1 := Lib.hid (RO1.out.later hb)
                replace RO2 := Lib.hid (RO2.out.later hb)
                replace HQW := Lib.hid (HQW.out.later hb)
                replace KTN := Lib.hid (KTN.out.later hb)
                replace KCW := Lib.hid (KCW.out.later hb)
                have KB : Hid (Blk (Wp3.alloc (.cells #[.int .i64 0, .bool false, .string ⟨#[]⟩, .slice none 0 0] 33)) Wp3.heap.size #[.int .i64 0, .bool false, .string ⟨#[]⟩, .slice none 0 0] 33) := Lib.hid (Blk.new Wp3 _ 33)
                have HPKB : Hid (w.heap.size ≤ Wp3.heap.size) := Lib.hid HBW.out.size
                replace HBW := Lib.hid (stepB HBW.out hb)
                clear hb hHeld
                refine hK.out _ _ (KTN.out) (fun hHeld => ?_)
                clear hK K
                generalize Wp3.alloc (.cells #[.int .i64 0, .bool false, .string ⟨#[]⟩, .slice none 0 0] 33) = Wp4 at *
                obtain ⟨pb, hpp⟩ : ∃ x, Wp3.heap.size = x := ⟨_, rfl⟩
                rw [hpp] at KB HPKB HNAB ⊢
                clear hpp
                refine wpAnyH_ready (rs := [13]) (by kernel_rfl) (by simp) (AllReadyH.cons (o := { dst := none, op := Op.store 33 (Operand.tmp 15) (Operand.tmp 85), type := 0, pos := "outright.go:387", after := #[{ on := 11, ground := Ground.data }, { on := 5, ground := Ground.data }, { on := 10, ground := Ground.chain }, { on := 0, ground := Ground.phase }, { on := 1, ground := Ground.phase }, { on := 2, ground := Ground.phase }, { on := 3, ground := Ground.phase }, { on := 4, ground := Ground.phase }, { on := 5, ground := Ground.phase }, { on := 6, ground := Ground.textOnly Departure.lateStores }, { on := 7, ground := Ground.textOnly Departure.lateStores }, { on := 8, ground := Ground.textOnly Departure.lateStores }, { on := 9, ground := Ground.textOnly Departure.lateStores }, { on := 10, ground := Ground.textOnly Departure.lateStoresUnsure }, { on := 11, ground := Ground.phase }, { on := 12, ground := Ground.phase }], guard := none }) rfl (fun K hK => ?_) AllReadyH.nil)
                refine wp_store_row 33 (.tmp 15) (.tmp 85) rfl pa #[.int .i64 er1, .bool fo1, .string va1, .slice A1 pr1.length c1] rfl rfl 33 #[.int .i64 0, .bool false, .string ⟨#[]⟩, .slice none 0 0] KA.out (by kernel_rfl) rfl (by first | rfl | (simp [Value.oneCell']; done)) ?_
                replace HQ1 : Hid (MQ_ (Wp4.setRow pa #[.int .i64 er1, .bool fo1, .string va1, .slice A1 pr1.length c1]) _ _ _ _) := Lib.hid (HQ1.out.setRow KA.out (by decide) (by decide) (by decide) (by decide) (by decide))
                replace HQ2 : Hid (MQ_ (Wp4.setRow pa #[.int .i64 er1, .bool fo1, .string va1, .slice A1 pr1.length c1]) _ _ _ _) := Lib.hid (HQ2.out.setRow KA.out (by decide) (by decide) (by decide) (by decide) (by decide))
                replace KB : Hid (Blk (Wp4.setRow pa #[.int .i64 er1, .bool fo1, .string va1, .slice A1 pr1.length c1]) _ _ _) := Lib.hid (Blk.setRow KB.out HNAB.out.symm)
                replace RO1 := Lib.hid (ROwn.setRow (c2 := #[.int .i64 er1, .bool fo1, .string va1, .slice A1 pr1.length c1]) RO1.out KA.out (by decide))
                replace RO2 := Lib.hid (ROwn.setRow (c2 := #[.int .i64 er1, .bool fo1, .string va1, .slice A1 pr1.length c1]) RO2.out KA.out (by decide))
                replace HQW : Hid (MQ_ (Wp4.setRow pa #[.int .i64 er1, .bool fo1, .string va1, .slice A1 pr1.length c1]) _ _ _ _) := Lib.hid (HQW.out.setRow KA.out (by decide) (by decide) (by decide) (by decide) (by decide))
                replace KTN : Hid (Blk (Wp4.setRow pa #[.int .i64 er1, .bool fo1, .string va1, .slice A1 pr1.length c1]) _ _ _) := Lib.hid (Blk.setRow KTN.out (blk_neT KTN.out KA.out (by decide)))
                replace KCW : Hid (Blk (Wp4.setRow pa #[.int .i64 er1, .bool fo1, .string va1, .slice A1 pr1.length c1]) _ _ _) := Lib.hid (Blk.setRow KCW.out (blk_neT KCW.out KA.out (by decide)))
                replace HBW : Hid (Below w.heap.size w (Wp4.setRow pa #[.int .i64 er1, .bool fo1, .string va1, .slice A1 pr1.length c1])) := Lib.hid (below_setRow HBW.out HPKA.out _)
                replace KA : Hid (Blk (Wp4.setRow pa #[.int .i64 er1, .bool fo1, .string va1, .slice A1 pr1.length c1]) pa #[.int .i64 er1, .bool fo1, .string va1, .slice A1 pr1.length c1] 33) := Lib.hid (Blk.setRow_self KA.out)
                clear hHeld
                refine hK.out _ _ (KTN.out) (fun hHeld => ?_)
                clear hK K
                generalize Wp4.setRow pa #[.int .i64 er1, .bool fo1, .string va1, .slice A1 pr1.length c1] = Wp5 at *
                refine wpAnyH_ready (rs := [14]) (by kernel_rfl) (by simp) (AllReadyH.cons (o := { dst := none, op := Op.store 33 (Operand.tmp 16) (Operand.tmp 90), type := 0, pos := "outright.go:387", after := #[{ on := 12, ground := Ground.data }, { on := 10, ground := Ground.data }, { on := 13, ground := Ground.chain }, { on := 0, ground := Ground.phase }, { on := 1, ground := Ground.phase }, { on := 2, ground := Ground.phase }, { on := 3, ground := Ground.phase }, { on := 4, ground := Ground.phase }, { on := 5, ground := Ground.phase }, { on := 6, ground := Ground.phase }, { on := 7, ground := Ground.phase }, { on := 8, ground := Ground.phase }, { on := 9, ground := Ground.phase }, { on := 10, ground := Ground.phase }, { on := 11, ground := Ground.phase }, { on := 12, ground := Ground.phase }, { on := 13, ground := Ground.phase }], guard := none }) rfl (fun K hK => ?_) AllReadyH.nil)
                refine wp_store_row 33 (.tmp 16) (.tmp 90) rfl pb #[.int .i64 er1, .bool fo1, .string va1, .slice A2 pr1.length c2] rfl rfl 33 #[.int .i64 0, .bool false, .string ⟨#[]⟩, .slice none 0 0] KB.out (by kernel_rfl) rfl (by first | rfl | (simp [Value.oneCell']; done)) ?_
                replace HQ1 : Hid (MQ_ (Wp5.setRow pb #[.int .i64 er1, .bool fo1, .string va1, .slice A2 pr1.length c2]) _ _ _ _) := Lib.hid (HQ1.out.setRow KB.out (by decide) (by decide) (by decide) (by decide) (by decide))
                replace HQ2 : Hid (MQ_ (Wp5.setRow pb #[.int .i64 er1, .bool fo1, .string va1, .slice A2 pr1.length c2]) _ _ _ _) := Lib.hid (HQ2.out.setRow KB.out (by decide) (by decide) (by decide) (by decide) (by decide))
                replace KA : Hid (Blk (Wp5.setRow pb #[.int .i64 er1, .bool fo1, .string va1, .slice A2 pr1.length c2]) _ _ _) := Lib.hid (Blk.setRow KA.out HNAB.out)
                replace RO1 := Lib.hid (ROwn.setRow (c2 := #[.int .i64 er1, .bool fo1, .string va1, .slice A2 pr1.length c2]) RO1.out KB.out (by decide))
                replace RO2 := Lib.hid (ROwn.setRow (c2 := #[.int .i64 er1, .bool fo1, .string va1, .slice A2 pr1.length c2]) RO2.out KB.out (by decide))
                replace HQW : Hid (MQ_ (Wp5.setRow pb #[.int .i64 er1, .bool fo1, .string va1, .slice A2 pr1.length c2]) _ _ _ _) := Lib.hid (HQW.out.setRow KB.out (by decide) (by decide) (by decide) (by decide) (by decide))
                replace KTN : Hid (Blk (Wp5.setRow pb #[.int .i64 er1, .bool fo1, .string va1, .slice A2 pr1.length c2]) _ _ _) := Lib.hid (Blk.setRow KTN.out (blk_neT KTN.out KB.out (by decide)))
                replace KCW : Hid (Blk (Wp5.setRow pb #[.int .i64 er1, .bool fo1, .string va1, .slice A2 pr1.length c2]) _ _ _) := Lib.hid (Blk.setRow KCW.out (blk_neT KCW.out KB.out (by decide)))
                replace HBW : Hid (Below w.heap.size w (Wp5.setRow pb #[.int .i64 er1, .bool fo1, .string va1, .slice A2 pr1.length c2])) := Lib.hid (below_setRow HBW.out HPKB.out _)
                replace KB : Hid (Blk (Wp5.setRow pb #[.int .i64 er1, .bool fo1, .string va1, .slice A2 pr1.length c2]) pb #[.int .i64 er1, .bool fo1, .string va1, .slice A2 pr1.length c2] 33) := Lib.hid (Blk.setRow_self KB.out)
                clear hHeld
                refine hK.out _ _ (KTN.out) (fun hHeld => ?_)
                clear hK K
                generalize Wp5.setRow pb #[.int .i64 er1, .bool fo1, .string va1, .slice A2 pr1.length c2] = Wp6 at *
                refine wpAnyH_done (by kernel_rfl) (NoPanic.normal ?_) _
                clear hHeld
                go_wp2
                go_meet
                exact ⟨_, _, _, _, _, _, _, rfl, rfl, KA.out, KB.out, RO1.out, RO2.out, HQ1.out, HQ2.out, HQW.out, KTN.out, KCW.out, HBW.out⟩
              · go_simp
                have hb : Below Wp2.heap.size Wp2 (Wp2.alloc (.cells #[.int .i64 0, .bool false, .string ⟨#[]⟩, .slice none 0 0] 33)) := (Below.refl _ _).alloc (Nat.le_refl _) _
                replace HQ1 := Lib.hid (HQ1.out.later hb)
                replace HQ2 := Lib.hid (HQ2.out.later hb)
                replace RO1 := Lib.hid (RO1.out.later hb)
                replace RO2 := Lib.hid (RO2.out.later hb)
                replace HQW := Lib.hid (HQW.out.later hb)
                replace KTN := Lib.hid (KTN.out.later hb)
                replace KCW := Lib.hid (KCW.out.later hb)
                have KB : Hid (Blk (Wp2.alloc (.cells #[.int .i64 0, .bool false, .string ⟨#[]⟩, .slice none 0 0] 33)) Wp2.heap.size #[.int .i64 0, .bool false, .string ⟨#[]⟩, .slice none 0 0] 33) := Lib.hid (Blk.new Wp2 _ 33)
                have HPKB : Hid (w.heap.size ≤ Wp2.heap.size) := Lib.hid HBW.out.size
                replace HBW := Lib.hid (stepB HBW.out hb)
                clear hb hHeld
                refine hK.out _ _ (KTN.out) (fun hHeld => ?_)
                clear hK K
                generalize Wp2.alloc (.cells #[.int .i64 0, .bool false, .string ⟨#[]⟩, .slice none 0 0] 33) = Wp7 at *
                obtain ⟨pb, hpp⟩ : ∃ x, Wp2.heap.size = x := ⟨_, rfl⟩
                rw [hpp] at KB HPKB ⊢
                clear hpp
                refine wpAnyH_ready (rs := [11]) (by kernel_rfl) (by simp) (AllReadyH.cons (o := { dst := some 15, op := Op.alloc 33, type := 0, pos := "outright.go:387", after := #[], guard := none }) rfl (fun K hK => ?_) AllReadyH.nil)
                go_simp
                have hb : Below Wp7.heap.size Wp7 (Wp7.alloc (.cells #[.int .i64 0, .bool false, .string ⟨#[]⟩, .slice none 0 0] 33)) := (Below.refl _ _).alloc (Nat.le_refl _) _
                have HNAB := Lib.hid (show Wp7.heap.size ≠ pb from by have := KB.out.lt; omega)
                replace HQ1 := Lib.hid (HQ1.out.later hb)
                replace HQ2 := Lib.hid (HQ2.out.later hb)
                replace KB := Lib.hid (KB.out.later hb)
                replace RO1 := Lib.hid (RO1.out.later hb)
                replace RO2 := Lib.hid (RO2.out.later hb)
                replace HQW := Lib.hid (HQW.out.later hb)
                replace KTN := Lib.hid (KTN.out.later hb)
                replace KCW := Lib.hid (KCW.out.later hb)
                have KA : Hid (Blk (Wp7.alloc (.cells #[.int .i64 0, .bool false, .string ⟨#[]⟩, .slice none 0 0] 33)) Wp7.heap.size #[.int .i64 0, .bool false, .string ⟨#[]⟩, .slice none 0 0] 33) := Lib.hid (Blk.new Wp7 _ 33)
                have HPKA : Hid (w.heap.size ≤ Wp7.heap.size) := Lib.hid HBW.out.size
                replace HBW := Lib.hid (stepB HBW.out hb)
                clear hb hHeld
                refine hK.out _ _ (KTN.out) (fun hHeld => ?_)
                clear hK K
                generalize Wp7.alloc (.cells #[.int .i64 0, .bool false, .string ⟨#[]⟩, .slice none 0 0] 33) = Wp8 at *
                obtain ⟨pa, hpp⟩ : ∃ x, Wp7.heap.size = x := ⟨_, rfl⟩
                rw [hpp] at KA HPKA HNAB ⊢
                clear hpp
                refine wpAnyH_ready (rs := [13]) (by kernel_rfl) (by simp) (AllReadyH.cons (o := { dst := none, op := Op.store 33 (Operand.tmp 15) (Operand.tmp 85), type := 0, pos := "outright.go:387", after := #[{ on := 11, ground := Ground.data }, { on := 5, ground := Ground.data }, { on := 10, ground := Ground.chain }, { on := 0, ground := Ground.phase }, { on := 1, ground := Ground.phase }, { on := 2, ground := Ground.phase }, { on := 3, ground := Ground.phase }, { on := 4, ground := Ground.phase }, { on := 5, ground := Ground.phase }, { on := 6, ground := Ground.textOnly Departure.lateStores }, { on := 7, ground := Ground.textOnly Departure.lateStores }, { on := 8, ground := Ground.textOnly Departure.lateStores }, { on := 9, ground := Ground.textOnly Departure.lateStores }, { on := 10, ground := Ground.textOnly Departure.lateStoresUnsure }, { on := 11, ground := Ground.phase }, { on := 12, ground := Ground.phase }], guard := none }) rfl (fun K hK => ?_) AllReadyH.nil)
                refine wp_store_row 33 (.tmp 15) (.tmp 85) rfl pa #[.int .i64 er1, .bool fo1, .string va1, .slice A1 pr1.length c1] rfl rfl 33 #[.int .i64 0, .bool false, .string ⟨#[]⟩, .slice none 0 0] KA.out (by kernel_rfl) rfl (by first | rfl | (simp [Value.oneCell']; done)) ?_
                replace HQ1 : Hid (MQ_ (Wp8.setRow pa #[.int .i64 er1, .bool fo1, .string va1, .slice A1 pr1.length c1]) _ _ _ _) := Lib.hid (HQ1.out.setRow KA.out (by decide) (by decide) (by decide) (by decide) (by decide))
                replace HQ2 : Hid (MQ_ (Wp8.setRow pa #[.int .i64 er1, .bool fo1, .string va1, .slice A1 pr1.length c1]) _ _ _ _) := Lib.hid (HQ2.out.setRow KA.out (by decide) (by decide) (by decide) (by decide) (by decide))
                replace KB : Hid (Blk (Wp8.setRow pa #[.int .i64 er1, .bool fo1, .string va1, .slice A1 pr1.length c1]) _ _ _) := Lib.hid (Blk.setRow KB.out HNAB.out.symm)
                replace RO1 := Lib.hid (ROwn.setRow (c2 := #[.int .i64 er1, .bool fo1, .string va1, .slice A1 pr1.length c1]) RO1.out KA.out (by decide))
                replace RO2 := Lib.hid (ROwn.setRow (c2 := #[.int .i64 er1, .bool fo1, .string va1, .slice A1 pr1.length c1]) RO2.out KA.out (by decide))
                replace HQW : Hid (MQ_ (Wp8.setRow pa #[.int .i64 er1, .bool fo1, .string va1, .slice A1 pr1.length c1]) _ _ _ _) := Lib.hid (HQW.out.setRow KA.out (by decide) (by decide) (by decide) (by decide) (by decide))
                replace KTN : Hid (Blk (Wp8.setRow pa #[.int .i64 er1, .bool fo1, .string va1, .slice A1 pr1.length c1]) _ _ _) := Lib.hid (Blk.setRow KTN.out (blk_neT KTN.out KA.out (by decide)))
                replace KCW : Hid (Blk (Wp8.setRow pa #[.int .i64 er1, .bool fo1, .string va1, .slice A1 pr1.length c1]) _ _ _) := Lib.hid (Blk.setRow KCW.out (blk_neT KCW.out KA.out (by decide)))
                replace HBW : Hid (Below w.heap.size w (Wp8.setRow pa #[.int .i64 er1, .bool fo1, .string va1, .slice A1 pr1.length c1])) := Lib.hid (below_setRow HBW.out HPKA.out _)
                replace KA : Hid (Blk (Wp8.setRow pa #[.int .i64 er1, .bool fo1, .string va1, .slice A1 pr1.length c1]) pa #[.int .i64 er1, .bool fo1, .string va1, .slice A1 pr1.length c1] 33) := Lib.hid (Blk.setRow_self KA.out)
                clear hHeld
                refine hK.out _ _ (KTN.out) (fun hHeld => ?_)
                clear hK K
                generalize Wp8.setRow pa #[.int .i64 er1, .bool fo1, .string va1, .slice A1 pr1.length c1] = Wp9 at *
                refine wpAnyH_ready (rs := [14]) (by kernel_rfl) (by simp) (AllReadyH.cons (o := { dst := none, op := Op.store 33 (Operand.tmp 16) (Operand.tmp 90), type := 0, pos := "outright.go:387", after := #[{ on := 12, ground := Ground.data }, { on := 10, ground := Ground.data }, { on := 13, ground := Ground.chain }, { on := 0, ground := Ground.phase }, { on := 1, ground := Ground.phase }, { on := 2, ground := Ground.phase }, { on := 3, ground := Ground.phase }, { on := 4, ground := Ground.phase }, { on := 5, ground := Ground.phase }, { on := 6, ground := Ground.phase }, { on := 7, ground := Ground.phase }, { on := 8, ground := Ground.phase }, { on := 9, ground := Ground.phase }, { on := 10, ground := Ground.phase }, { on := 11, ground := Ground.phase }, { on := 12, ground := Ground.phase }, { on := 13, ground := Ground.phase }], guard := none }) rfl (fun K hK => ?_) AllReadyH.nil)
                refine wp_store_row 33 (.tmp 16) (.tmp 90) rfl pb #[.int .i64 er1, .bool fo1, .string va1, .slice A2 pr1.length c2] rfl rfl 33 #[.int .i64 0, .bool false, .string ⟨#[]⟩, .slice none 0 0] KB.out (by kernel_rfl) rfl (by first | rfl | (simp [Value.oneCell']; done)) ?_
                replace HQ1 : Hid (MQ_ (Wp9.setRow pb #[.int .i64 er1, .bool fo1, .string va1, .slice A2 pr1.length c2]) _ _ _ _) := Lib.hid (HQ1.out.setRow KB.out (by decide) (by decide) (by decide) (by decide) (by decide))
                replace HQ2 : Hid (MQ_ (Wp9.setRow pb #[.int .i64 er1, .bool fo1, .string va1, .slice A2 pr1.length c2]) _ _ _ _) := Lib.hid (HQ2.out.setRow KB.out (by decide) (by decide) (by decide) (by decide) (by decide))
                replace KA : Hid (Blk (Wp9.setRow pb #[.int .i64 er1, .bool fo1, .string va1, .slice A2 pr1.length c2]) _ _ _) := Lib.hid (Blk.setRow KA.out HNAB.out)
                replace RO1 := Lib.hid (ROwn.setRow (c2 := #[.int .i64 er1, .bool fo1, .string va1, .slice A2 pr1.length c2]) RO1.out KB.out (by decide))
                replace RO2 := Lib.hid (ROwn.setRow (c2 := #[.int .i64 er1, .bool fo1, .string va1, .slice A2 pr1.length c2]) RO2.out KB.out (by decide))
                replace HQW : Hid (MQ_ (Wp9.setRow pb #[.int .i64 er1, .bool fo1, .string va1, .slice A2 pr1.length c2]) _ _ _ _) := Lib.hid (HQW.out.setRow KB.out (by decide) (by decide) (by decide) (by decide) (by decide))
                replace KTN : Hid (Blk (Wp9.setRow pb #[.int .i64 er1, .bool fo1, .string va1, .slice A2 pr1.length c2]) _ _ _) := Lib.hid (Blk.setRow KTN.out (blk_neT KTN.out KB.out (by decide)))
                replace KCW : Hid (Blk (Wp9.setRow pb #[.int .i64 er1, .bool fo1, .string va1, .slice A2 pr1.length c2]) _ _ _) := Lib.hid (Blk.setRow KCW.out (blk_neT KCW.out KB.out (by decide)))
                replace HBW : Hid (Below w.heap.size w (Wp9.setRow pb #[.int .i64 er1, .bool fo1, .string va1, .slice A2 pr1.length c2])) := Lib.hid (below_setRow HBW.out HPKB.out _)
                replace KB : Hid (Blk (Wp9.setRow pb #[.int .i64 er1, .bool fo1, .string va1, .slice A2 pr1.length c2]) pb #[.int .i64 er1, .bool fo1, .string va1, .slice A2 pr1.length c2] 33) := Lib.hid (Blk.setRow_self KB.out)
                clear hHeld
                refine hK.out _ _ (KTN.out) (fun hHeld => ?_)
                clear hK K
                generalize Wp9.setRow pb #[.int .i64 er1, .bool fo1, .string va1, .slice A2 pr1.length c2] = Wp10 at *
                refine wpAnyH_done (by kernel_rfl) (NoPanic.normal ?_) _
                clear hHeld
                go_wp2
                go_meet
                exact ⟨_, _, _, _, _, _, _, rfl, rfl, KA.out, KB.out, RO1.out, RO2.out, HQ1.out, HQ2.out, HQW.out, KTN.out, KCW.out, HBW.out⟩
            · go_simp
              have hb : Below Wp1.heap.size Wp1 (Wp1.alloc (.cells #[.int .i64 0, .bool false, .string ⟨#[]⟩, .slice none 0 0] 33)) := (Below.refl _ _).alloc (Nat.le_refl _) _
              replace HQ1 := Lib.hid (HQ1.out.later hb)
              replace HQ2 := Lib.hid (HQ2.out.later hb)
              replace RO1 := Lib.hid (RO1.out.later hb)
              replace HQW := Lib.hid (HQW.out.later hb)
              replace KTN := Lib.hid (KTN.out.later hb)
              replace KCW := Lib.hid (KCW.out.later hb)
              have KA : Hid (Blk (Wp1.alloc (.cells #[.int .i64 0, .bool false, .string ⟨#[]⟩, .slice none 0 0] 33)) Wp1.heap.size #[.int .i64 0, .bool false, .string ⟨#[]⟩, .slice none 0 0] 33) := Lib.hid (Blk.new Wp1 _ 33)
              have HPKA : Hid (w.heap.size ≤ Wp1.heap.size) := Lib.hid HBW.out.size
              replace HBW := Lib.hid (stepB HBW.out hb)
              clear hb hHeld
              refine hK.out _ _ (KTN.out) (fun hHeld => ?_)
              clear hK K
              generalize Wp1.alloc (.cells #[.int .i64 0, .bool false, .string ⟨#[]⟩, .slice none 0 0] 33) = Wp11 at *
              obtain ⟨pa, hpp⟩ : ∃ x, Wp1.heap.size = x := ⟨_, rfl⟩
              rw [hpp] at KA HPKA ⊢
              clear hpp
              refine wpAnyH_ready (rs := [10, 12]) (by kernel_rfl) (by simp) (AllReadyH.cons (o := { dst := some 90, op := Op.call { callee := Callee.value (Operand.func 18), args := #[Operand.tmp 86, Operand.tmp 87, Operand.tmp 89], argTypes := #[22, 3, 36] }, type := 33, pos := "outright.go:387", after := #[{ on := 6, ground := Ground.data }, { on := 7, ground := Ground.data }, { on := 9, ground := Ground.data }, { on := 5, ground := Ground.chain }], guard := none }) rfl (fun K hK => ?_) (AllReadyH.cons (o := { dst := some 16, op := Op.alloc 33, type := 0, pos := "outright.go:387", after := #[], guard := none }) rfl (fun K hK => ?_) AllReadyH.nil))
              · have HCL := Lib.hid (HC2.out Wp11 _ HQ2.out)
                go_simp
                refine HCL.out.mono ?_
                rintro e Wp12 ⟨A2, c2, rfl, hro, hm, hoth, hkp, hbl⟩
                have HRO2S := Lib.hid (hro.base HBW.out.size)
                replace HQ2 := Lib.hid hm
                replace HQ1 := Lib.hid (hoth _ _ HNE.out HQ1.out)
                replace KA := Lib.hid (hkp.blk _ _ _ KA.out (by decide) (by decide) (by decide) (by decide))
                replace RO1 := Lib.hid (RO1.out.kp hkp (by decide) (by decide) (by decide) (by decide))
                replace HQW := Lib.hid (hoth _ _ (by first | exact HNW1.out.symm | exact HNW2.out.symm) HQW.out)
                replace KTN := Lib.hid (hkp.blk _ _ _ KTN.out (by decide) (by decide) (by decide) (by decide))
                replace KCW := Lib.hid (hkp.blk _ _ _ KCW.out (by decide) (by decide) (by decide) (by decide))
                have RO2 := HRO2S
                replace HBW := Lib.hid (hbl _ _ HBW.out (Nat.le_refl _))
                clear hro hm hoth hkp hbl hHeld HCL HC2 HRO2S
                refine hK.out _ _ (KTN.out) (fun hHeld => ?_)
                clear hK K
                refine wpAnyH_ready (rs := [12]) (by kernel_rfl) (by simp) (AllReadyH.cons (o := { dst := some 16, op := Op.alloc 33, type := 0, pos := "outright.go:387", after := #[], guard := none }) rfl (fun K hK => ?_) AllReadyH.nil)
                go_simp
                have hb : Below Wp12.heap.size Wp12 (Wp12.alloc (.cells #[.int .i64 0, .bool false, .string ⟨#[]⟩, .slice none 0 0] 33)) := (Below.refl _ _).alloc (Nat.le_refl _) _
                have HNAB := Lib.hid (show pa ≠ Wp12.heap.size from by have := KA.out.lt; omega)
                replace HQ1 := Lib.hid (HQ1.out.later hb)
                replace HQ2 := Lib.hid (HQ2.out.later hb)
                replace KA := Lib.hid (KA.out.later hb)
                replace RO1 := Lib.hid (RO1.out.later hb)
                replace RO2 := Lib.hid (RO2.out.later hb)
                replace HQW := Lib.hid (HQW.out.later hb)
                replace KTN := Lib.hid (KTN.out.later hb)
                replace KCW := Lib.hid (KCW.out.later hb)
                have KB : Hid (Blk (Wp12.alloc (.cells #[.int .i64 0, .bool false, .string ⟨#[]⟩, .slice none 0 0] 33)) Wp12.heap.size #[.int .i64 0, .bool false, .string ⟨#[]⟩, .slice none 0 0] 33) := Lib.hid (Blk.new Wp12 _ 33)
                have HPKB : Hid (w.heap.size ≤ Wp12.heap.size) := Lib.hid HBW.out.size
                replace HBW := Lib.hid (stepB HBW.out hb)
                clear hb hHeld
                refine hK.out _ _ (KTN.out) (fun hHeld => ?_)
                clear hK K
                generalize Wp12.alloc (.cells #[.int .i64 0, .bool false, .string ⟨#[]⟩, .slice none 0 0] 33) = Wp13 at *
                obtain ⟨pb, hpp⟩ : ∃ x, Wp12.heap.size = x := ⟨_, rfl⟩
                rw [hpp] at KB HPKB HNAB ⊢
                clear hpp
                refine wpAnyH_ready (rs := [13]) (by kernel_rfl) (by simp) (AllReadyH.cons (o := { dst := none, op := Op.store 33 (Operand.tmp 15) (Operand.tmp 85), type := 0, pos := "outright.go:387", after := #[{ on := 11, ground := Ground.data }, { on := 5, ground := Ground.data }, { on := 10, ground := Ground.chain }, { on := 0, ground := Ground.phase }, { on := 1, ground := Ground.phase }, { on := 2, ground := Ground.phase }, { on := 3, ground := Ground.phase }, { on := 4, ground := Ground.phase }, { on := 5, ground := Ground.phase }, { on := 6, ground := Ground.textOnly Departure.lateStores }, { on := 7, ground := Ground.textOnly Departure.lateStores }, { on := 8, ground := Ground.textOnly Departure.lateStores }, { on := 9, ground := Ground.textOnly Departure.lateStores }, { on := 10, ground := Ground.textOnly Departure.lateStoresUnsure }, { on := 11, ground := Ground.phase }, { on := 12, ground := Ground.phase }], guard := none }) rfl (fun K hK => ?_) AllReadyH.nil)
                refine wp_store_row 33 (.tmp 15) (.tmp 85) rfl pa #[.int .i64 er1, .bool fo1, .string va1, .slice A1 pr1.length c1] rfl rfl 33 #[.int .i64 0, .bool false, .string ⟨#[]⟩, .slice none 0 0] KA.out (by kernel_rfl) rfl (by first | rfl | (simp [Value.oneCell']; done)) ?_
                replace HQ1 : Hid (MQ_ (Wp13.setRow pa #[.int .i64 er1, .bool fo1, .string va1, .slice A1 pr1.length c1]) _ _ _ _) := Lib.hid (HQ1.out.setRow KA.out (by decide) (by decide) (by decide) (by decide) (by decide))
                replace HQ2 : Hid (MQ_ (Wp13.setRow pa #[.int .i64 er1, .bool fo1, .string va1, .slice A1 pr1.length c1]) _ _ _ _) := Lib.hid (HQ2.out.setRow KA.out (by decide) (by decide) (by decide) (by decide) (by decide))
                replace KB : Hid (Blk (Wp13.setRow pa #[.int .i64 er1, .bool fo1, .string va1, .slice A1 pr1.length c1]) _ _ _) := Lib.hid (Blk.setRow KB.out HNAB.out.symm)
                replace RO1 := Lib.hid (ROwn.setRow (c2 := #[.int .i64 er1, .bool fo1, .string va1, .slice A1 pr1.length c1]) RO1.out KA.out (by decide))
                replace RO2 := Lib.hid (ROwn.setRow (c2 := #[.int .i64 er1, .bool fo1, .string va1, .slice A1 pr1.length c1]) RO2.out KA.out (by decide))
                replace HQW : Hid (MQ_ (Wp13.setRow pa #[.int .i64 er1, .bool fo1, .string va1, .slice A1 pr1.length c1]) _ _ _ _) := Lib.hid (HQW.out.setRow KA.out (by decide) (by decide) (by decide) (by decide) (by decide))
                replace KTN : Hid (Blk (Wp13.setRow pa #[.int .i64 er1, .bool fo1, .string va1, .slice A1 pr1.length c1]) _ _ _) := Lib.hid (Blk.setRow KTN.out (blk_neT KTN.out KA.out (by decide)))
                replace KCW : Hid (Blk (Wp13.setRow pa #[.int .i64 er1, .bool fo1, .string va1, .slice A1 pr1.length c1]) _ _ _) := Lib.hid (Blk.setRow KCW.out (blk_neT KCW.out KA.out (by decide)))
                replace HBW : Hid (Below w.heap.size w (Wp13.setRow pa #[.int .i64 er1, .bool fo1, .string va1, .slice A1 pr1.length c1])) := Lib.hid (below_setRow HBW.out HPKA.out _)
                replace KA : Hid (Blk (Wp13.setRow pa #[.int .i64 er1, .bool fo1, .string va1, .slice A1 pr1.length c1]) pa #[.int .i64 er1, .bool fo1, .string va1, .slice A1 pr1.length c1] 33) := Lib.hid (Blk.setRow_self KA.out)
                clear hHeld
                refine hK.out _ _ (KTN.out) (fun hHeld => ?_)
                clear hK K
                generalize Wp13.setRow pa #[.int .i64 er1, .bool fo1, .string va1, .slice A1 pr1.length c1] = Wp14 at *
                refine wpAnyH_ready (rs := [14]) (by kernel_rfl) (by simp) (AllReadyH.cons (o := { dst := none, op := Op.store 33 (Operand.tmp 16) (Operand.tmp 90), type := 0, pos := "outright.go:387", after := #[{ on := 12, ground := Ground.data }, { on := 10, ground := Ground.data }, { on := 13, ground := Ground.chain }, { on := 0, ground := Ground.phase }, { on := 1, ground := Ground.phase }, { on := 2, ground := Ground.phase }, { on := 3, ground := Ground.phase }, { on := 4, ground := Ground.phase }, { on := 5, ground := Ground.phase }, { on := 6, ground := Ground.phase }, { on := 7, ground := Ground.phase }, { on := 8, ground := Ground.phase }, { on := 9, ground := Ground.phase }, { on := 10, ground := Ground.phase }, { on := 11, ground := Ground.phase }, { on := 12, ground := Ground.phase }, { on := 13, ground := Ground.phase }], guard := none }) rfl (fun K hK => ?_) AllReadyH.nil)
                refine wp_store_row 33 (.tmp 16) (.tmp 90) rfl pb #[.int .i64 er1, .bool fo1, .string va1, .slice A2 pr1.length c2] rfl rfl 33 #[.int .i64 0, .bool false, .string ⟨#[]⟩, .slice none 0 0] KB.out (by kernel_rfl) rfl (by first | rfl | (simp [Value.oneCell']; done)) ?_
                replace HQ1 : Hid (MQ_ (Wp14.setRow pb #[.int .i64 er1, .bool fo1, .string va1, .slice A2 pr1.length c2]) _ _ _ _) := Lib.hid (HQ1.out.setRow KB.out (by decide) (by decide) (by decide) (by decide) (by decide))
                replace HQ2 : Hid (MQ_ (Wp14.setRow pb #[.int .i64 er1, .bool fo1, .string va1, .slice A2 pr1.length c2]) _ _ _ _) := Lib.hid (HQ2.out.setRow KB.out (by decide) (by decide) (by decide) (by decide) (by decide))
                replace KA : Hid (Blk (Wp14.setRow pb #[.int .i64 er1, .bool fo1, .string va1, .slice A2 pr1.length c2]) _ _ _) := Lib.hid (Blk.setRow KA.out HNAB.out)
                replace RO1 := Lib.hid (ROwn.setRow (c2 := #[.int .i64 er1, .bool fo1, .string va1, .slice A2 pr1.length c2]) RO1.out KB.out (by decide))
                replace RO2 := Lib.hid (ROwn.setRow (c2 := #[.int .i64 er1, .bool fo1, .string va1, .slice A2 pr1.length c2]) RO2.out KB.out (by decide))
                replace HQW : Hid (MQ_ (Wp14.setRow pb #[.int .i64 er1, .bool fo1, .string va1, .slice A2 pr1.length c2]) _ _ _ _) := Lib.hid (HQW.out.setRow KB.out (by decide) (by decide) (by decide) (by decide) (by decide))
                replace KTN : Hid (Blk (Wp14.setRow pb #[.int .i64 er1, .bool fo1, .string va1, .slice A2 pr1.length c2]) _ _ _) := Lib.hid (Blk.setRow KTN.out (blk_neT KTN.out KB.out (by decide)))
                replace KCW : Hid (Blk (Wp14.setRow pb #[.int .i64 er1, .bool fo1, .string va1, .slice A2 pr1.length c2]) _ _ _) := Lib.hid (Blk.setRow KCW.out (blk_neT KCW.out KB.out (by decide)))
                replace HBW : Hid (Below w.heap.size w (Wp14.setRow pb #[.int .i64 er1, .bool fo1, .string va1, .slice A2 pr1.length c2])) := Lib.hid (below_setRow HBW.out HPKB.out _)
                replace KB : Hid (Blk (Wp14.setRow pb #[.int .i64 er1, .bool fo1, .string va1, .slice A2 pr1.length c2]) pb #[.int .i64 er1, .bool fo1, .string va1, .slice A2 pr1.length c2] 33) := Lib.hid (Blk.setRow_self KB.out)
                clear hHeld
                refine hK.out _ _ (KTN.out) (fun hHeld => ?_)
                clear hK K
                generalize Wp14.setRow pb #[.int .i64 er1, .bool fo1, .string va1, .slice A2 pr1.length c2] = Wp15 at *
                refine wpAnyH_done (by kernel_rfl) (NoPanic.normal ?_) _
                clear hHeld
                go_wp2
                go_meet
                exact ⟨_, _, _, _, _, _, _, rfl, rfl, KA.out, KB.out, RO1.out, RO2.out, HQ1.out, HQ2.out, HQW.out, KTN.out, KCW.out, HBW.out⟩
              · go_simp
                have hb : Below Wp11.heap.size Wp11 (Wp11.alloc (.cells #[.int .i64 0, .bool false, .string ⟨#[]⟩, .slice none 0 0] 33)) := (Below.refl _ _).alloc (Nat.le_refl _) _
                have HNAB := Lib.hid (show pa ≠ Wp11.heap.size from by have := KA.out.lt; omega)
                replace HQ1 := Lib.hid (HQ1.out.later hb)
                replace HQ2 := Lib.hid (HQ2.out.later hb)
                replace KA := Lib.hid (KA.out.later hb)
                replace RO1 := Lib.hid (RO1.out.later hb)
                replace HQW := Lib.hid (HQW.out.later hb)
                replace KTN := Lib.hid (KTN.out.later hb)
                replace KCW := Lib.hid (KCW.out.later hb)
                have KB : Hid (Blk (Wp11.alloc (.cells #[.int .i64 0, .bool false, .string ⟨#[]⟩, .slice none 0 0] 33)) Wp11.heap.size #[.int .i64 0, .bool false, .string ⟨#[]⟩, .slice none 0 0] 33) := Lib.hid (Blk.new Wp11 _ 33)
                have HPKB : Hid (w.heap.size ≤ Wp11.heap.size) := Lib.hid HBW.out.size
                replace HBW := Lib.hid (stepB HBW.out hb)
                clear hb hHeld
                refine hK.out _ _ (KTN.out) (fun hHeld => ?_)
                clear hK K
                generalize Wp11.alloc (.cells #[.int .i64 0, .bool false, .string ⟨#[]⟩, .slice none 0 0] 33) = Wp16 at *
                obtain ⟨pb, hpp⟩ : ∃ x, Wp11.heap.size = x := ⟨_, rfl⟩
                rw [hpp] at KB HPKB HNAB ⊢
                clear hpp
                refine wpAnyH_ready (rs := [10]) (by kernel_rfl) (by simp) (AllReadyH.cons (o := { dst := some 90, op := Op.call { callee := Callee.value (Operand.func 18), args := #[Operand.tmp 86, Operand.tmp 87, Operand.tmp 89], argTypes := #[22, 3, 36] }, type := 33, pos := "outright.go:387", after := #[{ on := 6, ground := Ground.data }, { on := 7, ground := Ground.data }, { on := 9, ground := Ground.data }, { on := 5, ground := Ground.chain }], guard := none }) rfl (fun K hK => ?_) AllReadyH.nil)
                have HCL := Lib.hid (HC2.out Wp16 _ HQ2.out)
                go_simp
                refine HCL.out.mono ?_
                rintro e Wp17 ⟨A2, c2, rfl, hro, hm, hoth, hkp, hbl⟩
                have HRO2S := Lib.hid (hro.base HBW.out.size)
                replace HQ2 := Lib.hid hm
                replace HQ1 := Lib.hid (hoth _ _ HNE.out HQ1.out)
                replace KA := Lib.hid (hkp.blk _ _ _ KA.out (by decide) (by decide) (by decide) (by decide))
                replace KB := Lib.hid (hkp.blk _ _ _ KB.out (by decide) (by decide) (by decide) (by decide))
                replace RO1 := Lib.hid (RO1.out.kp hkp (by decide) (by decide) (by decide) (by decide))
                replace HQW := Lib.hid (hoth _ _ (by first | exact HNW1.out.symm | exact HNW2.out.symm) HQW.out)
                replace KTN := Lib.hid (hkp.blk _ _ _ KTN.out (by decide) (by decide) (by decide) (by decide))
                replace KCW := Lib.hid (hkp.blk _ _ _ KCW.out (by decide) (by decide) (by decide) (by decide))
                have RO2 := HRO2S
                replace HBW := Lib.hid (hbl _ _ HBW.out (Nat.le_refl _))
                clear hro hm hoth hkp hbl hHeld HCL HC2 HRO2S
                refine hK.out _ _ (KTN.out) (fun hHeld => ?_)
                clear hK K
                refine wpAnyH_ready (rs := [13]) (by kernel_rfl) (by simp) (AllReadyH.cons (o := { dst := none, op := Op.store 33 (Operand.tmp 15) (Operand.tmp 85), type := 0, pos := "outright.go:387", after := #[{ on := 11, ground := Ground.data }, { on := 5, ground := Ground.data }, { on := 10, ground := Ground.chain }, { on := 0, ground := Ground.phase }, { on := 1, ground := Ground.phase }, { on := 2, ground := Ground.phase }, { on := 3, ground := Ground.phase }, { on := 4, ground := Ground.phase }, { on := 5, ground := Ground.phase }, { on := 6, ground := Ground.textOnly Departure.lateStores }, { on := 7, ground := Ground.textOnly Departure.lateStores }, { on := 8, ground := Ground.textOnly Departure.lateStores }, { on := 9, ground := Ground.textOnly Departure.lateStores }, { on := 10, ground := Ground.textOnly Departure.lateStoresUnsure }, { on := 11, ground := Ground.phase }, { on := 12, ground := Ground.phase }], guard := none }) rfl (fun K hK => ?_) AllReadyH.nil)
                refine wp_store_row 33 (.tmp 15) (.tmp 85) rfl pa #[.int .i64 er1, .bool fo1, .string va1, .slice A1 pr1.length c1] rfl rfl 33 #[.int .i64 0, .bool false, .string ⟨#[]⟩, .slice none 0 0] KA.out (by kernel_rfl) rfl (by first | rfl | (simp [Value.oneCell']; done)) ?_
                replace HQ1 : Hid (MQ_ (Wp17.setRow pa #[.int .i64 er1, .bool fo1, .string va1, .slice A1 pr1.length c1]) _ _ _ _) := Lib.hid (HQ1.out.setRow KA.out (by decide) (by decide) (by decide) (by decide) (by decide))
                replace HQ2 : Hid (MQ_ (Wp17.setRow pa #[.int .i64 er1, .bool fo1, .string va1, .slice A1 pr1.length c1]) _ _ _ _) := Lib.hid (HQ2.out.setRow KA.out (by decide) (by decide) (by decide) (by decide) (by decide))
                replace KB : Hid (Blk (Wp17.setRow pa #[.int .i64 er1, .bool fo1, .string va1, .slice A1 pr1.length c1]) _ _ _) := Lib.hid (Blk.setRow KB.out HNAB.out.symm)
                replace RO1 := Lib.hid (ROwn.setRow (c2 := #[.int .i64 er1, .bool fo1, .string va1, .slice A1 pr1.length c1]) RO1.out KA.out (by decide))
                replace RO2 := Lib.hid (ROwn.setRow (c2 := #[.int .i64 er1, .bool fo1, .string va1, .slice A1 pr1.length c1]) RO2.out KA.out (by decide))
                replace HQW : Hid (MQ_ (Wp17.setRow pa #[.int .i64 er1, .bool fo1, .string va1, .slice A1 pr1.length c1]) _ _ _ _) := Lib.hid (HQW.out.setRow KA.out (by decide) (by decide) (by decide) (by decide) (by decide))
                replace KTN : Hid (Blk (Wp17.setRow pa #[.int .i64 er1, .bool fo1, .string va1, .slice A1 pr1.length c1]) _ _ _) := Lib.hid (Blk.setRow KTN.out (blk_neT KTN.out KA.out (by decide)))
                replace KCW : Hid (Blk (Wp17.setRow pa #[.int .i64 er1, .bool fo1, .string va1, .slice A1 pr1.length c1]) _ _ _) := Lib.hid (Blk.setRow KCW.out (blk_neT KCW.out KA.out (by decide)))
                replace HBW : Hid (Below w.heap.size w (Wp17.setRow pa #[.int .i64 er1, .bool fo1, .string va1, .slice A1 pr1.length c1])) := Lib.hid (below_setRow HBW.out HPKA.out _)
                replace KA : Hid (Blk (Wp17.setRow pa #[.int .i64 er1, .bool fo1, .string va1, .slice A1 pr1.length c1]) pa #[.int .i64 er1, .bool fo1, .string va1, .slice A1 pr1.length c1] 33) := Lib.hid (Blk.setRow_self KA.out)
                clear hHeld
                refine hK.out _ _ (KTN.out) (fun hHeld => ?_)
                clear hK K
                generalize Wp17.setRow pa #[.int .i64 er1, .bool fo1, .string va1, .slice A1 pr1.length c1] = Wp18 at *
                refine wpAnyH_ready (rs := [14]) (by kernel_rfl) (by simp) (AllReadyH.cons (o := { dst := none, op := Op.store 33 (Operand.tmp 16) (Operand.tmp 90), type := 0, pos := "outright.go:387", after := #[{ on := 12, ground := Ground.data }, { on := 10, ground := Ground.data }, { on := 13, ground := Ground.chain }, { on := 0, ground := Ground.phase }, { on := 1, ground := Ground.phase }, { on := 2, ground := Ground.phase }, { on := 3, ground := Ground.phase }, { on := 4, ground := Ground.phase }, { on := 5, ground := Ground.phase }, { on := 6, ground := Ground.phase }, { on := 7, ground := Ground.phase }, { on := 8, ground := Ground.phase }, { on := 9, ground := Ground.phase }, { on := 10, ground := Ground.phase }, { on := 11, ground := Ground.phase }, { on := 12, ground := Ground.phase }, { on := 13, ground := Ground.phase }], guard := none }) rfl (fun K hK => ?_) AllReadyH.nil)
                refine wp_store_row 33 (.tmp 16) (.tmp 90) rfl pb #[.int .i64 er1, .bool fo1, .string va1, .slice A2 pr1.length c2] rfl rfl 33 #[.int .i64 0, .bool false, .string ⟨#[]⟩, .slice none 0 0] KB.out (by kernel_rfl) rfl (by first | rfl | (simp [Value.oneCell']; done)) ?_
                replace HQ1 : Hid (MQ_ (Wp18.setRow pb #[.int .i64 er1, .bool fo1, .string va1, .slice A2 pr1.length c2]) _ _ _ _) := Lib.hid (HQ1.out.setRow KB.out (by decide) (by decide) (by decide) (by decide) (by decide))
                replace HQ2 : Hid (MQ_ (Wp18.setRow pb #[.int .i64 er1, .bool fo1, .string va1, .slice A2 pr1.length c2]) _ _ _ _) := Lib.hid (HQ2.out.setRow KB.out (by decide) (by decide) (by decide) (by decide) (by decide))
                replace KA : Hid (Blk (Wp18.setRow pb #[.int .i64 er1, .bool fo1, .string va1, .slice A2 pr1.length c2]) _ _ _) := Lib.hid (Blk.setRow KA.out HNAB.out)
                replace RO1 := Lib.hid (ROwn.setRow (c2 := #[.int .i64 er1, .bool fo1, .string va1, .slice A2 pr1.length c2]) RO1.out KB.out (by decide))
                replace RO2 := Lib.hid (ROwn.setRow (c2 := #[.int .i64 er1, .bool fo1, .string va1, .slice A2 pr1.length c2]) RO2.out KB.out (by decide))
                replace HQW : Hid (MQ_ (Wp18.setRow pb #[.int .i64 er1, .bool fo1, .string va1, .slice A2 pr1.length c2]) _ _ _ _) := Lib.hid (HQW.out.setRow KB.out (by decide) (by decide) (by decide) (by decide) (by decide))
                replace KTN : Hid (Blk (Wp18.setRow pb #[.int .i64 er1, .bool fo1, .string va1, .slice A2 pr1.length c2]) _ _ _) := Lib.hid (Blk.setRow KTN.out (blk_neT KTN.out KB.out (by decide)))
                replace KCW : Hid (Blk (Wp18.setRow pb #[.int .i64 er1, .bool fo1, .string va1, .slice A2 pr1.length c2]) _ _ _) := Lib.hid (Blk.setRow KCW.out (blk_neT KCW.out KB.out (by decide)))
                replace HBW : Hid (Below w.heap.size w (Wp18.setRow pb #[.int .i64 er1, .bool fo1, .string va1, .slice A2 pr1.length c2])) := Lib.hid (below_setRow HBW.out HPKB.out _)
                replace KB : Hid (Blk (Wp18.setRow pb #[.int .i64 er1, .bool fo1, .string va1, .slice A2 pr1.length c2]) pb #[.int .i64 er1, .bool fo1, .string va1, .slice A2 pr1.length c2] 33) := Lib.hid (Blk.setRow_self KB.out)
                clear hHeld
                refine hK.out _ _ (KTN.out) (fun hHeld => ?_)
                clear hK K
                generalize Wp18.setRow pb #[.int .i64 er1, .bool fo1, .string va1, .slice A2 pr1.length c2] = Wp19 at *
                refine wpAnyH_done (by kernel_rfl) (NoPanic.normal ?_) _
                clear hHeld
                go_wp2
                go_meet
                exact ⟨_, _, _, _, _, _, _, rfl, rfl, KA.out, KB.out, RO1.out, RO2.out, HQ1.out, HQ2.out, HQW.out, KTN.out, KCW.out, HBW.out⟩
            · go_simp
              have hb : Below Wp1.heap.size Wp1 (Wp1.alloc (.cells #[.int .i64 0, .bool false, .string ⟨#[]⟩, .slice none 0 0] 33)) := (Below.refl _ _).alloc (Nat.le_refl _) _
              replace HQ1 := Lib.hid (HQ1.out.later hb)
              replace HQ2 := Lib.hid (HQ2.out.later hb)
              replace RO1 := Lib.hid (RO1.out.later hb)
              replace HQW := Lib.hid (HQW.out.later hb)
              replace KTN := Lib.hid (KTN.out.later hb)
              replace KCW := Lib.hid (KCW.out.later hb)
              have KB : Hid (Blk (Wp1.alloc (.cells #[.int .i64 0, .bool false, .string ⟨#[]⟩, .slice none 0 0] 33)) Wp1.heap.size #[.int .i64 0, .bool false, .string ⟨#[]⟩, .slice none 0 0] 33) := Lib.hid (Blk.new Wp1 _ 33)
              have HPKB : Hid (w.heap.size ≤ Wp1.heap.size) := Lib.hid HBW.out.size
              replace HBW := Lib.hid (stepB HBW.out hb)
              clear hb hHeld
              refine hK.out _ _ (KTN.out) (fun hHeld => ?_)
              clear hK K
              generalize Wp1.alloc (.cells #[.int .i64 0, .bool false, .string ⟨#[]⟩, .slice none 0 0] 33) = Wp20 at *
              obtain ⟨pb, hpp⟩ : ∃ x, Wp1.heap.size = x := ⟨_, rfl⟩
              rw [hpp] at KB HPKB ⊢
              clear hpp
              refine wpAnyH_ready (rs := [10, 11]) (by kernel_rfl) (by simp) (AllReadyH.cons (o := { dst := some 90, op := Op.call { callee := Callee.value (Operand.func 18), args := #[Operand.tmp 86, Operand.tmp 87, Operand.tmp 89], argTypes := #[22, 3, 36] }, type := 33, pos := "outright.go:387", after := #[{ on := 6, ground := Ground.data }, { on := 7, ground := Ground.data }, { on := 9, ground := Ground.data }, { on := 5, ground := Ground.chain }], guard := none }) rfl (fun K hK => ?_) (AllReadyH.cons (o := { dst := some 15, op := Op.alloc 33, type := 0, pos := "outright.go:387", after := #[], guard := none }) rfl (fun K hK => ?_) AllReadyH.nil))
              · have HCL := Lib.hid (HC2.out Wp20 _ HQ2.out)
                go_simp
                refine HCL.out.mono ?_
                rintro e Wp21 ⟨A2, c2, rfl, hro, hm, hoth, hkp, hbl⟩
                have HRO2S := Lib.hid (hro.base HBW.out.size)
                replace HQ2 := Lib.hid hm
                replace HQ1 := Lib.hid (hoth _ _ HNE.out HQ1.out)
                replace KB := Lib.hid (hkp.blk _ _ _ KB.out (by decide) (by decide) (by decide) (by decide))
                replace RO1 := Lib.hid (RO1.out.kp hkp (by decide) (by decide) (by decide) (by decide))
                replace HQW := Lib.hid (hoth _ _ (by first | exact HNW1.out.symm | exact HNW2.out.symm) HQW.out)
                replace KTN := Lib.hid (hkp.blk _ _ _ KTN.out (by decide) (by decide) (by decide) (by decide))
                replace KCW := Lib.hid (hkp.blk _ _ _ KCW.out (by decide) (by decide) (by decide) (by decide))
                have RO2 := HRO2S
                replace HBW := Lib.hid (hbl _ _ HBW.out (Nat.le_refl _))
                clear hro hm hoth hkp hbl hHeld HCL HC2 HRO2S
                refine hK.out _ _ (KTN.out) (fun hHeld => ?_)
                clear hK K
                refine wpAnyH_ready (rs := [11]) (by kernel_rfl) (by simp) (AllReadyH.cons (o := { dst := some 15, op := Op.alloc 33, type := 0, pos := "outright.go:387", after := #[], guard := none }) rfl (fun K hK => ?_) AllReadyH.nil)
                go_simp
                have hb : Below Wp21.heap.size Wp21 (Wp21.alloc (.cells #[.int .i64 0, .bool false, .string ⟨#[]⟩, .slice none 0 0] 33)) := (Below.refl _ _).alloc (Nat.le_refl _) _
                have HNAB := Lib.hid (show Wp21.heap.size ≠ pb from by have := KB.out.lt; omega)
                replace HQ1 := Lib.hid (HQ1.out.later hb)
                replace HQ2 := Lib.hid (HQ2.out.later hb)
                replace KB := Lib.hid (KB.out.later hb)
                replace RO1 := Lib.hid (RO1.out.later hb)
                replace RO2 := Lib.hid (RO2.out.later hb)
                replace HQW := Lib.hid (HQW.out.later hb)
                replace KTN := Lib.hid (KTN.out.later hb)
                replace KCW := Lib.hid (KCW.out.later hb)
                have KA : Hid (Blk (Wp21.alloc (.cells #[.int .i64 0, .bool false, .string ⟨#[]⟩, .slice none 0 0] 33)) Wp21.heap.size #[.int .i64 0, .bool false, .string ⟨#[]⟩, .slice none 0 0] 33) := Lib.hid (Blk.new Wp21 _ 33)
                have HPKA : Hid (w.heap.size ≤ Wp21.heap.size) := Lib.hid HBW.out.size
                replace HBW := Lib.hid (stepB HBW.out hb)
                clear hb hHeld
                refine hK.out _ _ (KTN.out) (fun hHeld => ?_)
                clear hK K
                generalize Wp21.alloc (.cells #[.int .i64 0, .bool false, .string ⟨#[]⟩, .slice none 0 0] 33) = Wp22 at *
                obtain ⟨pa, hpp⟩ : ∃ x, Wp21.heap.size = x := ⟨_, rfl⟩
                rw [hpp] at KA HPKA HNAB ⊢
                clear hpp
                refine wpAnyH_ready (rs := [13]) (by kernel_rfl) (by simp) (AllReadyH.cons (o := { dst := none, op := Op.store 33 (Operand.tmp 15) (Operand.tmp 85), type := 0, pos := "outright.go:387", after := #[{ on := 11, ground := Ground.data }, { on := 5, ground := Ground.data }, { on := 10, ground := Ground.chain }, { on := 0, ground := Ground.phase }, { on := 1, ground := Ground.phase }, { on := 2, ground := Ground.phase }, { on := 3, ground := Ground.phase }, { on := 4, ground := Ground.phase }, { on := 5, ground := Ground.phase }, { on := 6, ground := Ground.textOnly Departure.lateStores }, { on := 7, ground := Ground.textOnly Departure.lateStores }, { on := 8, ground := Ground.textOnly Departure.lateStores }, { on := 9, ground := Ground.textOnly Departure.lateStores }, { on := 10, ground := Ground.textOnly Departure.lateStoresUnsure }, { on := 11, ground := Ground.phase }, { on := 12, ground := Ground.phase }], guard := none }) rfl (fun K hK => ?_) AllReadyH.nil)
                refine wp_store_row 33 (.tmp 15) (.tmp 85) rfl pa #[.int .i64 er1, .bool fo1, .string va1, .slice A1 pr1.length c1] rfl rfl 33 #[.int .i64 0, .bool false, .string ⟨#[]⟩, .slice none 0 0] KA.out (by kernel_rfl) rfl (by first | rfl | (simp [Value.oneCell']; done)) ?_
                replace HQ1 : Hid (MQ_ (Wp22.setRow pa #[.int .i64 er1, .bool fo1, .string va1, .slice A1 pr1.length c1]) _ _ _ _) := Lib.hid (HQ1.out.setRow KA.out (by decide) (by decide) (by decide) (by decide) (by decide))
                replace HQ2 : Hid (MQ_ (Wp22.setRow pa #[.int .i64 er1, .bool fo1, .string va1, .slice A1 pr1.length c1]) _ _ _ _) := Lib.hid (HQ2.out.setRow KA.out (by decide) (by decide) (by decide) (by decide) (by decide))
                replace KB : Hid (Blk (Wp22.setRow pa #[.int .i64 er1, .bool fo1, .string va1, .slice A1 pr1.length c1]) _ _ _) := Lib.hid (Blk.setRow KB.out HNAB.out.symm)
                replace RO1 := Lib.hid (ROwn.setRow (c2 := #[.int .i64 er1, .bool fo1, .string va1, .slice A1 pr1.length c1]) RO1.out KA.out (by decide))
                replace RO2 := Lib.hid (ROwn.setRow (c2 := #[.int .i64 er1, .bool fo1, .string va1, .slice A1 pr1.length c1]) RO2.out KA.out (by decide))
                replace HQW : Hid (MQ_ (Wp22.setRow pa #[.int .i64 er1, .bool fo1, .string va1, .slice A1 pr1.length c1]) _ _ _ _) := Lib.hid (HQW.out.setRow KA.out (by decide) (by decide) (by decide) (by decide) (by decide))
                replace KTN : Hid (Blk (Wp22.setRow pa #[.int .i64 er1, .bool fo1, .string va1, .slice A1 pr1.length c1]) _ _ _) := Lib.hid (Blk.setRow KTN.out (blk_neT KTN.out KA.out (by decide)))
                replace KCW : Hid (Blk (Wp22.setRow pa #[.int .i64 er1, .bool fo1, .string va1, .slice A1 pr1.length c1]) _ _ _) := Lib.hid (Blk.setRow KCW.out (blk_neT KCW.out KA.out (by decide)))
                replace HBW : Hid (Below w.heap.size w (Wp22.setRow pa #[.int .i64 er1, .bool fo1, .string va1, .slice A1 pr1.length c1])) := Lib.hid (below_setRow HBW.out HPKA.out _)
                replace KA : Hid (Blk (Wp22.setRow pa #[.int .i64 er1, .bool fo1, .string va1, .slice A1 pr1.length c1]) pa #[.int .i64 er1, .bool fo1, .string va1, .slice A1 pr1.length c1] 33) := Lib.hid (Blk.setRow_self KA.out)
                clear hHeld
                refine hK.out _ _ (KTN.out) (fun hHeld => ?_)
                clear hK K
                generalize Wp22.setRow pa #[.int .i64 er1, .bool fo1, .string va1, .slice A1 pr1.length c1] = Wp23 at *
                refine wpAnyH_ready (rs := [14]) (by kernel_rfl) (by simp) (AllReadyH.cons (o := { dst := none, op := Op.store 33 (Operand.tmp 16) (Operand.tmp 90), type := 0, pos := "outright.go:387", after := #[{ on := 12, ground := Ground.data }, { on := 10, ground := Ground.data }, { on := 13, ground := Ground.chain }, { on := 0, ground := Ground.phase }, { on := 1, ground := Ground.phase }, { on := 2, ground := Ground.phase }, { on := 3, ground := Ground.phase }, { on := 4, ground := Ground.phase }, { on := 5, ground := Ground.phase }, { on := 6, ground := Ground.phase }, { on := 7, ground := Ground.phase }, { on := 8, ground := Ground.phase }, { on := 9, ground := Ground.phase }, { on := 10, ground := Ground.phase }, { on := 11, ground := Ground.phase }, { on := 12, ground := Ground.phase }, { on := 13, ground := Ground.phase }], guard := none }) rfl (fun K hK => ?_) AllReadyH.nil)
                refine wp_store_row 33 (.tmp 16) (.tmp 90) rfl pb #[.int .i64 er1, .bool fo1, .string va1, .slice A2 pr1.length c2] rfl rfl 33 #[.int .i64 0, .bool false, .string ⟨#[]⟩, .slice none 0 0] KB.out (by kernel_rfl) rfl (by first | rfl | (simp [Value.oneCell']; done)) ?_
                replace HQ1 : Hid (MQ_ (Wp23.setRow pb #[.int .i64 er1, .bool fo1, .string va1, .slice A2 pr1.length c2]) _ _ _ _) := Lib.hid (HQ1.out.setRow KB.out (by decide) (by decide) (by decide) (by decide) (by decide))
                replace HQ2 : Hid (MQ_ (Wp23.setRow pb #[.int .i64 er1, .bool fo1, .string va1, .slice A2 pr1.length c2]) _ _ _ _) := Lib.hid (HQ2.out.setRow KB.out (by decide) (by decide) (by decide) (by decide) (by decide))
                replace KA : Hid (Blk (Wp23.setRow pb #[.int .i64 er1, .bool fo1, .string va1, .slice A2 pr1.length c2]) _ _ _) := Lib.hid (Blk.setRow KA.out HNAB.out)
                replace RO1 := Lib.hid (ROwn.setRow (c2 := #[.int .i64 er1, .bool fo1, .string va1, .slice A2 pr1.length c2]) RO1.out KB.out (by decide))
                replace RO2 := Lib.hid (ROwn.setRow (c2 := #[.int .i64 er1, .bool fo1, .string va1, .slice A2 pr1.length c2]) RO2.out KB.out (by decide))
                replace HQW : Hid (MQ_ (Wp23.setRow pb #[.int .i64 er1, .bool fo1, .string va1, .slice A2 pr1.length c2]) _ _ _ _) := Lib.hid (HQW.out.setRow KB.out (by decide) (by decide) (by decide) (by decide) (by decide))
                replace KTN : Hid (Blk (Wp23.setRow pb #[.int .i64 er1, .bool fo1, .string va1, .slice A2 pr1.length c2]) _ _ _) := Lib.hid (Blk.setRow KTN.out (blk_neT KTN.out KB.out (by decide)))
                replace KCW : Hid (Blk (Wp23.setRow pb #[.int .i64 er1, .bool fo1, .string va1, .slice A2 pr1.length c2]) _ _ _) := Lib.hid (Blk.setRow KCW.out (blk_neT KCW.out KB.out (by decide)))
                replace HBW : Hid (Below w.heap.size w (Wp23.setRow pb #[.int .i64 er1, .bool fo1, .string va1, .slice A2 pr1.length c2])) := Lib.hid (below_setRow HBW.out HPKB.out _)
                replace KB : Hid (Blk (Wp23.setRow pb #[.int .i64 er1, .bool fo1, .string va1, .slice A2 pr1.length c2]) pb #[.int .i64 er1, .bool fo1, .string va1, .slice A2 pr1.length c2] 33) := Lib.hid (Blk.setRow_self KB.out)
                clear hHeld
                refine hK.out _ _ (KTN.out) (fun hHeld => ?_)
                clear hK K
                generalize Wp23.setRow pb #[.int .i64 er1, .bool fo1, .string va1, .slice A2 pr1.length c2] = Wp24 at *
                refine wpAnyH_done (by kernel_rfl) (NoPanic.normal ?_) _
                clear hHeld
                go_wp2
                go_meet
                exact ⟨_, _, _, _, _, _, _, rfl, rfl, KA.out, KB.out, RO1.out, RO2.out, HQ1.out, HQ2.out, HQW.out, KTN.out, KCW.out, HBW.out⟩
              · go_simp
                have hb : Below Wp20.heap.size Wp20 (Wp20.alloc (.cells #[.int .i64 0, .bool false, .string ⟨#[]⟩, .slice none 0 0] 33)) := (Below.refl _ _).alloc (Nat.le_refl _) _
                have HNAB := Lib.hid (show Wp20.heap.size ≠ pb from by have := KB.out.lt; omega)
                replace HQ1 := Lib.hid (HQ1.out.later hb)
                replace HQ2 := Lib.hid (HQ2.out.later hb)
                replace KB := Lib.hid (KB.out.later hb)
                replace RO1 := Lib.hid (RO1.out.later hb)
                replace HQW := Lib.hid (HQW.out.later hb)
                replace KTN := Lib.hid (KTN.out.later hb)
                replace KCW := Lib.hid (KCW.out.later hb)
                have KA : Hid (Blk (Wp20.alloc (.cells #[.int .i64 0, .bool false, .string ⟨#[]⟩, .slice none 0 0] 33)) Wp20.heap.size #[.int .i64 0, .bool false, .string ⟨#[]⟩, .slice none 0 0] 33) := Lib.hid (Blk.new Wp20 _ 33)
                have HPKA : Hid (w.heap.size ≤ Wp20.heap.size) := Lib.hid HBW.out.size
                replace HBW := Lib.hid (stepB HBW.out hb)
                clear hb hHeld
                refine hK.out _ _ (KTN.out) (fun hHeld => ?_)
                clear hK K
                generalize Wp20.alloc (.cells #[.int .i64 0, .bool false, .string ⟨#[]⟩, .slice none 0 0] 33) = Wp25 at *
                obtain ⟨pa, hpp⟩ : ∃ x, Wp20.heap.size = x := ⟨_, rfl⟩
                rw [hpp] at KA HPKA HNAB ⊢
                clear hpp
                refine wpAnyH_ready (rs := [10]) (by kernel_rfl) (by simp) (AllReadyH.cons (o := { dst := some 90, op := Op.call { callee := Callee.value (Operand.func 18), args := #[Operand.tmp 86, Operand.tmp 87, Operand.tmp 89], argTypes := #[22, 3, 36] }, type := 33, pos := "outright.go:387", after := #[{ on := 6, ground := Ground.data }, { on := 7, ground := Ground.data }, { on := 9, ground := Ground.data }, { on := 5, ground := Ground.chain }], guard := none }) rfl (fun K hK => ?_) AllReadyH.nil)
                have HCL := Lib.hid (HC2.out Wp25 _ HQ2.out)
                go_simp
                refine HCL.out.mono ?_
                rintro e Wp26 ⟨A2, c2, rfl, hro, hm, hoth, hkp, hbl⟩
                have HRO2S := Lib.hid (hro.base HBW.out.size)
                replace HQ2 := Lib.hid hm
                replace HQ1 := Lib.hid (hoth _ _ HNE.out HQ1.out)
                replace KA := Lib.hid (hkp.blk _ _ _ KA.out (by decide) (by decide) (by decide) (by decide))
                replace KB := Lib.hid (hkp.blk _ _ _ KB.out (by decide) (by decide) (by decide) (by decide))
                replace RO1 := Lib.hid (RO1.out.kp hkp (by decide) (by decide) (by decide) (by decide))
                replace HQW := Lib.hid (hoth _ _ (by first | exact HNW1.out.symm | exact HNW2.out.symm) HQW.out)
                replace KTN := Lib.hid (hkp.blk _ _ _ KTN.out (by decide) (by decide) (by decide) (by decide))
                replace KCW := Lib.hid (hkp.blk _ _ _ KCW.out (by decide) (by decide) (by decide) (by decide))
                have RO2 := HRO2S
                replace HBW := Lib.hid (hbl _ _ HBW.out (Nat.le_refl _))
                clear hro hm hoth hkp hbl hHeld HCL HC2 HRO2S
                refine hK.out _ _ (KTN.out) (fun hHeld => ?_)
                clear hK K
                refine wpAnyH_ready (rs := [13]) (by kernel_rfl) (by simp) (AllReadyH.cons (o := { dst := none, op := Op.store 33 (Operand.tmp 15) (Operand.tmp 85), type := 0, pos := "outright.go:387", after := #[{ on := 11, ground := Ground.data }, { on := 5, ground := Ground.data }, { on := 10, ground := Ground.chain }, { on := 0, ground := Ground.phase }, { on := 1, ground := Ground.phase }, { on := 2, ground := Ground.phase }, { on := 3, ground := Ground.phase }, { on := 4, ground := Ground.phase }, { on := 5, ground := Ground.phase }, { on := 6, ground := Ground.textOnly Departure.lateStores }, { on := 7, ground := Ground.textOnly Departure.lateStores }, { on := 8, ground := Ground.textOnly Departure.lateStores }, { on := 9, ground := Ground.textOnly Departure.lateStores }, { on := 10, ground := Ground.textOnly Departure.lateStoresUnsure }, { on := 11, ground := Ground.phase }, { on := 12, ground := Ground.phase }], guard := none }) rfl (fun K hK => ?_) AllReadyH.nil)
                refine wp_store_row 33 (.tmp 15) (.tmp 85) rfl pa #[.int .i64 er1, .bool fo1, .string va1, .slice A1 pr1.length c1] rfl rfl 33 #[.int .i64 0, .bool false, .string ⟨#[]⟩, .slice none 0 0] KA.out (by kernel_rfl) rfl (by first | rfl | (simp [Value.oneCell']; done)) ?_
                replace HQ1 : Hid (MQ_ (Wp26.setRow pa #[.int .i64 er1, .bool fo1, .string va1, .slice A1 pr1.length c1]) _ _ _ _) := Lib.hid (HQ1.out.setRow KA.out (by decide) (by decide) (by decide) (by decide) (by decide))
                replace HQ2 : Hid (MQ_ (Wp26.setRow pa #[.int .i64 er1, .bool fo1, .string va1, .slice A1 pr1.length c1]) _ _ _ _) := Lib.hid (HQ2.out.setRow KA.out (by decide) (by decide) (by decide) (by decide) (by decide))
                replace KB : Hid (Blk (Wp26.setRow pa #[.int .i64 er1, .bool fo1, .string va1, .slice A1 pr1.length c1]) _ _ _) := Lib.hid (Blk.setRow KB.out HNAB.out.symm)
                replace RO1 := Lib.hid (ROwn.setRow (c2 := #[.int .i64 er1, .bool fo1, .string va1, .slice A1 pr1.length c1]) RO1.out KA.out (by decide))
                replace RO2 := Lib.hid (ROwn.setRow (c2 := #[.int .i64 er1, .bool fo1, .string va1, .slice A1 pr1.length c1]) RO2.out KA.out (by decide))
                replace HQW : Hid (MQ_ (Wp26.setRow pa #[.int .i64 er1, .bool fo1, .string va1, .slice A1 pr1.length c1]) _ _ _ _) := Lib.hid (HQW.out.setRow KA.out (by decide) (by decide) (by decide) (by decide) (by decide))
                replace KTN : Hid (Blk (Wp26.setRow pa #[.int .i64 er1, .bool fo1, .string va1, .slice A1 pr1.length c1]) _ _ _) := Lib.hid (Blk.setRow KTN.out (blk_neT KTN.out KA.out (by decide)))
                replace KCW : Hid (Blk (Wp26.setRow pa #[.int .i64 er1, .bool fo1, .string va1, .slice A1 pr1.length c1]) _ _ _) := Lib.hid (Blk.setRow KCW.out (blk_neT KCW.out KA.out (by decide)))
                replace HBW : Hid (Below w.heap.size w (Wp26.setRow pa #[.int .i64 er1, .bool fo1, .string va1, .slice A1 pr1.length c1])) := Lib.hid (below_setRow HBW.out HPKA.out _)
                replace KA : Hid (Blk (Wp26.setRow pa #[.int .i64 er1, .bool fo1, .string va1, .slice A1 pr1.length c1]) pa #[.int .i64 er1, .bool fo1, .string va1, .slice A1 pr1.length c1] 33) := Lib.hid (Blk.setRow_self KA.out)
                clear hHeld
                refine hK.out _ _ (KTN.out) (fun hHeld => ?_)
                clear hK K
                generalize Wp26.setRow pa #[.int .i64 er1, .bool fo1, .string va1, .slice A1 pr1.length c1] = Wp27 at *
                refine wpAnyH_ready (rs := [14]) (by kernel_rfl) (by simp) (AllReadyH.cons (o := { dst := none, op := Op.store 33 (Operand.tmp 16) (Operand.tmp 90), type := 0, pos := "outright.go:387", after := #[{ on := 12, ground := Ground.data }, { on := 10, ground := Ground.data }, { on := 13, ground := Ground.chain }, { on := 0, ground := Ground.phase }, { on := 1, ground := Ground.phase }, { on := 2, ground := Ground.phase }, { on := 3, ground := Ground.phase }, { on := 4, ground := Ground.phase }, { on := 5, ground := Ground.phase }, { on := 6, ground := Ground.phase }, { on := 7, ground := Ground.phase }, { on := 8, ground := Ground.phase }, { on := 9, ground := Ground.phase }, { on := 10, ground := Ground.phase }, { on := 11, ground := Ground.phase }, { on := 12, ground := Ground.phase }, { on := 13, ground := Ground.phase }], guard := none }) rfl (fun K hK => ?_) AllReadyH.nil)
                refine wp_store_row 33 (.tmp 16) (.tmp 90) rfl pb #[.int .i64 er1, .bool fo1, .string va1, .slice A2 pr1.length c2] rfl rfl 33 #[.int .i64 0, .bool false, .string ⟨#[]⟩, .slice none 0 0] KB.out (by kernel_rfl) rfl (by first | rfl | (simp [Value.oneCell']; done)) ?_
                replace HQ1 : Hid (MQ_ (Wp27.setRow pb #[.int .i64 er1, .bool fo1, .string va1, .slice A2 pr1.length c2]) _ _ _ _) := Lib.hid (HQ1.out.setRow KB.out (by decide) (by decide) (by decide) (by decide) (by decide))
                replace HQ2 : Hid (MQ_ (Wp27.setRow pb #[.int .i64 er1, .bool fo1, .string va1, .slice A2 pr1.length c2]) _ _ _ _) := Lib.hid (HQ2.out.setRow KB.out (by decide) (by decide) (by decide) (by decide) (by decide))
                replace KA : Hid (Blk (Wp27.setRow pb #[.int .i64 er1, .bool fo1, .string va1, .slice A2 pr1.length c2]) _ _ _) := Lib.hid (Blk.setRow KA.out HNAB.out)
                replace RO1 := Lib.hid (ROwn.setRow (c2 := #[.int .i64 er1, .bool fo1, .string va1, .slice A2 pr1.length c2]) RO1.out KB.out (by decide))
                replace RO2 := Lib.hid (ROwn.setRow (c2 := #[.int .i64 er1, .bool fo1, .string va1, .slice A2 pr1.length c2]) RO2.out KB.out (by decide))
                replace HQW : Hid (MQ_ (Wp27.setRow pb #[.int .i64 er1, .bool fo1, .string va1, .slice A2 pr1.length c2]) _ _ _ _) := Lib.hid (HQW.out.setRow KB.out (by decide) (by decide) (by decide) (by decide) (by decide))
                replace KTN : Hid (Blk (Wp27.setRow pb #[.int .i64 er1, .bool fo1, .string va1, .slice A2 pr1.length c2]) _ _ _) := Lib.hid (Blk.setRow KTN.out (blk_neT KTN.out KB.out (by decide)))
                replace KCW : Hid (Blk (Wp27.setRow pb #[.int .i64 er1, .bool fo1, .string va1, .slice A2 pr1.length c2]) _ _ _) := Lib.hid (Blk.setRow KCW.out (blk_neT KCW.out KB.out (by decide)))
                replace HBW : Hid (Below w.heap.size w (Wp27.setRow pb #[.int .i64 er1, .bool fo1, .string va1, .slice A2 pr1.length c2])) := Lib.hid (below_setRow HBW.out HPKB.out _)
                replace KB : Hid (Blk (Wp27.setRow pb #[.int .i64 er1, .bool fo1, .string va1, .slice A2 pr1.length c2]) pb #[.int .i64 er1, .bool fo1, .string va1, .slice A2 pr1.length c2] 33) := Lib.hid (Blk.setRow_self KB.out)
                clear hHeld
                refine hK.out _ _ (KTN.out) (fun hHeld => ?_)
                clear hK K
                generalize Wp27.setRow pb #[.int .i64 er1, .bool fo1, .string va1, .slice A2 pr1.length c2] = Wp28 at *
                refine wpAnyH_done (by kernel_rfl) (NoPanic.normal ?_) _
                clear hHeld
                go_wp2
                go_meet
                exact ⟨_, _, _, _, _, _, _, rfl, rfl, KA.out, KB.out, RO1.out, RO2.out, HQ1.out, HQ2.out, HQW.out, KTN.out, KCW.out, HBW.out⟩
          · go_simp
            have hb : Below Wd.heap.size Wd (Wd.alloc (.cells #[.int .i64 0, .bool false, .string ⟨#[]⟩, .slice none 0 0] 33)) := (Below.refl _ _).alloc (Nat.le_refl _) _
            replace HQ1 := Lib.hid (HQ1.out.later hb)
            replace HQ2 := Lib.hid (HQ2.out.later hb)
            replace HQW := Lib.hid (HQW.out.later hb)
            replace KTN := Lib.hid (KTN.out.later hb)
            replace KCW := Lib.hid (KCW.out.later hb)
            have KA : Hid (Blk (Wd.alloc (.cells #[.int .i64 0, .bool false, .string ⟨#[]⟩, .slice none 0 0] 33)) Wd.heap.size #[.int .i64 0, .bool false, .string ⟨#[]⟩, .slice none 0 0] 33) := Lib.hid (Blk.new Wd _ 33)
            have HPKA : Hid (w.heap.size ≤ Wd.heap.size) := Lib.hid HBW.out.size
            replace HBW := Lib.hid (stepB HBW.out hb)
            clear hb hHeld
            refine hK.out _ _ (KTN.out) (fun hHeld => ?_)
            clear hK K
            generalize Wd.alloc (.cells #[.int .i64 0, .bool false, .string ⟨#[]⟩, .slice none 0 0] 33) = Wp29 at *
            obtain ⟨pa, hpp⟩ : ∃ x, Wd.heap.size = x := ⟨_, rfl⟩
            rw [hpp] at KA HPKA ⊢
            clear hpp
            refine wpAnyH_ready (rs := [5, 12]) (by kernel_rfl) (by simp) (AllReadyH.cons (o := { dst := some 85, op := Op.call { callee := Callee.value (Operand.func 18), args := #[Operand.tmp 80, Operand.tmp 82, Operand.tmp 84], argTypes := #[22, 3, 36] }, type := 33, pos := "outright.go:387", after := #[{ on := 0, ground := Ground.data }, { on := 2, ground := Ground.data }, { on := 4, ground := Ground.data }], guard := none }) rfl (fun K hK => ?_) (AllReadyH.cons (o := { dst := some 16, op := Op.alloc 33, type := 0, pos := "outright.go:387", after := #[], guard := none }) rfl (fun K hK => ?_) AllReadyH.nil))
            · have HCL := Lib.hid (HC1.out Wp29 _ HQ1.out)
              go_simp
              refine HCL.out.mono ?_
              rintro e Wp30 ⟨A1, c1, rfl, hro, hm, hoth, hkp, hbl⟩
              have HRO1S := Lib.hid (hro.base HBW.out.size)
              replace HQ1 := Lib.hid hm
              replace HQ2 := Lib.hid (hoth _ _ HNE.out.symm HQ2.out)
              replace KA := Lib.hid (hkp.blk _ _ _ KA.out (by decide) (by decide) (by decide) (by decide))
              replace HQW := Lib.hid (hoth _ _ (by first | exact HNW1.out.symm | exact HNW2.out.symm) HQW.out)
              replace KTN := Lib.hid (hkp.blk _ _ _ KTN.out (by decide) (by decide) (by decide) (by decide))
              replace KCW := Lib.hid (hkp.blk _ _ _ KCW.out (by decide) (by decide) (by decide) (by decide))
              have RO1 := HRO1S
              replace HBW := Lib.hid (hbl _ _ HBW.out (Nat.le_refl _))
              clear hro hm hoth hkp hbl hHeld HCL HC1 HRO1S
              refine hK.out _ _ (KTN.out) (fun hHeld => ?_)
              clear hK K
              refine wpAnyH_ready (rs := [10, 12]) (by kernel_rfl) (by simp) (AllReadyH.cons (o := { dst := some 90, op := Op.call { callee := Callee.value (Operand.func 18), args := #[Operand.tmp 86, Operand.tmp 87, Operand.tmp 89], argTypes := #[22, 3, 36] }, type := 33, pos := "outright.go:387", after := #[{ on := 6, ground := Ground.data }, { on := 7, ground := Ground.data }, { on := 9, ground := Ground.data }, { on := 5, ground := Ground.chain }], guard := none }) rfl (fun K hK => ?_) (AllReadyH.cons (o := { dst := some 16, op := Op.alloc 33, type := 0, pos := "outright.go:387", after := #[], guard := none }) rfl (fun K hK => ?_) AllReadyH.nil))
              · have HCL := Lib.hid (HC2.out Wp30 _ HQ2.out)
                go_simp
                refine HCL.out.mono ?_
                rintro e Wp31 ⟨A2, c2, rfl, hro, hm, hoth, hkp, hbl⟩
                have HRO2S := Lib.hid (hro.base HBW.out.size)
                replace HQ2 := Lib.hid hm
                replace HQ1 := Lib.hid (hoth _ _ HNE.out HQ1.out)
                replace KA := Lib.hid (hkp.blk _ _ _ KA.out (by decide) (by decide) (by decide) (by decide))
                replace RO1 := Lib.hid (RO1.out.kp hkp (by decide) (by decide) (by decide) (by decide))
                replace HQW := Lib.hid (hoth _ _ (by first | exact HNW1.out.symm | exact HNW2.out.symm) HQW.out)
                replace KTN := Lib.hid (hkp.blk _ _ _ KTN.out (by decide) (by decide) (by decide) (by decide))
                replace KCW := Lib.hid (hkp.blk _ _ _ KCW.out (by decide) (by decide) (by decide) (by decide))
                have RO2 := HRO2S
                replace HBW := Lib.hid (hbl _ _ HBW.out (Nat.le_refl _))
                clear hro hm hoth hkp hbl hHeld HCL HC2 HRO2S
                refine hK.out _ _ (KTN.out) (fun hHeld => ?_)
                clear hK K
                refine wpAnyH_ready (rs := [12]) (by kernel_rfl) (by simp) (AllReadyH.cons (o := { dst := some 16, op := Op.alloc 33, type := 0, pos := "outright.go:387", after := #[], guard := none }) rfl (fun K hK => ?_) AllReadyH.nil)
                go_simp
                have hb : Below Wp31.heap.size Wp31 (Wp31.alloc (.cells #[.int .i64 0, .bool false, .string ⟨#[]⟩, .slice none 0 0] 33)) := (Below.refl _ _).alloc (Nat.le_refl _) _
                have HNAB := Lib.hid (show pa ≠ Wp31.heap.size from by have := KA.out.lt; omega)
                replace HQ1 := Lib.hid (HQ1.out.later hb)
                replace HQ2 := Lib.hid (HQ2.out.later hb)
                replace KA := Lib.hid (KA.out.later hb)
                replace RO1 := Lib.hid (RO1.out.later hb)
                replace RO2 := Lib.hid (RO2.out.later hb)
                replace HQW := Lib.hid (HQW.out.later hb)
                replace KTN := Lib.hid (KTN.out.later hb)
                replace KCW := Lib.hid (KCW.out.later hb)
                have KB : Hid (Blk (Wp31.alloc (.cells #[.int .i64 0, .bool false, .string ⟨#[]⟩, .slice none 0 0] 33)) Wp31.heap.size #[.int .i64 0, .bool false, .string ⟨#[]⟩, .slice none 0 0] 33) := Lib.hid (Blk.new Wp31 _ 33)
                have HPKB : Hid (w.heap.size ≤ Wp31.heap.size) := Lib.hid HBW.out.size
                replace HBW := Lib.hid (stepB HBW.out hb)
                clear hb hHeld
                refine hK.out _ _ (KTN.out) (fun hHeld => ?_)
                clear hK K
                generalize Wp31.alloc (.cells #[.int .i64 0, .bool false, .string ⟨#[]⟩, .slice none 0 0] 33) = Wp32 at *
                obtain ⟨pb, hpp⟩ : ∃ x, Wp31.heap.size = x := ⟨_, rfl⟩
                rw [hpp] at KB HPKB HNAB ⊢
                clear hpp
                refine wpAnyH_ready (rs := [13]) (by kernel_rfl) (by simp) (AllReadyH.cons (o := { dst := none, op := Op.store 33 (Operand.tmp 15) (Operand.tmp 85), type := 0, pos := "outright.go:387", after := #[{ on := 11, ground := Ground.data }, { on := 5, ground := Ground.data }, { on := 10, ground := Ground.chain }, { on := 0, ground := Ground.phase }, { on := 1, ground := Ground.phase }, { on := 2, ground := Ground.phase }, { on := 3, ground := Ground.phase }, { on := 4, ground := Ground.phase }, { on := 5, ground := Ground.phase }, { on := 6, ground := Ground.textOnly Departure.lateStores }, { on := 7, ground := Ground.textOnly Departure.lateStores }, { on := 8, ground := Ground.textOnly Departure.lateStores }, { on := 9, ground := Ground.textOnly Departure.lateStores }, { on := 10, ground := Ground.textOnly Departure.lateStoresUnsure }, { on := 11, ground := Ground.phase }, { on := 12, ground := Ground.phase }], guard := none }) rfl (fun K hK => ?_) AllReadyH.nil)
                refine wp_store_row 33 (.tmp 15) (.tmp 85) rfl pa #[.int .i64 er1, .bool fo1, .string va1, .slice A1 pr1.length c1] rfl rfl 33 #[.int .i64 0, .bool false, .string ⟨#[]⟩, .slice none 0 0] KA.out (by kernel_rfl) rfl (by first | rfl | (simp [Value.oneCell']; done)) ?_
                replace HQ1 : Hid (MQ_ (Wp32.setRow pa #[.int .i64 er1, .bool fo1, .string va1, .slice A1 pr1.length c1]) _ _ _ _) := Lib.hid (HQ1.out.setRow KA.out (by decide) (by decide) (by decide) (by decide) (by decide))
                replace HQ2 : Hid (MQ_ (Wp32.setRow pa #[.int .i64 er1, .bool fo1, .string va1, .slice A1 pr1.length c1]) _ _ _ _) := Lib.hid (HQ2.out.setRow KA.out (by decide) (by decide) (by decide) (by decide) (by decide))
                replace KB : Hid (Blk (Wp32.setRow pa #[.int .i64 er1, .bool fo1, .string va1, .slice A1 pr1.length c1]) _ _ _) := Lib.hid (Blk.setRow KB.out HNAB.out.symm)
                replace RO1 := Lib.hid (ROwn.setRow (c2 := #[.int .i64 er1, .bool fo1, .string va1, .slice A1 pr1.length c1]) RO1.out KA.out (by decide))
                replace RO2 := Lib.hid (ROwn.setRow (c2 := #[.int .i64 er1, .bool fo1, .string va1, .slice A1 pr1.length c1]) RO2.out KA.out (by decide))
                replace HQW : Hid (MQ_ (Wp32.setRow pa #[.int .i64 er1, .bool fo1, .string va1, .slice A1 pr1.length c1]) _ _ _ _) := Lib.hid (HQW.out.setRow KA.out (by decide) (by decide) (by decide) (by decide) (by decide))
                replace KTN : Hid (Blk (Wp32.setRow pa #[.int .i64 er1, .bool fo1, .string va1, .slice A1 pr1.length c1]) _ _ _) := Lib.hid (Blk.setRow KTN.out (blk_neT KTN.out KA.out (by decide)))
                replace KCW : Hid (Blk (Wp32.setRow pa #[.int .i64 er1, .bool fo1, .string va1, .slice A1 pr1.length c1]) _ _ _) := Lib.hid (Blk.setRow KCW.out (blk_neT KCW.out KA.out (by decide)))
                replace HBW : Hid (Below w.heap.size w (Wp32.setRow pa #[.int .i64 er1, .bool fo1, .string va1, .slice A1 pr1.length c1])) := Lib.hid (below_setRow HBW.out HPKA.out _)
                replace KA : Hid (Blk (Wp32.setRow pa #[.int .i64 er1, .bool fo1, .string va1, .slice A1 pr1.length c1]) pa #[.int .i64 er1, .bool fo1, .string va1, .slice A1 pr1.length c1] 33) := Lib.hid (Blk.setRow_self KA.out)
                clear hHeld
                refine hK.out _ _ (KTN.out) (fun hHeld => ?_)
                clear hK K
                generalize Wp32.setRow pa #[.int .i64 er1, .bool fo1, .string va1, .slice A1 pr1.length c1] = Wp33 at *
                refine wpAnyH_ready (rs := [14]) (by kernel_rfl) (by simp) (AllReadyH.cons (o := { dst := none, op := Op.store 33 (Operand.tmp 16) (Operand.tmp 90), type := 0, pos := "outright.go:387", after := #[{ on := 12, ground := Ground.data }, { on := 10, ground := Ground.data }, { on := 13, ground := Ground.chain }, { on := 0, ground := Ground.phase }, { on := 1, ground := Ground.phase }, { on := 2, ground := Ground.phase }, { on := 3, ground := Ground.phase }, { on := 4, ground := Ground.phase }, { on := 5, ground := Ground.phase }, { on := 6, ground := Ground.phase }, { on := 7, ground := Ground.phase }, { on := 8, ground := Ground.phase }, { on := 9, ground := Ground.phase }, { on := 10, ground := Ground.phase }, { on := 11, ground := Ground.phase }, { on := 12, ground := Ground.phase }, { on := 13, ground := Ground.phase }], guard := none }) rfl (fun K hK => ?_) AllReadyH.nil)
                refine wp_store_row 33 (.tmp 16) (.tmp 90) rfl pb #[.int .i64 er1, .bool fo1, .string va1, .slice A2 pr1.length c2] rfl rfl 33 #[.int .i64 0, .bool false, .string ⟨#[]⟩, .slice none 0 0] KB.out (by kernel_rfl) rfl (by first | rfl | (simp [Value.oneCell']; done)) ?_
                replace HQ1 : Hid (MQ_ (Wp33.setRow pb #[.int .i64 er1, .bool fo1, .string va1, .slice A2 pr1.length c2]) _ _ _ _) := Lib.hid (HQ1.out.setRow KB.out (by decide) (by decide) (by decide) (by decide) (by decide))
                replace HQ2 : Hid (MQ_ (Wp33.setRow pb #[.int .i64 er1, .bool fo1, .string va1, .slice A2 pr1.length c2]) _ _ _ _) := Lib.hid (HQ2.out.setRow KB.out (by decide) (by decide) (by decide) (by decide) (by decide))
                replace KA : Hid (Blk (Wp33.setRow pb #[.int .i64 er1, .bool fo1, .string va1, .slice A2 pr1.length c2]) _ _ _) := Lib.hid (Blk.setRow KA.out HNAB.out)
                replace RO1 := Lib.hid (ROwn.setRow (c2 := #[.int .i64 er1, .bool fo1, .string va1, .slice A2 pr1.length c2]) RO1.out KB.out (by decide))
                replace RO2 := Lib.hid (ROwn.setRow (c2 := #[.int .i64 er1, .bool fo1, .string va1, .slice A2 pr1.length c2]) RO2.out KB.out (by decide))
                replace HQW : Hid (MQ_ (Wp33.setRow pb #[.int .i64 er1, .bool fo1, .string va1, .slice A2 pr1.length c2]) _ _ _ _) := Lib.hid (HQW.out.setRow KB.out (by decide) (by decide) (by decide) (by decide) (by decide))
                replace KTN : Hid (Blk (Wp33.setRow pb #[.int .i64 er1, .bool fo1, .string va1, .slice A2 pr1.length c2]) _ _ _) := Lib.hid (Blk.setRow KTN.out (blk_neT KTN.out KB.out (by decide)))
                replace KCW : Hid (Blk (Wp33.setRow pb #[.int .i64 er1, .bool fo1, .string va1, .slice A2 pr1.length c2]) _ _ _) := Lib.hid (Blk.setRow KCW.out (blk_neT KCW.out KB.out (by decide)))
                replace HBW : Hid (Below w.heap.size w (Wp33.setRow pb #[.int .i64 er1, .bool fo1, .string va1, .slice A2 pr1.length c2])) := Lib.hid (below_setRow HBW.out HPKB.out _)
                replace KB : Hid (Blk (Wp33.setRow pb #[.int .i64 er1, .bool fo1, .string va1, .slice A2 pr1.length c2]) pb #[.int .i64 er1, .bool fo1, .string va1, .slice A2 pr1.length c2] 33) := Lib.hid (Blk.setRow_self KB.out)
                clear hHeld
                refine hK.out _ _ (KTN.out) (fun hHeld => ?_)
                clear hK K
                generalize Wp33.setRow pb #[.int .i64 er1, .bool fo1, .string va1, .slice A2 pr1.length c2] = Wp34 at *
                refine wpAnyH_done (by kernel_rfl) (NoPanic.normal ?_) _
                clear hHeld
                go_wp2
                go_meet
                exact ⟨_, _, _, _, _, _, _, rfl, rfl, KA.out, KB.out, RO1.out, RO2.out, HQ1.out, HQ2.out, HQW.out, KTN.out, KCW.out, HBW.out⟩
              · go_simp
                have hb : Below Wp30.heap.size Wp30 (Wp30.alloc (.cells #[.int .i64 0, .bool false, .string ⟨#[]⟩, .slice none 0 0] 33)) := (Below.refl _ _).alloc (Nat.le_refl _) _
                have HNAB := Lib.hid (show pa ≠ Wp30.heap.size from by have := KA.out.lt; omega)
                replace HQ1 := Lib.hid (HQ1.out.later hb)
                replace HQ2 := Lib.hid (HQ2.out.later hb)
                replace KA := Lib.hid (KA.out.later hb)
                replace RO1 := Lib.hid (RO1.out.later hb)
                replace HQW := Lib.hid (HQW.out.later hb)
                replace KTN := Lib.hid (KTN.out.later hb)
                replace KCW := Lib.hid (KCW.out.later hb)
                have KB : Hid (Blk (Wp30.alloc (.cells #[.int .i64 0, .bool false, .string ⟨#[]⟩, .slice none 0 0] 33)) Wp30.heap.size #[.int .i64 0, .bool false, .string ⟨#[]⟩, .slice none 0 0] 33) := Lib.hid (Blk.new Wp30 _ 33)
                have HPKB : Hid (w.heap.size ≤ Wp30.heap.size) := Lib.hid HBW.out.size
                replace HBW := Lib.hid (stepB HBW.out hb)
                clear hb hHeld
                refine hK.out _ _ (KTN.out) (fun hHeld => ?_)
                clear hK K
                generalize Wp30.alloc (.cells #[.int .i64 0, .bool false, .string ⟨#[]⟩, .slice none 0 0] 33) = Wp35 at *
                obtain ⟨pb, hpp⟩ : ∃ x, Wp30.heap.size = x := ⟨_, rfl⟩
                rw [hpp] at KB HPKB HNAB ⊢
                clear hpp
                refine wpAnyH_ready (rs := [10]) (by kernel_rfl) (by simp) (AllReadyH.cons (o := { dst := some 90, op := Op.call { callee := Callee.value (Operand.func 18), args := #[Operand.tmp 86, Operand.tmp 87, Operand.tmp 89], argTypes := #[22, 3, 36] }, type := 33, pos := "outright.go:387", after := #[{ on := 6, ground := Ground.data }, { on := 7, ground := Ground.data }, { on := 9, ground := Ground.data }, { on := 5, ground := Ground.chain }], guard := none }) rfl (fun K hK => ?_) AllReadyH.nil)
                have HCL := Lib.hid (HC2.out Wp35 _ HQ2.out)
                go_simp
                refine HCL.out.mono ?_
                rintro e Wp36 ⟨A2, c2, rfl, hro, hm, hoth, hkp, hbl⟩
                have HRO2S := Lib.hid (hro.base HBW.out.size)
                replace HQ2 := Lib.hid hm
                replace HQ1 := Lib.hid (hoth _ _ HNE.out HQ1.out)
                replace KA := Lib.hid (hkp.blk _ _ _ KA.out (by decide) (by decide) (by decide) (by decide))
                replace KB := Lib.hid (hkp.blk _ _ _ KB.out (by decide) (by decide) (by decide) (by decide))
                replace RO1 := Lib.hid (RO1.out.kp hkp (by decide) (by decide) (by decide) (by decide))
                replace HQW := Lib.hid (hoth _ _ (by first | exact HNW1.out.symm | exact HNW2.out.symm) HQW.out)
                replace KTN := Lib.hid (hkp.blk _ _ _ KTN.out (by decide) (by decide) (by decide) (by decide))
                replace KCW := Lib.hid (hkp.blk _ _ _ KCW.out (by decide) (by decide) (by decide) (by decide))
                have RO2 := HRO2S
                replace HBW := Lib.hid (hbl _ _ HBW.out (Nat.le_refl _))
                clear hro hm hoth hkp hbl hHeld HCL HC2 HRO2S
                refine hK.out _ _ (KTN.out) (fun hHeld => ?_)
                clear hK K
                refine wpAnyH_ready (rs := [13]) (by kernel_rfl) (by simp) (AllReadyH.cons (o := { dst := none, op := Op.store 33 (Operand.tmp 15) (Operand.tmp 85), type := 0, pos := "outright.go:387", after := #[{ on := 11, ground := Ground.data }, { on := 5, ground := Ground.data }, { on := 10, ground := Ground.chain }, { on := 0, ground := Ground.phase }, { on := 1, ground := Ground.phase }, { on := 2, ground := Ground.phase }, { on := 3, ground := Ground.phase }, { on := 4, ground := Ground.phase }, { on := 5, ground := Ground.phase }, { on := 6, ground := Ground.textOnly Departure.lateStores }, { on := 7, ground := Ground.textOnly Departure.lateStores }, { on := 8, ground := Ground.textOnly Departure.lateStores }, { on := 9, ground := Ground.textOnly Departure.lateStores }, { on := 10, ground := Ground.textOnly Departure.lateStoresUnsure }, { on := 11, ground := Ground.phase }, { on := 12, ground := Ground.phase }], guard := none }) rfl (fun K hK => ?_) AllReadyH.nil)
                refine wp_store_row 33 (.tmp 15) (.tmp 85) rfl pa #[.int .i64 er1, .bool fo1, .string va1, .slice A1 pr1.length c1] rfl rfl 33 #[.int .i64 0, .bool false, .string ⟨#[]⟩, .slice none 0 0] KA.out (by kernel_rfl) rfl (by first | rfl | (simp [Value.oneCell']; done)) ?_
                replace HQ1 : Hid (MQ_ (Wp36.setRow pa #[.int .i64 er1, .bool fo1, .string va1, .slice A1 pr1.length c1]) _ _ _ _) := Lib.hid (HQ1.out.setRow KA.out (by decide) (by decide) (by decide) (by decide) (by decide))
                replace HQ2 : Hid (MQ_ (Wp36.setRow pa #[.int .i64 er1, .bool fo1, .string va1, .slice A1 pr1.length c1]) _ _ _ _) := Lib.hid (HQ2.out.setRow KA.out (by decide) (by decide) (by decide) (by decide) (by decide))
                replace KB : Hid (Blk (Wp36.setRow pa #[.int .i64 er1, .bool fo1, .string va1, .slice A1 pr1.length c1]) _ _ _) := Lib.hid (Blk.setRow KB.out HNAB.out.symm)
                replace RO1 := Lib.hid (ROwn.setRow (c2 := #[.int .i64 er1, .bool fo1, .string va1, .slice A1 pr1.length c1]) RO1.out KA.out (by decide))
                replace RO2 := Lib.hid (ROwn.setRow (c2 := #[.int .i64 er1, .bool fo1, .string va1, .slice A1 pr1.length c1]) RO2.out KA.out (by decide))
                replace HQW : Hid (MQ_ (Wp36.setRow pa #[.int .i64 er1, .bool fo1, .string va1, .slice A1 pr1.length c1]) _ _ _ _) := Lib.hid (HQW.out.setRow KA.out (by decide) (by decide) (by decide) (by decide) (by decide))
                replace KTN : Hid (Blk (Wp36.setRow pa #[.int .i64 er1, .bool fo1, .string va1, .slice A1 pr1.length c1]) _ _ _) := Lib.hid (Blk.setRow KTN.out (blk_neT KTN.out KA.out (by decide)))
                replace KCW : Hid (Blk (Wp36.setRow pa #[.int .i64 er1, .bool fo1, .string va1, .slice A1 pr1.length c1]) _ _ _) := Lib.hid (Blk.setRow KCW.out (blk_neT KCW.out KA.out (by decide)))
                replace HBW : Hid (Below w.heap.size w (Wp36.setRow pa #[.int .i64 er1, .bool fo1, .string va1, .slice A1 pr1.length c1])) := Lib.hid (below_setRow HBW.out HPKA.out _)
                replace KA : Hid (Blk (Wp36.setRow pa #[.int .i64 er1, .bool fo1, .string va1, .slice A1 pr1.length c1]) pa #[.int .i64 er1, .bool fo1, .string va1, .slice A1 pr1.length c1] 33) := Lib.hid (Blk.setRow_self KA.out)
                clear hHeld
                refine hK.out _ _ (KTN.out) (fun hHeld => ?_)
                clear hK K
                generalize Wp36.setRow pa #[.int .i64 er1, .bool fo1, .string va1, .slice A1 pr1.length c1] = Wp37 at *
                refine wpAnyH_ready (rs := [14]) (by kernel_rfl) (by simp) (AllReadyH.cons (o := { dst := none, op := Op.store 33 (Operand.tmp 16) (Operand.tmp 90), type := 0, pos := "outright.go:387", after := #[{ on := 12, ground := Ground.data }, { on := 10, ground := Ground.data }, { on := 13, ground := Ground.chain }, { on := 0, ground := Ground.phase }, { on := 1, ground := Ground.phase }, { on := 2, ground := Ground.phase }, { on := 3, ground := Ground.phase }, { on := 4, ground := Ground.phase }, { on := 5, ground := Ground.phase }, { on := 6, ground := Ground.phase }, { on := 7, ground := Ground.phase }, { on := 8, ground := Ground.phase }, { on := 9, ground := Ground.phase }, { on := 10, ground := Ground.phase }, { on := 11, ground := Ground.phase }, { on := 12, ground := Ground.phase }, { on := 13, ground := Ground.phase }], guard := none }) rfl (fun K hK => ?_) AllReadyH.nil)
                refine wp_store_row 33 (.tmp 16) (.tmp 90) rfl pb #[.int .i64 er1, .bool fo1, .string va1, .slice A2 pr1.length c2] rfl rfl 33 #[.int .i64 0, .bool false, .string ⟨#[]⟩, .slice none 0 0] KB.out (by kernel_rfl) rfl (by first | rfl | (simp [Value.oneCell']; done)) ?_
                replace HQ1 : Hid (MQ_ (Wp37.setRow pb #[.int .i64 er1, .bool fo1, .string va1, .slice A2 pr1.length c2]) _ _ _ _) := Lib.hid (HQ1.out.setRow KB.out (by decide) (by decide) (by decide) (by decide) (by decide))
                replace HQ2 : Hid (MQ_ (Wp37.setRow pb #[.int .i64 er1, .bool fo1, .string va1, .slice A2 pr1.length c2]) _ _ _ _) := Lib.hid (HQ2.out.setRow KB.out (by decide) (by decide) (by decide) (by decide) (by decide))
                replace KA : Hid (Blk (Wp37.setRow pb #[.int .i64 er1, .bool fo1, .string va1, .slice A2 pr1.length c2]) _ _ _) := Lib.hid (Blk.setRow KA.out HNAB.out)
                replace RO1 := Lib.hid (ROwn.setRow (c2 := #[.int .i64 er1, .bool fo1, .string va1, .slice A2 pr1.length c2]) RO1.out KB.out (by decide))
                replace RO2 := Lib.hid (ROwn.setRow (c2 := #[.int .i64 er1, .bool fo1, .string va1, .slice A2 pr1.length c2]) RO2.out KB.out (by decide))
                replace HQW : Hid (MQ_ (Wp37.setRow pb #[.int .i64 er1, .bool fo1, .string va1, .slice A2 pr1.length c2]) _ _ _ _) := Lib.hid (HQW.out.setRow KB.out (by decide) (by decide) (by decide) (by decide) (by decide))
                replace KTN : Hid (Blk (Wp37.setRow pb #[.int .i64 er1, .bool fo1, .string va1, .slice A2 pr1.length c2]) _ _ _) := Lib.hid (Blk.setRow KTN.out (blk_neT KTN.out KB.out (by decide)))
                replace KCW : Hid (Blk (Wp37.setRow pb #[.int .i64 er1, .bool fo1, .string va1, .slice A2 pr1.length c2]) _ _ _) := Lib.hid (Blk.setRow KCW.out (blk_neT KCW.out KB.out (by decide)))
                replace HBW : Hid (Below w.heap.size w (Wp37.setRow pb #[.int .i64 er1, .bool fo1, .string va1, .slice A2 pr1.length c2])) := Lib.hid (below_setRow HBW.out HPKB.out _)
                replace KB : Hid (Blk (Wp37.setRow pb #[.int .i64 er1, .bool fo1, .string va1, .slice A2 pr1.length c2]) pb #[.int .i64 er1, .bool fo1, .string va1, .slice A2 pr1.length c2] 33) := Lib.hid (Blk.setRow_self KB.out)
                clear hHeld
                refine hK.out _ _ (KTN.out) (fun hHeld => ?_)
                clear hK K
                generalize Wp37.setRow pb #[.int .i64 er1, .bool fo1, .string va1, .slice A2 pr1.length c2] = Wp38 at *
                refine wpAnyH_done (by kernel_rfl) (NoPanic.normal ?_) _
                clear hHeld
                go_wp2
                go_meet
                exact ⟨_, _, _, _, _, _, _, rfl, rfl, KA.out, KB.out, RO1.out, RO2.out, HQ1.out, HQ2.out, HQW.out, KTN.out, KCW.out, HBW.out⟩
            · go_simp
              have hb : Below Wp29.heap.size Wp29 (Wp29.alloc (.cells #[.int .i64 0, .bool false, .string ⟨#[]⟩, .slice none 0 0] 33)) := (Below.refl _ _).alloc (Nat.le_refl _) _
              have HNAB := Lib.hid (show pa ≠ Wp29.heap.size from by have := KA.out.lt; omega)
              replace HQ1 := Lib.hid (HQ1.out.later hb)
              replace HQ2 := Lib.hid (HQ2.out.later hb)
              replace KA := Lib.hid (KA.out.later hb)
              replace HQW := Lib.hid (HQW.out.later hb)
              replace KTN := Lib.hid (KTN.out.later hb)
              replace KCW := Lib.hid (KCW.out.later hb)
              have KB : Hid (Blk (Wp29.alloc (.cells #[.int .i64 0, .bool false, .string ⟨#[]⟩, .slice none 0 0] 33)) Wp29.heap.size #[.int .i64 0, .bool false, .string ⟨#[]⟩, .slice none 0 0] 33) := Lib.hid (Blk.new Wp29 _ 33)
              have HPKB : Hid (w.heap.size ≤ Wp29.heap.size) := Lib.hid HBW.out.size
              replace HBW := Lib.hid (stepB HBW.out hb)
              clear hb hHeld
              refine hK.out _ _ (KTN.out) (fun hHeld => ?_)
              clear hK K
              generalize Wp29.alloc (.cells #[.int .i64 0, .bool false, .string ⟨#[]⟩, .slice none 0 0] 33) = Wp39 at *
              obtain ⟨pb, hpp⟩ : ∃ x, Wp29.heap.size = x := ⟨_, rfl⟩
              rw [hpp] at KB HPKB HNAB ⊢
              clear hpp
              refine wpAnyH_ready (rs := [5]) (by kernel_rfl) (by simp) (AllReadyH.cons (o := { dst := some 85, op := Op.call { callee := Callee.value (Operand.func 18), args := #[Operand.tmp 80, Operand.tmp 82, Operand.tmp 84], argTypes := #[22, 3, 36] }, type := 33, pos := "outright.go:387", after := #[{ on := 0, ground := Ground.data }, { on := 2, ground := Ground.data }, { on := 4, ground := Ground.data }], guard := none }) rfl (fun K hK => ?_) AllReadyH.nil)
              have HCL := Lib.hid (HC1.out Wp39 _ HQ1.out)
              go_simp
              refine HCL.out.mono ?_
              rintro e Wp40 ⟨A1, c1, rfl, hro, hm, hoth, hkp, hbl⟩
              have HRO1S := Lib.hid (hro.base HBW.out.size)
              replace HQ1 := Lib.hid hm
              replace HQ2 := Lib.hid (hoth _ _ HNE.out.symm HQ2.out)
              replace KA := Lib.hid (hkp.blk _ _ _ KA.out (by decide) (by decide) (by decide) (by decide))
              replace KB := Lib.hid (hkp.blk _ _ _ KB.out (by decide) (by decide) (by decide) (by decide))
              replace HQW := Lib.hid (hoth _ _ (by first | exact HNW1.out.symm | exact HNW2.out.symm) HQW.out)
              replace KTN := Lib.hid (hkp.blk _ _ _ KTN.out (by decide) (by decide) (by decide) (by decide))
              replace KCW := Lib.hid (hkp.blk _ _ _ KCW.out (by decide) (by decide) (by decide) (by decide))
              have RO1 := HRO1S
              replace HBW := Lib.hid (hbl _ _ HBW.out (Nat.le_refl _))
              clear hro hm hoth hkp hbl hHeld HCL HC1 HRO1S
              refine hK.out _ _ (KTN.out) (fun hHeld => ?_)
              clear hK K
              refine wpAnyH_ready (rs := [10]) (by kernel_rfl) (by simp) (AllReadyH.cons (o := { dst := some 90, op := Op.call { callee := Callee.value (Operand.func 18), args := #[Operand.tmp 86, Operand.tmp 87, Operand.tmp 89], argTypes := #[22, 3, 36] }, type := 33, pos := "outright.go:387", after := #[{ on := 6, ground := Ground.data }, { on := 7, ground := Ground.data }, { on := 9, ground := Ground.data }, { on := 5, ground := Ground.chain }], guard := none }) rfl (fun K hK => ?_) AllReadyH.nil)
              have HCL := Lib.hid (HC2.out Wp40 _ HQ2.out)
              go_simp
              refine HCL.out.mono ?_
              rintro e Wp41 ⟨A2, c2, rfl, hro, hm, hoth, hkp, hbl⟩
              have HRO2S := Lib.hid (hro.base HBW.out.size)
              replace HQ2 := Lib.hid hm
              replace HQ1 := Lib.hid (hoth _ _ HNE.out HQ1.out)
              replace KA := Lib.hid (hkp.blk _ _ _ KA.out (by decide) (by decide) (by decide) (by decide))
              replace KB := Lib.hid (hkp.blk _ _ _ KB.out (by decide) (by decide) (by decide) (by decide))
              replace RO1 := Lib.hid (RO1.out.kp hkp (by decide) (by decide) (by decide) (by decide))
              replace HQW := Lib.hid (hoth _ _ (by first | exact HNW1.out.symm | exact HNW2.out.symm) HQW.out)
              replace KTN := Lib.hid (hkp.blk _ _ _ KTN.out (by decide) (by decide) (by decide) (by decide))
              replace KCW := Lib.hid (hkp.blk _ _ _ KCW.out (by decide) (by decide) (by decide) (by decide))
              have RO2 := HRO2S
              replace HBW := Lib.hid (hbl _ _ HBW.out (Nat.le_refl _))
              clear hro hm hoth hkp hbl hHeld HCL HC2 HRO2S
              refine hK.out _ _ (KTN.out) (fun hHeld => ?_)
              clear hK K
              refine wpAnyH_ready (rs := [13]) (by kernel_rfl) (by simp) (AllReadyH.cons (o := { dst := none, op := Op.store 33 (Operand.tmp 15) (Operand.tmp 85), type := 0, pos := "outright.go:387", after := #[{ on := 11, ground := Ground.data }, { on := 5, ground := Ground.data }, { on := 10, ground := Ground.chain }, { on := 0, ground := Ground.phase }, { on := 1, ground := Ground.phase }, { on := 2, ground := Ground.phase }, { on := 3, ground := Ground.phase }, { on := 4, ground := Ground.phase }, { on := 5, ground := Ground.phase }, { on := 6, ground := Ground.textOnly Departure.lateStores }, { on := 7, ground := Ground.textOnly Departure.lateStores }, { on := 8, ground := Ground.textOnly Departure.lateStores }, { on := 9, ground := Ground.textOnly Departure.lateStores }, { on := 10, ground := Ground.textOnly Departure.lateStoresUnsure }, { on := 11, ground := Ground.phase }, { on := 12, ground := Ground.phase }], guard := none }) rfl (fun K hK => ?_) AllReadyH.nil)
              refine wp_store_row 33 (.tmp 15) (.tmp 85) rfl pa #[.int .i64 er1, .bool fo1, .string va1, .slice A1 pr1.length c1] rfl rfl 33 #[.int .i64 0, .bool false, .string ⟨#[]⟩, .slice none 0 0] KA.out (by kernel_rfl) rfl (by first | rfl | (simp [Value.oneCell']; done)) ?_
              replace HQ1 : Hid (MQ_ (Wp41.setRow pa #[.int .i64 er1, .bool fo1, .string va1, .slice A1 pr1.length c1]) _ _ _ _) := Lib.hid (HQ1.out.setRow KA.out (by decide) (by decide) (by decide) (by decide) (by decide))
              replace HQ2 : Hid (MQ_ (Wp41.setRow pa #[.int .i64 er1, .bool fo1, .string va1, .slice A1 pr1.length c1]) _ _ _ _) := Lib.hid (HQ2.out.setRow KA.out (by decide) (by decide) (by decide) (by decide) (by decide))
              replace KB : Hid (Blk (Wp41.setRow pa #[.int .i64 er1, .bool fo1, .string va1, .slice A1 pr1.length c1]) _ _ _) := Lib.hid (Blk.setRow KB.out HNAB.out.symm)
              replace RO1 := Lib.hid (ROwn.setRow (c2 := #[.int .i64 er1, .bool fo1, .string va1, .slice A1 pr1.length c1]) RO1.out KA.out (by decide))
              replace RO2 := Lib.hid (ROwn.setRow (c2 := #[.int .i64 er1, .bool fo1, .string va1, .slice A1 pr1.length c1]) RO2.out KA.out (by decide))
              replace HQW : Hid (MQ_ (Wp41.setRow pa #[.int .i64 er1, .bool fo1, .string va1, .slice A1 pr1.length c1]) _ _ _ _) := Lib.hid (HQW.out.setRow KA.out (by decide) (by decide) (by decide) (by decide) (by decide))
              replace KTN : Hid (Blk (Wp41.setRow pa #[.int .i64 er1, .bool fo1, .string va1, .slice A1 pr1.length c1]) _ _ _) := Lib.hid (Blk.setRow KTN.out (blk_neT KTN.out KA.out (by decide)))
              replace KCW : Hid (Blk (Wp41.setRow pa #[.int .i64 er1, .bool fo1, .string va1, .slice A1 pr1.length c1]) _ _ _) := Lib.hid (Blk.setRow KCW.out (blk_neT KCW.out KA.out (by decide)))
              replace HBW : Hid (Below w.heap.size w (Wp41.setRow pa #[.int .i64 er1, .bool fo1, .string va1, .slice A1 pr1.length c1])) := Lib.hid (below_setRow HBW.out HPKA.out _)
              replace KA : Hid (Blk (Wp41.setRow pa #[.int .i64 er1, .bool fo1, .string va1, .slice A1 pr1.length c1]) pa #[.int .i64 er1, .bool fo1, .string va1, .slice A1 pr1.length c1] 33) := Lib.hid (Blk.setRow_self KA.out)
              clear hHeld
              refine hK.out _ _ (KTN.out) (fun hHeld => ?_)
              clear hK K
              generalize Wp41.setRow pa #[.int .i64 er1, .bool fo1, .string va1, .slice A1 pr1.length c1] = Wp42 at *
              refine wpAnyH_ready (rs := [14]) (by kernel_rfl) (by simp) (AllReadyH.cons (o := { dst := none, op := Op.store 33 (Operand.tmp 16) (Operand.tmp 90), type := 0, pos := "outright.go:387", after := #[{ on := 12, ground := Ground.data }, { on := 10, ground := Ground.data }, { on := 13, ground := Ground.chain }, { on := 0, ground := Ground.phase }, { on := 1, ground := Ground.phase }, { on := 2, ground := Ground.phase }, { on := 3, ground := Ground.phase }, { on := 4, ground := Ground.phase }, { on := 5, ground := Ground.phase }, { on := 6, ground := Ground.phase }, { on := 7, ground := Ground.phase }, { on := 8, ground := Ground.phase }, { on := 9, ground := Ground.phase }, { on := 10, ground := Ground.phase }, { on := 11, ground := Ground.phase }, { on := 12, ground := Ground.phase }, { on := 13, ground := Ground.phase }], guard := none }) rfl (fun K hK => ?_) AllReadyH.nil)
              refine wp_store_row 33 (.tmp 16) (.tmp 90) rfl pb #[.int .i64 er1, .bool fo1, .string va1, .slice A2 pr1.length c2] rfl rfl 33 #[.int .i64 0, .bool false, .string ⟨#[]⟩, .slice none 0 0] KB.out (by kernel_rfl) rfl (by first | rfl | (simp [Value.oneCell']; done)) ?_
              replace HQ1 : Hid (MQ_ (Wp42.setRow pb #[.int .i64 er1, .bool fo1, .string va1, .slice A2 pr1.length c2]) _ _ _ _) := Lib.hid (HQ1.out.setRow KB.out (by decide) (by decide) (by decide) (by decide) (by decide))
              replace HQ2 : Hid (MQ_ (Wp42.setRow pb #[.int .i64 er1, .bool fo1, .string va1, .slice A2 pr1.length c2]) _ _ _ _) := Lib.hid (HQ2.out.setRow KB.out (by decide) (by decide) (by decide) (by decide) (by decide))
              replace KA : Hid (Blk (Wp42.setRow pb #[.int .i64 er1, .bool fo1, .string va1, .slice A2 pr1.length c2]) _ _ _) := Lib.hid (Blk.setRow KA.out HNAB.out)
              replace RO1 := Lib.hid (ROwn.setRow (c2 := #[.int .i64 er1, .bool fo1, .string va1, .slice A2 pr1.length c2]) RO1.out KB.out (by decide))
              replace RO2 := Lib.hid (ROwn.setRow (c2 := #[.int .i64 er1, .bool fo1, .string va1, .slice A2 pr1.length c2]) RO2.out KB.out (by decide))
              replace HQW : Hid (MQ_ (Wp42.setRow pb #[.int .i64 er1, .bool fo1, .string va1, .slice A2 pr1.length c2]) _ _ _ _) := Lib.hid (HQW.out.setRow KB.out (by decide) (by decide) (by decide) (by decide) (by decide))
              replace KTN : Hid (Blk (Wp42.setRow pb #[.int .i64 er1, .bool fo1, .string va1, .slice A2 pr1.length c2]) _ _ _) := Lib.hid (Blk.setRow KTN.out (blk_neT KTN.out KB.out (by decide)))
              replace KCW : Hid (Blk (Wp42.setRow pb #[.int .i64 er1, .bool fo1, .string va1, .slice A2 pr1.length c2]) _ _ _) := Lib.hid (Blk.setRow KCW.out (blk_neT KCW.out KB.out (by decide)))
              replace HBW : Hid (Below w.heap.size w (Wp42.setRow pb #[.int .i64 er1, .bool fo1, .string va1, .slice A2 pr1.length c2])) := Lib.hid (below_setRow HBW.out HPKB.out _)
              replace KB : Hid (Blk (Wp42.setRow pb #[.int .i64 er1, .bool fo1, .string va1, .slice A2 pr1.length c2]) pb #[.int .i64 er1, .bool fo1, .string va1, .slice A2 pr1.length c2] 33) := Lib.hid (Blk.setRow_self KB.out)
              clear hHeld
              refine hK.out _ _ (KTN.out) (fun hHeld => ?_)
              clear hK K
              generalize Wp42.setRow pb #[.int .i64 er1, .bool fo1, .string va1, .slice A2 pr1.length c2] = Wp43 at *
              refine wpAnyH_done (by kernel_rfl) (NoPanic.normal ?_) _
              clear hHeld
              go_wp2
              go_meet
              exact ⟨_, _, _, _, _, _, _, rfl, rfl, KA.out, KB.out, RO1.out, RO2.out, HQ1.out, HQ2.out, HQW.out, KTN.out, KCW.out, HBW.out⟩
          · go_simp
            have hb : Below Wd.heap.size Wd (Wd.alloc (.cells #[.int .i64 0, .bool false, .string ⟨#[]⟩, .slice none 0 0] 33)) := (Below.refl _ _).alloc (Nat.le_refl _) _
            replace HQ1 := Lib.hid (HQ1.out.later hb)
            replace HQ2 := Lib.hid (HQ2.out.later hb)
            replace HQW := Lib.hid (HQW.out.later hb)
            replace KTN := Lib.hid (KTN.out.later hb)
            replace KCW := Lib.hid (KCW.out.later hb)
            have KB : Hid (Blk (Wd.alloc (.cells #[.int .i64 0, .bool false, .string ⟨#[]⟩, .slice none 0 0] 33)) Wd.heap.size #[.int .i64 0, .bool false, .string ⟨#[]⟩, .slice none 0 0] 33) := Lib.hid (Blk.new Wd _ 33)
            have HPKB : Hid (w.heap.size ≤ Wd.heap.size) := Lib.hid HBW.out.size
            replace HBW := Lib.hid (stepB HBW.out hb)
            clear hb hHeld
            refine hK.out _ _ (KTN.out) (fun hHeld => ?_)
            clear hK K
            generalize Wd.alloc (.cells #[.int .i64 0, .bool false, .string ⟨#[]⟩, .slice none 0 0] 33) = Wp44 at *
            obtain ⟨pb, hpp⟩ : ∃ x, Wd.heap.size = x := ⟨_, rfl⟩
            rw [hpp] at KB HPKB ⊢
            clear hpp
            refine wpAnyH_ready (rs := [5, 11]) (by kernel_rfl) (by simp) (AllReadyH.cons (o := { dst := some 85, op := Op.call { callee := Callee.value (Operand.func 18), args := #[Operand.tmp 80, Operand.tmp 82, Operand.tmp 84], argTypes := #[22, 3, 36] }, type := 33, pos := "outright.go:387", after := #[{ on := 0, ground := Ground.data }, { on := 2, ground := Ground.data }, { on := 4, ground := Ground.data }], guard := none }) rfl (fun K hK => ?_) (AllReadyH.cons (o := { dst := some 15, op := Op.alloc 33, type := 0, pos := "outright.go:387", after := #[], guard := none }) rfl (fun K hK => ?_) AllReadyH.nil))
            · have HCL := Lib.hid (HC1.out Wp44 _ HQ1.out)
              go_simp
              refine HCL.out.mono ?_
              rintro e Wp45 ⟨A1, c1, rfl, hro, hm, hoth, hkp, hbl⟩
              have HRO1S := Lib.hid (hro.base HBW.out.size)
              replace HQ1 := Lib.hid hm
              replace HQ2 := Lib.hid (hoth _ _ HNE.out.symm HQ2.out)
              replace KB := Lib.hid (hkp.blk _ _ _ KB.out (by decide) (by decide) (by decide) (by decide))
              replace HQW := Lib.hid (hoth _ _ (by first | exact HNW1.out.symm | exact HNW2.out.symm) HQW.out)
              replace KTN := Lib.hid (hkp.blk _ _ _ KTN.out (by decide) (by decide) (by decide) (by decide))
              replace KCW := Lib.hid (hkp.blk _ _ _ KCW.out (by decide) (by decide) (by decide) (by decide))
              have RO1 := HRO1S
              replace HBW := Lib.hid (hbl _ _ HBW.out (Nat.le_refl _))
              clear hro hm hoth hkp hbl hHeld HCL HC1 HRO1S
              refine hK.out _ _ (KTN.out) (fun hHeld => ?_)
              clear hK K
              refine wpAnyH_ready (rs := [10, 11]) (by kernel_rfl) (by simp) (AllReadyH.cons (o := { dst := some 90, op := Op.call { callee := Callee.value (Operand.func 18), args := #[Operand.tmp 86, Operand.tmp 87, Operand.tmp 89], argTypes := #[22, 3, 36] }, type := 33, pos := "outright.go:387", after := #[{ on := 6, ground := Ground.data }, { on := 7, ground := Ground.data }, { on := 9, ground := Ground.data }, { on := 5, ground := Ground.chain }], guard := none }) rfl (fun K hK => ?_) (AllReadyH.cons (o := { dst := some 15, op := Op.alloc 33, type := 0, pos := "outright.go:387", after := #[], guard := none }) rfl (fun K hK => ?_) AllReadyH.nil))
              · have HCL := Lib.hid (HC2.out Wp45 _ HQ2.out)
                go_simp
                refine HCL.out.mono ?_
                rintro e Wp46 ⟨A2, c2, rfl, hro, hm, hoth, hkp, hbl⟩
                have HRO2S := Lib.hid (hro.base HBW.out.size)
                replace HQ2 := Lib.hid hm
                replace HQ1 := Lib.hid (hoth _ _ HNE.out HQ1.out)
                replace KB := Lib.hid (hkp.blk _ _ _ KB.out (by decide) (by decide) (by decide) (by decide))
                replace RO1 := Lib.hid (RO1.out.kp hkp (by decide) (by decide) (by decide) (by decide))
                replace HQW := Lib.hid (hoth _ _ (by first | exact HNW1.out.symm | exact HNW2.out.symm) HQW.out)
                replace KTN := Lib.hid (hkp.blk _ _ _ KTN.out (by decide) (by decide) (by decide) (by decide))
                replace KCW := Lib.hid (hkp.blk _ _ _ KCW.out (by decide) (by decide) (by decide) (by decide))
                have RO2 := HRO2S
                replace HBW := Lib.hid (hbl _ _ HBW.out (Nat.le_refl _))
                clear hro hm hoth hkp hbl hHeld HCL HC2 HRO2S
                refine hK.out _ _ (KTN.out) (fun hHeld => ?_)
                clear hK K
                refine wpAnyH_ready (rs := [11]) (by kernel_rfl) (by simp) (AllReadyH.cons (o := { dst := some 15, op := Op.alloc 33, type := 0, pos := "outright.go:387", after := #[], guard := none }) rfl (fun K hK => ?_) AllReadyH.nil)
                go_simp
                have hb : Below Wp46.heap.size Wp46 (Wp46.alloc (.cells #[.int .i64 0, .bool false, .string ⟨#[]⟩, .slice none 0 0] 33)) := (Below.refl _ _).alloc (Nat.le_refl _) _
                have HNAB := Lib.hid (show Wp46.heap.size ≠ pb from by have := KB.out.lt; omega)
                replace HQ1 := Lib.hid (HQ1.out.later hb)
                replace HQ2 := Lib.hid (HQ2.out.later hb)
                replace KB := Lib.hid (KB.out.later hb)
                replace RO1 := Lib.hid (RO1.out.later hb)
                replace RO2 := Lib.hid (RO2.out.later hb)
                replace HQW := Lib.hid (HQW.out.later hb)
                replace KTN := Lib.hid (KTN.out.later hb)
                replace KCW := Lib.hid (KCW.out.later hb)
                have KA : Hid (Blk (Wp46.alloc (.cells #[.int .i64 0, .bool false, .string ⟨#[]⟩, .slice none 0 0] 33)) Wp46.heap.size #[.int .i64 0, .bool false, .string ⟨#[]⟩, .slice none 0 0] 33) := Lib.hid (Blk.new Wp46 _ 33)
                have HPKA : Hid (w.heap.size ≤ Wp46.heap.size) := Lib.hid HBW.out.size
                replace HBW := Lib.hid (stepB HBW.out hb)
                clear hb hHeld
                refine hK.out _ _ (KTN.out) (fun hHeld => ?_)
                clear hK K
                generalize Wp46.alloc (.cells #[.int .i64 0, .bool false, .string ⟨#[]⟩, .slice none 0 0] 33) = Wp47 at *
                obtain ⟨pa, hpp⟩ : ∃ x, Wp46.heap.size = x := ⟨_, rfl⟩
                rw [hpp] at KA HPKA HNAB ⊢
                clear hpp
                refine wpAnyH_ready (rs := [13]) (by kernel_rfl) (by simp) (AllReadyH.cons (o := { dst := none, op := Op.store 33 (Operand.tmp 15) (Operand.tmp 85), type := 0, pos := "outright.go:387", after := #[{ on := 11, ground := Ground.data }, { on := 5, ground := Ground.data }, { on := 10, ground := Ground.chain }, { on := 0, ground := Ground.phase }, { on := 1, ground := Ground.phase }, { on := 2, ground := Ground.phase }, { on := 3, ground := Ground.phase }, { on := 4, ground := Ground.phase }, { on := 5, ground := Ground.phase }, { on := 6, ground := Ground.textOnly Departure.lateStores }, { on := 7, ground := Ground.textOnly Departure.lateStores }, { on := 8, ground := Ground.textOnly Departure.lateStores }, { on := 9, ground := Ground.textOnly Departure.lateStores }, { on := 10, ground := Ground.textOnly Departure.lateStoresUnsure }, { on := 11, ground := Ground.phase }, { on := 12, ground := Ground.phase }], guard := none }) rfl (fun K hK => ?_) AllReadyH.nil)
                refine wp_store_row 33 (.tmp 15) (.tmp 85) rfl pa #[.int .i64 er1, .bool fo1, .string va1, .slice A1 pr1.length c1] rfl rfl 33 #[.int .i64 0, .bool false, .string ⟨#[]⟩, .slice none 0 0] KA.out (by kernel_rfl) rfl (by first | rfl | (simp [Value.oneCell']; done)) ?_
                replace HQ1 : Hid (MQ_ (Wp47.setRow pa #[.int .i64 er1, .bool fo1, .string va1, .slice A1 pr1.length c1]) _ _ _ _) := Lib.hid (HQ1.out.setRow KA.out (by decide) (by decide) (by decide) (by decide) (by decide))
                replace HQ2 : Hid (MQ_ (Wp47.setRow pa #[.int .i64 er1, .bool fo1, .string va1, .slice A1 pr1.length c1]) _ _ _ _) := Lib.hid (HQ2.out.setRow KA.out (by decide) (by decide) (by decide) (by decide) (by decide))
                replace KB : Hid (Blk (Wp47.setRow pa #[.int .i64 er1, .bool fo1, .string va1, .slice A1 pr1.length c1]) _ _ _) := Lib.hid (Blk.setRow KB.out HNAB.out.symm)
                replace RO1 := Lib.hid (ROwn.setRow (c2 := #[.int .i64 er1, .bool fo1, .string va1, .slice A1 pr1.length c1]) RO1.out KA.out (by decide))
                replace RO2 := Lib.hid (ROwn.setRow (c2 := #[.int .i64 er1, .bool fo1, .string va1, .slice A1 pr1.length c1]) RO2.out KA.out (by decide))
                replace HQW : Hid (MQ_ (Wp47.setRow pa #[.int .i64 er1, .bool fo1, .string va1, .slice A1 pr1.length c1]) _ _ _ _) := Lib.hid (HQW.out.setRow KA.out (by decide) (by decide) (by decide) (by decide) (by decide))
                replace KTN : Hid (Blk (Wp47.setRow pa #[.int .i64 er1, .bool fo1, .string va1, .slice A1 pr1.length c1]) _ _ _) := Lib.hid (Blk.setRow KTN.out (blk_neT KTN.out KA.out (by decide)))
                replace KCW : Hid (Blk (Wp47.setRow pa #[.int .i64 er1, .bool fo1, .string va1, .slice A1 pr1.length c1]) _ _ _) := Lib.hid (Blk.setRow KCW.out (blk_neT KCW.out KA.out (by decide)))
                replace HBW : Hid (Below w.heap.size w (Wp47.setRow pa #[.int .i64 er1, .bool fo1, .string va1, .slice A1 pr1.length c1])) := Lib.hid (below_setRow HBW.out HPKA.out _)
                replace KA : Hid (Blk (Wp47.setRow pa #[.int .i64 er1, .bool fo1, .string va1, .slice A1 pr1.length c1]) pa #[.int .i64 er1, .bool fo1, .string va1, .slice A1 pr1.length c1] 33) := Lib.hid (Blk.setRow_self KA.out)
                clear hHeld
                refine hK.out _ _ (KTN.out) (fun hHeld => ?_)
                clear hK K
                generalize Wp47.setRow pa #[.int .i64 er1, .bool fo1, .string va1, .slice A1 pr1.length c1] = Wp48 at *
                refine wpAnyH_ready (rs := [14]) (by kernel_rfl) (by simp) (AllReadyH.cons (o := { dst := none, op := Op.store 33 (Operand.tmp 16) (Operand.tmp 90), type := 0, pos := "outright.go:387", after := #[{ on := 12, ground := Ground.data }, { on := 10, ground := Ground.data }, { on := 13, ground := Ground.chain }, { on := 0, ground := Ground.phase }, { on := 1, ground := Ground.phase }, { on := 2, ground := Ground.phase }, { on := 3, ground := Ground.phase }, { on := 4, ground := Ground.phase }, { on := 5, ground := Ground.phase }, { on := 6, ground := Ground.phase }, { on := 7, ground := Ground.phase }, { on := 8, ground := Ground.phase }, { on := 9, ground := Ground.phase }, { on := 10, ground := Ground.phase }, { on := 11, ground := Ground.phase }, { on := 12, ground := Ground.phase }, { on := 13, ground := Ground.phase }], guard := none }) rfl (fun K hK => ?_) AllReadyH.nil)
                refine wp_store_row 33 (.tmp 16) (.tmp 90) rfl pb #[.int .i64 er1, .bool fo1, .string va1, .slice A2 pr1.length c2] rfl rfl 33 #[.int .i64 0, .bool false, .string ⟨#[]⟩, .slice none 0 0] KB.out (by kernel_rfl) rfl (by first | rfl | (simp [Value.oneCell']; done)) ?_
                replace HQ1 : Hid (MQ_ (Wp48.setRow pb #[.int .i64 er1, .bool fo1, .string va1, .slice A2 pr1.length c2]) _ _ _ _) := Lib.hid (HQ1.out.setRow KB.out (by decide) (by decide) (by decide) (by decide) (by decide))
                replace HQ2 : Hid (MQ_ (Wp48.setRow pb #[.int .i64 er1, .bool fo1, .string va1, .slice A2 pr1.length c2]) _ _ _ _) := Lib.hid (HQ2.out.setRow KB.out (by decide) (by decide) (by decide) (by decide) (by decide))
                replace KA : Hid (Blk (Wp48.setRow pb #[.int .i64 er1, .bool fo1, .string va1, .slice A2 pr1.length c2]) _ _ _) := Lib.hid (Blk.setRow KA.out HNAB.out)
                replace RO1 := Lib.hid (ROwn.setRow (c2 := #[.int .i64 er1, .bool fo1, .string va1, .slice A2 pr1.length c2]) RO1.out KB.out (by decide))
                replace RO2 := Lib.hid (ROwn.setRow (c2 := #[.int .i64 er1, .bool fo1, .string va1, .slice A2 pr1.length c2]) RO2.out KB.out (by decide))
                replace HQW : Hid (MQ_ (Wp48.setRow pb #[.int .i64 er1, .bool fo1, .string va1, .slice A2 pr1.length c2]) _ _ _ _) := Lib.hid (HQW.out.setRow KB.out (by decide) (by decide) (by decide) (by decide) (by decide))
                replace KTN : Hid (Blk (Wp48.setRow pb #[.int .i64 er1, .bool fo1, .string va1, .slice A2 pr1.length c2]) _ _ _) := Lib.hid (Blk.setRow KTN.out (blk_neT KTN.out KB.out (by decide)))
                replace KCW : Hid (Blk (Wp48.setRow pb #[.int .i64 er1, .bool fo1, .string va1, .slice A2 pr1.length c2]) _ _ _) := Lib.hid (Blk.setRow KCW.out (blk_neT KCW.out KB.out (by decide)))
                replace HBW : Hid (Below w.heap.size w (Wp48.setRow pb #[.int .i64 er1, .bool fo1, .string va1, .slice A2 pr1.length c2])) := Lib.hid (below_setRow HBW.out HPKB.out _)
                replace KB : Hid (Blk (Wp48.setRow pb #[.int .i64 er1, .bool fo1, .string va1, .slice A2 pr1.length c2]) pb #[.int .i64 er1, .bool fo1, .string va1, .slice A2 pr1.length c2] 33) := Lib.hid (Blk.setRow_self KB.out)
                clear hHeld
                refine hK.out _ _ (KTN.out) (fun hHeld => ?_)
                clear hK K
                generalize Wp48.setRow pb #[.int .i64 er1, .bool fo1, .string va1, .slice A2 pr1.length c2] = Wp49 at *
                refine wpAnyH_done (by kernel_rfl) (NoPanic.normal ?_) _
                clear hHeld
                go_wp2
                go_meet
                exact ⟨_, _, _, _, _, _, _, rfl, rfl, KA.out, KB.out, RO1.out, RO2.out, HQ1.out, HQ2.out, HQW.out, KTN.out, KCW.out, HBW.out⟩
              · go_simp
                have hb : Below Wp45.heap.size Wp45 (Wp45.alloc (.cells #[.int .i64 0, .bool false, .string ⟨#[]⟩, .slice none 0 0] 33)) := (Below.refl _ _).alloc (Nat.le_refl _) _
                have HNAB := Lib.hid (show Wp45.heap.size ≠ pb from by have := KB.out.lt; omega)
                replace HQ1 := Lib.hid (HQ1.out.later hb)
                replace HQ2 := Lib.hid (HQ2.out.later hb)
                replace KB := Lib.hid (KB.out.later hb)
                replace RO1 := Lib.hid (RO1.out.later hb)
                replace HQW := Lib.hid (HQW.out.later hb)
                replace KTN := Lib.hid (KTN.out.later hb)
                replace KCW := Lib.hid (KCW.out.later hb)
                have KA : Hid (Blk (Wp45.alloc (.cells #[.int .i64 0, .bool false, .string ⟨#[]⟩, .slice none 0 0] 33)) Wp45.heap.size #[.int .i64 0, .bool false, .string ⟨#[]⟩, .slice none 0 0] 33) := Lib.hid (Blk.new Wp45 _ 33)
                have HPKA : Hid (w.heap.size ≤ Wp45.heap.size) := Lib.hid HBW.out.size
                replace HBW := Lib.hid (stepB HBW.out hb)
                clear hb hHeld
                refine hK.out _ _ (KTN.out) (fun hHeld => ?_)
                clear hK K
                generalize Wp45.alloc (.cells #[.int .i64 0, .bool false, .string ⟨#[]⟩, .slice none 0 0] 33) = Wp50 at *
                obtain ⟨pa, hpp⟩ : ∃ x, Wp45.heap.size = x := ⟨_, rfl⟩
                rw [hpp] at KA HPKA HNAB ⊢
                clear hpp
                refine wpAnyH_ready (rs := [10]) (by kernel_rfl) (by simp) (AllReadyH.cons (o := { dst := some 90, op := Op.call { callee := Callee.value (Operand.func 18), args := #[Operand.tmp 86, Operand.tmp 87, Operand.tmp 89], argTypes := #[22, 3, 36] }, type := 33, pos := "outright.go:387", after := #[{ on := 6, ground := Ground.data }, { on := 7, ground := Ground.data }, { on := 9, ground := Ground.data }, { on := 5, ground := Ground.chain }], guard := none }) rfl (fun K hK => ?_) AllReadyH.nil)
                have HCL := Lib.hid (HC2.out Wp50 _ HQ2.out)
                go_simp
                refine HCL.out.mono ?_
                rintro e Wp51 ⟨A2, c2, rfl, hro, hm, hoth, hkp, hbl⟩
                have HRO2S := Lib.hid (hro.base HBW.out.size)
                replace HQ2 := Lib.hid hm
                replace HQ1 := Lib.hid (hoth _ _ HNE.out HQ1.out)
                replace KA := Lib.hid (hkp.blk _ _ _ KA.out (by decide) (by decide) (by decide) (by decide))
                replace KB := Lib.hid (hkp.blk _ _ _ KB.out (by decide) (by decide) (by decide) (by decide))
                replace RO1 := Lib.hid (RO1.out.kp hkp (by decide) (by decide) (by decide) (by decide))
                replace HQW := Lib.hid (hoth _ _ (by first | exact HNW1.out.symm | exact HNW2.out.symm) HQW.out)
                replace KTN := Lib.hid (hkp.blk _ _ _ KTN.out (by decide) (by decide) (by decide) (by decide))
                replace KCW := Lib.hid (hkp.blk _ _ _ KCW.out (by decide) (by decide) (by decide) (by decide))
                have RO2 := HRO2S
                replace HBW := Lib.hid (hbl _ _ HBW.out (Nat.le_refl _))
                clear hro hm hoth hkp hbl hHeld HCL HC2 HRO2S
                refine hK.out _ _ (KTN.out) (fun hHeld => ?_)
                clear hK K
                refine wpAnyH_ready (rs := [13]) (by kernel_rfl) (by simp) (AllReadyH.cons (o := { dst := none, op := Op.store 33 (Operand.tmp 15) (Operand.tmp 85), type := 0, pos := "outright.go:387", after := #[{ on := 11, ground := Ground.data }, { on := 5, ground := Ground.data }, { on := 10, ground := Ground.chain }, { on := 0, ground := Ground.phase }, { on := 1, ground := Ground.phase }, { on := 2, ground := Ground.phase }, { on := 3, ground := Ground.phase }, { on := 4, ground := Ground.phase }, { on := 5, ground := Ground.phase }, { on := 6, ground := Ground.textOnly Departure.lateStores }, { on := 7, ground := Ground.textOnly Departure.lateStores }, { on := 8, ground := Ground.textOnly Departure.lateStores }, { on := 9, ground := Ground.textOnly Departure.lateStores }, { on := 10, ground := Ground.textOnly Departure.lateStoresUnsure }, { on := 11, ground := Ground.phase }, { on := 12, ground := Ground.phase }], guard := none }) rfl (fun K hK => ?_) AllReadyH.nil)
                refine wp_store_row 33 (.tmp 15) (.tmp 85) rfl pa #[.int .i64 er1, .bool fo1, .string va1, .slice A1 pr1.length c1] rfl rfl 33 #[.int .i64 0, .bool false, .string ⟨#[]⟩, .slice none 0 0] KA.out (by kernel_rfl) rfl (by first | rfl | (simp [Value.oneCell']; done)) ?_
                replace HQ1 : Hid (MQ_ (Wp51.setRow pa #[.int .i64 er1, .bool fo1, .string va1, .slice A1 pr1.length c1]) _ _ _ _) := Lib.hid (HQ1.out.setRow KA.out (by decide) (by decide) (by decide) (by decide) (by decide))
                replace HQ2 : Hid (MQ_ (Wp51.setRow pa #[.int .i64 er1, .bool fo1, .string va1, .slice A1 pr1.length c1]) _ _ _ _) := Lib.hid (HQ2.out.setRow KA.out (by decide) (by decide) (by decide) (by decide) (by decide))
                replace KB : Hid (Blk (Wp51.setRow pa #[.int .i64 er1, .bool fo1, .string va1, .slice A1 pr1.length c1]) _ _ _) := Lib.hid (Blk.setRow KB.out HNAB.out.symm)
                replace RO1 := Lib.hid (ROwn.setRow (c2 := #[.int .i64 er1, .bool fo1, .string va1, .slice A1 pr1.length c1]) RO1.out KA.out (by decide))
                replace RO2 := Lib.hid (ROwn.setRow (c2 := #[.int .i64 er1, .bool fo1, .string va1, .slice A1 pr1.length c1]) RO2.out KA.out (by decide))
                replace HQW : Hid (MQ_ (Wp51.setRow pa #[.int .i64 er1, .bool fo1, .string va1, .slice A1 pr1.length c1]) _ _ _ _) := Lib.hid (HQW.out.setRow KA.out (by decide) (by decide) (by decide) (by decide) (by decide))
                replace KTN : Hid (Blk (Wp51.setRow pa #[.int .i64 er1, .bool fo1, .string va1, .slice A1 pr1.length c1]) _ _ _) := Lib.hid (Blk.setRow KTN.out (blk_neT KTN.out KA.out (by decide)))
                replace KCW : Hid (Blk (Wp51.setRow pa #[.int .i64 er1, .bool fo1, .string va1, .slice A1 pr1.length c1]) _ _ _) := Lib.hid (Blk.setRow KCW.out (blk_neT KCW.out KA.out (by decide)))
                replace HBW : Hid (Below w.heap.size w (Wp51.setRow pa #[.int .i64 er1, .bool fo1, .string va1, .slice A1 pr1.length c1])) := Lib.hid (below_setRow HBW.out HPKA.out _)
                replace KA : Hid (Blk (Wp51.setRow pa #[.int .i64 er1, .bool fo1, .string va1, .slice A1 pr1.length c1]) pa #[.int .i64 er1, .bool fo1, .string va1, .slice A1 pr1.length c1] 33) := Lib.hid (Blk.setRow_self KA.out)
                clear hHeld
                refine hK.out _ _ (KTN.out) (fun hHeld => ?_)
                clear hK K
                generalize Wp51.setRow pa #[.int .i64 er1, .bool fo1, .string va1, .slice A1 pr1.length c1] = Wp52 at *
                refine wpAnyH_ready (rs := [14]) (by kernel_rfl) (by simp) (AllReadyH.cons (o := { dst := none, op := Op.store 33 (Operand.tmp 16) (Operand.tmp 90), type := 0, pos := "outright.go:387", after := #[{ on := 12, ground := Ground.data }, { on := 10, ground := Ground.data }, { on := 13, ground := Ground.chain }, { on := 0, ground := Ground.phase }, { on := 1, ground := Ground.phase }, { on := 2, ground := Ground.phase }, { on := 3, ground := Ground.phase }, { on := 4, ground := Ground.phase }, { on := 5, ground := Ground.phase }, { on := 6, ground := Ground.phase }, { on := 7, ground := Ground.phase }, { on := 8, ground := Ground.phase }, { on := 9, ground := Ground.phase }, { on := 10, ground := Ground.phase }, { on := 11, ground := Ground.phase }, { on := 12, ground := Ground.phase }, { on := 13, ground := Ground.phase }], guard := none }) rfl (fun K hK => ?_) AllReadyH.nil)
                refine wp_store_row 33 (.tmp 16) (.tmp 90) rfl pb #[.int .i64 er1, .bool fo1, .string va1, .slice A2 pr1.length c2] rfl rfl 33 #[.int .i64 0, .bool false, .string ⟨#[]⟩, .slice none 0 0] KB.out (by kernel_rfl) rfl (by first | rfl | (simp [Value.oneCell']; done)) ?_
                replace HQ1 : Hid (MQ_ (Wp52.setRow pb #[.int .i64 er1, .bool fo1, .string va1, .slice A2 pr1.length c2]) _ _ _ _) := Lib.hid (HQ1.out.setRow KB.out (by decide) (by decide) (by decide) (by decide) (by decide))
                replace HQ2 : Hid (MQ_ (Wp52.setRow pb #[.int .i64 er1, .bool fo1, .string va1, .slice A2 pr1.length c2]) _ _ _ _) := Lib.hid (HQ2.out.setRow KB.out (by decide) (by decide) (by decide) (by decide) (by decide))
                replace KA : Hid (Blk (Wp52.setRow pb #[.int .i64 er1, .bool fo1, .string va1, .slice A2 pr1.length c2]) _ _ _) := Lib.hid (Blk.setRow KA.out HNAB.out)
                replace RO1 := Lib.hid (ROwn.setRow (c2 := #[.int .i64 er1, .bool fo1, .string va1, .slice A2 pr1.length c2]) RO1.out KB.out (by decide))
                replace RO2 := Lib.hid (ROwn.setRow (c2 := #[.int .i64 er1, .bool fo1, .string va1, .slice A2 pr1.length c2]) RO2.out KB.out (by decide))
                replace HQW : Hid (MQ_ (Wp52.setRow pb #[.int .i64 er1, .bool fo1, .string va1, .slice A2 pr1.length c2]) _ _ _ _) := Lib.hid (HQW.out.setRow KB.out (by decide) (by decide) (by decide) (by decide) (by decide))
                replace KTN : Hid (Blk (Wp52.setRow pb #[.int .i64 er1, .bool fo1, .string va1, .slice A2 pr1.length c2]) _ _ _) := Lib.hid (Blk.setRow KTN.out (blk_neT KTN.out KB.out (by decide)))
                replace KCW : Hid (Blk (Wp52.setRow pb #[.int .i64 er1, .bool fo1, .string va1, .slice A2 pr1.length c2]) _ _ _) := Lib.hid (Blk.setRow KCW.out (blk_neT KCW.out KB.out (by decide)))
                replace HBW : Hid (Below w.heap.size w (Wp52.setRow pb #[.int .i64 er1, .bool fo1, .string va1, .slice A2 pr1.length c2])) := Lib.hid (below_setRow HBW.out HPKB.out _)
                replace KB : Hid (Blk (Wp52.setRow pb #[.int .i64 er1, .bool fo1, .string va1, .slice A2 pr1.length c2]) pb #[.int .i64 er1, .bool fo1, .string va1, .slice A2 pr1.length c2] 33) := Lib.hid (Blk.setRow_self KB.out)
                clear hHeld
                refine hK.out _ _ (KTN.out) (fun hHeld => ?_)
                clear hK K
                generalize Wp52.setRow pb #[.int .i64 er1, .bool fo1, .string va1, .slice A2 pr1.length c2] = Wp53 at *
                refine wpAnyH_done (by kernel_rfl) (NoPanic.normal ?_) _
                clear hHeld
                go_wp2
                go_meet
                exact ⟨_, _, _, _, _, _, _, rfl, rfl, KA.out, KB.out, RO1.out, RO2.out, HQ1.out, HQ2.out, HQW.out, KTN.out, KCW.out, HBW.out⟩
            · go_simp
              have hb : Below Wp44.heap.size Wp44 (Wp44.alloc (.cells #[.int .i64 0, .bool false, .string ⟨#[]⟩, .slice none 0 0] 33)) := (Below.refl _ _).alloc (Nat.le_refl _) _
              have HNAB := Lib.hid (show Wp44.heap.size ≠ pb from by have := KB.out.lt; omega)
              replace HQ1 := Lib.hid (HQ1.out.later hb)
              replace HQ2 := Lib.hid (HQ2.out.later hb)
              replace KB := Lib.hid (KB.out.later hb)
              replace HQW := Lib.hid (HQW.out.later hb)
              replace KTN := Lib.hid (KTN.out.later hb)
              replace KCW := Lib.hid (KCW.out.later hb)
              have KA : Hid (Blk (Wp44.alloc (.cells #[.int .i64 0, .bool false, .string ⟨#[]⟩, .slice none 0 0] 33)) Wp44.heap.size #[.int .i64 0, .bool false, .string ⟨#[]⟩, .slice none 0 0] 33) := Lib.hid (Blk.new Wp44 _ 33)
              have HPKA : Hid (w.heap.size ≤ Wp44.heap.size) := Lib.hid HBW.out.size
              replace HBW := Lib.hid (stepB HBW.out hb)
              clear hb hHeld
              refine hK.out _ _ (KTN.out) (fun hHeld => ?_)
              clear hK K
              generalize Wp44.alloc (.cells #[.int .i64 0, .bool false, .string ⟨#[]⟩, .slice none 0 0] 33) = Wp54 at *
              obtain ⟨pa, hpp⟩ : ∃ x, Wp44.heap.size = x := ⟨_, rfl⟩
              rw [hpp] at KA HPKA HNAB ⊢
              clear hpp
              refine wpAnyH_ready (rs := [5]) (by kernel_rfl) (by simp) (AllReadyH.cons (o := { dst := some 85, op := Op.call { callee := Callee.value (Operand.func 18), args := #[Operand.tmp 80, Operand.tmp 82, Operand.tmp 84], argTypes := #[22, 3, 36] }, type := 33, pos := "outright.go:387", after := #[{ on := 0, ground := Ground.data }, { on := 2, ground := Ground.data }, { on := 4, ground := Ground.data }], guard := none }) rfl (fun K hK => ?_) AllReadyH.nil)
              have HCL := Lib.hid (HC1.out Wp54 _ HQ1.out)
              go_simp
              refine HCL.out.mono ?_
              rintro e Wp55 ⟨A1, c1, rfl, hro, hm, hoth, hkp, hbl⟩
              have HRO1S := Lib.hid (hro.base HBW.out.size)
              replace HQ1 := Lib.hid hm
              replace HQ2 := Lib.hid (hoth _ _ HNE.out.symm HQ2.out)
              replace KA := Lib.hid (hkp.blk _ _ _ KA.out (by decide) (by decide) (by decide) (by decide))
              replace KB := Lib.hid (hkp.blk _ _ _ KB.out (by decide) (by decide) (by decide) (by decide))
              replace HQW := Lib.hid (hoth _ _ (by first | exact HNW1.out.symm | exact HNW2.out.symm) HQW.out)
              replace KTN := Lib.hid (hkp.blk _ _ _ KTN.out (by decide) (by decide) (by decide) (by decide))
              replace KCW := Lib.hid (hkp.blk _ _ _ KCW.out (by decide) (by decide) (by decide) (by decide))
              have RO1 := HRO1S
              replace HBW := Lib.hid (hbl _ _ HBW.out (Nat.le_refl _))
              clear hro hm hoth hkp hbl hHeld HCL HC1 HRO1S
              refine hK.out _ _ (KTN.out) (fun hHeld => ?_)
              clear hK K
              refine wpAnyH_ready (rs := [10]) (by kernel_rfl) (by simp) (AllReadyH.cons (o := { dst := some 90, op := Op.call { callee := Callee.value (Operand.func 18), args := #[Operand.tmp 86, Operand.tmp 87, Operand.tmp 89], argTypes := #[22, 3, 36] }, type := 33, pos := "outright.go:387", after := #[{ on := 6, ground := Ground.data }, { on := 7, ground := Ground.data }, { on := 9, ground := Ground.data }, { on := 5, ground := Ground.chain }], guard := none }) rfl (fun K hK => ?_) AllReadyH.nil)
              have HCL := Lib.hid (HC2.out Wp55 _ HQ2.out)
              go_simp
              refine HCL.out.mono ?_
              rintro e Wp56 ⟨A2, c2, rfl, hro, hm, hoth, hkp, hbl⟩
              have HRO2S := Lib.hid (hro.base HBW.out.size)
              replace HQ2 := Lib.hid hm
              replace HQ1 := Lib.hid (hoth _ _ HNE.out HQ1.out)
              replace KA := Lib.hid (hkp.blk _ _ _ KA.out (by decide) (by decide) (by decide) (by decide))
              replace KB := Lib.hid (hkp.blk _ _ _ KB.out (by decide) (by decide) (by decide) (by decide))
              replace RO1 := Lib.hid (RO1.out.kp hkp (by decide) (by decide) (by decide) (by decide))
              replace HQW := Lib.hid (hoth _ _ (by first | exact HNW1.out.symm | exact HNW2.out.symm) HQW.out)
              replace KTN := Lib.hid (hkp.blk _ _ _ KTN.out (by decide) (by decide) (by decide) (by decide))
              replace KCW := Lib.hid (hkp.blk _ _ _ KCW.out (by decide) (by decide) (by decide) (by decide))
              have RO2 := HRO2S
              replace HBW := Lib.hid (hbl _ _ HBW.out (Nat.le_refl _))
              clear hro hm hoth hkp hbl hHeld HCL HC2 HRO2S
              refine hK.out _ _ (KTN.out) (fun hHeld => ?_)
              clear hK K
              refine wpAnyH_ready (rs := [13]) (by kernel_rfl) (by simp) (AllReadyH.cons (o := { dst := none, op := Op.store 33 (Operand.tmp 15) (Operand.tmp 85), type := 0, pos := "outright.go:387", after := #[{ on := 11, ground := Ground.data }, { on := 5, ground := Ground.data }, { on := 10, ground := Ground.chain }, { on := 0, ground := Ground.phase }, { on := 1, ground := Ground.phase }, { on := 2, ground := Ground.phase }, { on := 3, ground := Ground.phase }, { on := 4, ground := Ground.phase }, { on := 5, ground := Ground.phase }, { on := 6, ground := Ground.textOnly Departure.lateStores }, { on := 7, ground := Ground.textOnly Departure.lateStores }, { on := 8, ground := Ground.textOnly Departure.lateStores }, { on := 9, ground := Ground.textOnly Departure.lateStores }, { on := 10, ground := Ground.textOnly Departure.lateStoresUnsure }, { on := 11, ground := Ground.phase }, { on := 12, ground := Ground.phase }], guard := none }) rfl (fun K hK => ?_) AllReadyH.nil)
              refine wp_store_row 33 (.tmp 15) (.tmp 85) rfl pa #[.int .i64 er1, .bool fo1, .string va1, .slice A1 pr1.length c1] rfl rfl 33 #[.int .i64 0, .bool false, .string ⟨#[]⟩, .slice none 0 0] KA.out (by kernel_rfl) rfl (by first | rfl | (simp [Value.oneCell']; done)) ?_
              replace HQ1 : Hid (MQ_ (Wp56.setRow pa #[.int .i64 er1, .bool fo1, .string va1, .slice A1 pr1.length c1]) _ _ _ _) := Lib.hid (HQ1.out.setRow KA.out (by decide) (by decide) (by decide) (by decide) (by decide))
              replace HQ2 : Hid (MQ_ (Wp56.setRow pa #[.int .i64 er1, .bool fo1, .string va1, .slice A1 pr1.length c1]) _ _ _ _) := Lib.hid (HQ2.out.setRow KA.out (by decide) (by decide) (by decide) (by decide) (by decide))
              replace KB : Hid (Blk (Wp56.setRow pa #[.int .i64 er1, .bool fo1, .string va1, .slice A1 pr1.length c1]) _ _ _) := Lib.hid (Blk.setRow KB.out HNAB.out.symm)
              replace RO1 := Lib.hid (ROwn.setRow (c2 := #[.int .i64 er1, .bool fo1, .string va1, .slice A1 pr1.length c1]) RO1.out KA.out (by decide))
              replace RO2 := Lib.hid (ROwn.setRow (c2 := #[.int .i64 er1, .bool fo1, .string va1, .slice A1 pr1.length c1]) RO2.out KA.out (by decide))
              replace HQW : Hid (MQ_ (Wp56.setRow pa #[.int .i64 er1, .bool fo1, .string va1, .slice A1 pr1.length c1]) _ _ _ _) := Lib.hid (HQW.out.setRow KA.out (by decide) (by decide) (by decide) (by decide) (by decide))
              replace KTN : Hid (Blk (Wp56.setRow pa #[.int .i64 er1, .bool fo1, .string va1, .slice A1 pr1.length c1]) _ _ _) := Lib.hid (Blk.setRow KTN.out (blk_neT KTN.out KA.out (by decide)))
              replace KCW : Hid (Blk (Wp56.setRow pa #[.int .i64 er1, .bool fo1, .string va1, .slice A1 pr1.length c1]) _ _ _) := Lib.hid (Blk.setRow KCW.out (blk_neT KCW.out KA.out (by decide)))
              replace HBW : Hid (Below w.heap.size w (Wp56.setRow pa #[.int .i64 er1, .bool fo1, .string va1, .slice A1 pr1.length c1])) := Lib.hid (below_setRow HBW.out HPKA.out _)
              replace KA : Hid (Blk (Wp56.setRow pa #[.int .i64 er1, .bool fo1, .string va1, .slice A1 pr1.length c1]) pa #[.int .i64 er1, .bool fo1, .string va1, .slice A1 pr1.length c1] 33) := Lib.hid (Blk.setRow_self KA.out)
              clear hHeld
              refine hK.out _ _ (KTN.out) (fun hHeld => ?_)
              clear hK K
              generalize Wp56.setRow pa #[.int .i64 er1, .bool fo1, .string va1, .slice A1 pr1.length c1] = Wp57 at *
              refine wpAnyH_ready (rs := [14]) (by kernel_rfl) (by simp) (AllReadyH.cons (o := { dst := none, op := Op.store 33 (Operand.tmp 16) (Operand.tmp 90), type := 0, pos := "outright.go:387", after := #[{ on := 12, ground := Ground.data }, { on := 10, ground := Ground.data }, { on := 13, ground := Ground.chain }, { on := 0, ground := Ground.phase }, { on := 1, ground := Ground.phase }, { on := 2, ground := Ground.phase }, { on := 3, ground := Ground.phase }, { on := 4, ground := Ground.phase }, { on := 5, ground := Ground.phase }, { on := 6, ground := Ground.phase }, { on := 7, ground := Ground.phase }, { on := 8, ground := Ground.phase }, { on := 9, ground := Ground.phase }, { on := 10, ground := Ground.phase }, { on := 11, ground := Ground.phase }, { on := 12, ground := Ground.phase }, { on := 13, ground := Ground.phase }], guard := none }) rfl (fun K hK => ?_) AllReadyH.nil)
              refine wp_store_row 33 (.tmp 16) (.tmp 90) rfl pb #[.int .i64 er1, .bool fo1, .string va1, .slice A2 pr1.length c2] rfl rfl 33 #[.int .i64 0, .bool false, .string ⟨#[]⟩, .slice none 0 0] KB.out (by kernel_rfl) rfl (by first | rfl | (simp [Value.oneCell']; done)) ?_
              replace HQ1 : Hid (MQ_ (Wp57.setRow pb #[.int .i64 er1, .bool fo1, .string va1, .slice A2 pr1.length c2]) _ _ _ _) := Lib.hid (HQ1.out.setRow KB.out (by decide) (by decide) (by decide) (by decide) (by decide))
              replace HQ2 : Hid (MQ_ (Wp57.setRow pb #[.int .i64 er1, .bool fo1, .string va1, .slice A2 pr1.length c2]) _ _ _ _) := Lib.hid (HQ2.out.setRow KB.out (by decide) (by decide) (by decide) (by decide) (by decide))
              replace KA : Hid (Blk (Wp57.setRow pb #[.int .i64 er1, .bool fo1, .string va1, .slice A2 pr1.length c2]) _ _ _) := Lib.hid (Blk.setRow KA.out HNAB.out)
              replace RO1 := Lib.hid (ROwn.setRow (c2 := #[.int .i64 er1, .bool fo1, .string va1, .slice A2 pr1.length c2]) RO1.out KB.out (by decide))
              replace RO2 := Lib.hid (ROwn.setRow (c2 := #[.int .i64 er1, .bool fo1, .string va1, .slice A2 pr1.length c2]) RO2.out KB.out (by decide))
              replace HQW : Hid (MQ_ (Wp57.setRow pb #[.int .i64 er1, .bool fo1, .string va1, .slice A2 pr1.length c2]) _ _ _ _) := Lib.hid (HQW.out.setRow KB.out (by decide) (by decide) (by decide) (by decide) (by decide))
              replace KTN : Hid (Blk (Wp57.setRow pb #[.int .i64 er1, .bool fo1, .string va1, .slice A2 pr1.length c2]) _ _ _) := Lib.hid (Blk.setRow KTN.out (blk_neT KTN.out KB.out (by decide)))
              replace KCW : Hid (Blk (Wp57.setRow pb #[.int .i64 er1, .bool fo1, .string va1, .slice A2 pr1.length c2]) _ _ _) := Lib.hid (Blk.setRow KCW.out (blk_neT KCW.out KB.out (by decide)))
              replace HBW : Hid (Below w.heap.size w (Wp57.setRow pb #[.int .i64 er1, .bool fo1, .string va1, .slice A2 pr1.length c2])) := Lib.hid (below_setRow HBW.out HPKB.out _)
              replace KB : Hid (Blk (Wp57.setRow pb #[.int .i64 er1, .bool fo1, .string va1, .slice A2 pr1.length c2]) pb #[.int .i64 er1, .bool fo1, .string va1, .slice A2 pr1.length c2] 33) := Lib.hid (Blk.setRow_self KB.out)
              clear hHeld
              refine hK.out _ _ (KTN.out) (fun hHeld => ?_)
              clear hK K
              generalize Wp57.setRow pb #[.int .i64 er1, .bool fo1, .string va1, .slice A2 pr1.length c2] = Wp58 at *
              refine wpAnyH_done (by kernel_rfl) (NoPanic.normal ?_) _
              clear hHeld
              go_wp2
              go_meet
              exact ⟨_, _, _, _, _, _, _, rfl, rfl, KA.out, KB.out, RO1.out, RO2.out, HQ1.out, HQ2.out, HQW.out, KTN.out, KCW.out, HBW.out⟩
        case rest =>
        obtain ⟨own9, pa, pb, A1, A2', c1, c2', rfl, rfl, ka, kb, ro1, ro2, hq1, hq2, hqw, ktn, kcw, hb⟩ := hcut
        clear HQ1 HQ2 HQW HBW HC1 HC2 KTN KCW
        have RO1 := Lib.hid ro1
        have RO2 := Lib.hid ro2
        have HQ1 := Lib.hid hq1
        have HQ2 := Lib.hid hq2
        have HQW := Lib.hid hqw
        have HBW := Lib.hid hb
        have KTN := Lib.hid ktn
        have KCW := Lib.hid kcw
        have u0 := ka.cell 0
        have u1 := ka.cell 1
        have u2 := ka.cell 2
        have u3 := ka.cell 3
        have t0 := kb.cell 0
        have t1' := kb.cell 1
        have t2' := kb.cell 2
        have t3 := kb.cell 3
        simp only [List.getElem?_toArray, List.getElem?_cons_zero, List.getElem?_cons_succ] at u0 u1 u2 u3 t0 t1' t2' t3
        clear ka kb ro1 ro2 hq1 hq2 hqw ktn kcw hb
        have HAN : Hid (Calls Try.prog 37 #[.agg #[.int .i64 er1, .bool fo1, .string va1, .slice A1 pr1.length c1], .agg #[.int .i64 er1, .bool fo1, .string va1, .slice A2' pr1.length c2']] wc fun e w' => e = .returned (.bool true) ∧ Below wc.heap.size wc w') := Lib.hid (by
          have := answers_any A1 A2' pr1.length c1 pr1.length c2' (er1, fo1, va1, pr1) (er1, fo1, va1, pr1) wc HLP.out (RO1.out.rsl pvc_len) (RO2.out.rsl pvc_len)
          rw [decide_eq_true rfl] at this
          exact this)
        go_wp2_with fail
        refine HAN.out.mono ?_
        rintro e w8 ⟨rfl, hb⟩
        replace HBW := Lib.hid (stepB HBW.out hb)
        replace HQ1 := Lib.hid (HQ1.out.later hb)
        replace HQ2 := Lib.hid (HQ2.out.later hb)
        replace HQW := Lib.hid (HQW.out.later hb)
        replace KTN := Lib.hid (KTN.out.later hb)
        replace KCW := Lib.hid (KCW.out.later hb)
        clear hb HAN u0 u1 u2 u3 t0 t1' t2' t3 RO1 RO2
        have q1 := KTN.out.cell 1
        simp only [List.getElem?_toArray, List.getElem?_cons_zero, List.getElem?_cons_succ] at q1
        have HRND : ∀ W, MQ_ W w.heap.size own9 p1 t1 → MQ_ W w.heap.size own9 p2 t2 → Blk W w.heap.size #[.int .i64 c.ta, .int .i64 c.ac, .int .i64 c.ke, .int .i64 c.de, .int .i64 c.ts, .int .i64 c.kl, .int .i64 c.vl, .int .i64 c.fa] 45 → Below w.heap.size w W → ∃ (k' : Nat) (s1 s2 : MS) (own : Nat → Nat), k' ≤ n ∧ Value.int .i64 ((k : Int) + 1) = .int .i64 k' ∧ MQ_ W w.heap.size own p1 s1 ∧ MQ_ W w.heap.size own p2 s2 ∧ RnM d s1 s2 ∧ s1.tasks.length = T ∧ s1.txns.length ≤ k' ∧ Blk W w.heap.size #[.int .i64 c.ta, .int .i64 c.ac, .int .i64 c.ke, .int .i64 c.de, .int .i64 c.ts, .int .i64 c.kl, .int .i64 c.vl, .int .i64 c.fa] 45 ∧ Below w.heap.size w W := fun W a b c e => ⟨k + 1, t1, t2, own9, by have := HLT.out; omega, by go_num, a, b, HV2.out, HTT1.out, HT1.out, c, e⟩
        have HRN := Lib.hid HRND
        clear HRND
        by_cases h9 : kn = 9
        · have d9 : ((kn : Int) == 9) = true := by rw [h9]; rfl
          have hqw := HQW.out
          rw [← HMG.out h9] at hqw
          replace HQW := Lib.hid hqw
          clear hqw h9
          go_wp2_with fail
          refine (same_models w.heap.size pw p1 own9 t1 t1 _ HQW.out HQ1.out rfl rfl rfl rfl (by have := HT1.out; have := HN2.out; have := HLT.out; omega) (by have := HT1.out; have := HN2.out; have := HLT.out; omega)).mono ?_
          rintro e w9 ⟨rfl, hb⟩
          replace HBW := Lib.hid (stepB HBW.out hb)
          replace HQ1 := Lib.hid (HQ1.out.later hb)
          replace HQ2 := Lib.hid (HQ2.out.later hb)
          replace KCW := Lib.hid (KCW.out.later hb)
          clear hb q1
          go_wp2
          have hlt := HLT.out
          refine ⟨HRN.out _ HQ1.out HQ2.out KCW.out HBW.out, ?_⟩
          simp [intOf]; omega
        · have d9 : ((kn : Int) == 9) = false := by rw [beq_eq_false_iff_ne]; omega
          clear h9
          go_wp2
          have hlt := HLT.out
          refine ⟨HRN.out _ HQ1.out HQ2.out KCW.out HBW.out, ?_⟩
          simp [intOf]; omega
      · obtain rfl : n = k := by omega
        have d2 : decide ((n : Int) < (n : Int)) = false := decide_eq_false (by omega)
        go_wp2_with fail
        refine (same_models w.heap.size p1 p2 own s1 s2 _ HQ1.out HQ2.out HV.out.rows (by rw [HV.out.txns]) HV.out.clock HV.out.floor (by have := HTL.out; have := HN2.out; omega) (by rw [HV.out.txns]; have := HTL.out; have := HN2.out; omega)).mono ?_
        rintro e w9 ⟨rfl, hb⟩
        replace HBW := Lib.hid (stepB HBW.out hb)
        clear hb
        go_wp2
        go_ret
        exact ⟨rfl, HBW.out⟩
end Go.Proofs.Ytoinjnocopejjaa.modelTasks
