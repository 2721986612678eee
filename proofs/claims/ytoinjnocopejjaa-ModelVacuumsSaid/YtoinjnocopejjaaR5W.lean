/- The walk of ModelVacuums. -/
import Derived.Test.YtoinjnocopejjaaLG
import Derived.Test.YtoinjnocopejjaaWO
import Derived.Test.YtoinjnocopejjaaOC
import Derived.Test.YtoinjnocopejjaaSA
import Derived.Test.YtoinjnocopejjaaMO2
import Derived.Test.YtoinjnocopejjaaNZ
import Derived.StillTailTactics
namespace Go.Proofs.Ytoinjnocopejjaa.modelVacuums
open Go.ChangeShapes Go.WideShapes Go.ChangeAt Go.RowKit Go.Maps
set_option linter.unusedVariables false
set_option linter.unusedSimpArgs false
theorem idx50 (g off m c k : Nat) (i : Int) (hi : i = (k : Int)) (h : k < m) (W : World) : (Instr.indexAt 50 (.slice (some ⟨g, off, none⟩) m c) (.int .i64 i)).run Try.prog W = .ok (.pointer (some ⟨g, off + k, none⟩)) W := by
  subst hi
  have h1 : (0 : Int) ≤ (k : Int) ∧ (k : Int) < (m : Int) := by omega
  go_simp
theorem cok_vac : COk (8, 0, ⟨#[]⟩, ⟨#[]⟩, ⟨#[]⟩, 0, 0) := ⟨by decide, by decide, by decide, by decide, Nat.zero_le _, Nat.zero_le _, Nat.zero_le _⟩
theorem vac_do {s : MS} (h : OkM s) : (doM s 0 (8, 0, ⟨#[]⟩, ⟨#[]⟩, ⟨#[]⟩, 0, 0)).1 = vacM s := by
  have hm := may_lo h.may
  have hr : refM s 0 (8, 0, ⟨#[]⟩, ⟨#[]⟩, ⟨#[]⟩, 0, 0) = 0 := by
    unfold refM
    have := h.ntask
    rw [if_neg (by simp only; omega), if_neg (by simp), if_neg (by simp [namedK]), if_neg (by simp [namedK]), if_pos (by unfold fitsM; simp)]
  unfold doM
  rw [if_neg (fun e => e hr)]; rfl
theorem rem_u8 {b r : Int} (hb : 0 ≤ b ∧ b ≤ 255) (h : b % 2 = r) : IntKind.u8.wrap (Int.tmod b 2) = r := by
  rw [Int.tmod_eq_emod_of_nonneg hb.1, h]
  rcases (by omega : r = 0 ∨ r = 1) with rfl | rfl <;> rfl
set_option maxRecDepth 100000 in
set_option maxHeartbeats 1600000 in
theorem walk (c : Conf) (A : Option Addr) (n cc : Nat) (L : List Tn) (A2 : Option Addr) (n2 c2 : Nat) (L2 : List Int) (w : World) (hS : RSl tnE 8 w A n L) (hz : ∀ r ∈ L, TnOk r) (hS2 : RSl bE 1 w A2 n2 L2) (hz2 : ∀ r ∈ L2, BOk r) : Calls Try.prog 5 #[c.val, .slice A n cc, .slice A2 n2 c2] w fun e w' => e = .returned (.bool true) ∧ Below w.heap.size w w' := by
  have HS2 : Hid (∀ W, Below w.heap.size w W → RSl bE 1 W A2 n2 L2) := Lib.hid (fun W hb => hS2.later hb)
  have HZ2 := Lib.hid hz2
  have HLN2 : Hid (L2.length = n2) := Lib.hid hS2.1
  clear hS2 hz2
  have HS : Hid (∀ W, Below w.heap.size w W → RSl tnE 8 W A n L) := Lib.hid (fun W hb => hS.later hb)
  have HZ := Lib.hid hz
  have HLN : Hid (L.length = n) := Lib.hid hS.1
  have HB : Hid (Below w.heap.size w (w.alloc (.cells #[.int .i64 c.ta, .int .i64 c.ac, .int .i64 c.ke, .int .i64 c.de, .int .i64 c.ts, .int .i64 c.kl, .int .i64 c.vl, .int .i64 c.fa] 45))) := Lib.hid ((Below.refl _ _).alloc (Nat.le_refl _) _)
  have KC : Hid (Blk (w.alloc (.cells #[.int .i64 c.ta, .int .i64 c.ac, .int .i64 c.ke, .int .i64 c.de, .int .i64 c.ts, .int .i64 c.kl, .int .i64 c.vl, .int .i64 c.fa] 45)) w.heap.size #[.int .i64 c.ta, .int .i64 c.ac, .int .i64 c.ke, .int .i64 c.de, .int .i64 c.ts, .int .i64 c.kl, .int .i64 c.vl, .int .i64 c.fa] 45) := Lib.hid (Blk.new w _ 45)
  clear hS hz
  show Calls Try.prog 5 _ w _
  unfold Conf.val
  go_enter Try.func5, Try.ntmps5
  go_upto_region 1 with (fail)
  generalize (w.alloc (.cells #[.int .i64 c.ta, .int .i64 c.ac, .int .i64 c.ke, .int .i64 c.de, .int .i64 c.ts, .int .i64 c.kl, .int .i64 c.vl, .int .i64 c.fa] 45)) = w1 at *
  go_wp2_with fail
  refine (works_any _).mono ?_
  rintro e w2 ⟨rfl, hb⟩
  replace HB := Lib.hid (stepB HB.out hb)
  replace KC := Lib.hid (KC.out.later hb)
  clear hb
  go_wp2_with fail
  refine (large_any A n cc L _ (HS.out _ HB.out)).mono ?_
  rintro e w3 ⟨rfl, hb⟩
  replace HB := Lib.hid (stepB HB.out hb)
  replace KC := Lib.hid (KC.out.later hb)
  clear hb
  obtain ⟨b, hlg⟩ : ∃ b, decide (12000 ≤ lgT L) = b := ⟨_, rfl⟩
  rw [hlg]
  cases b with
  | true =>
    go_wp2_with fail
    refine (works_any _).mono ?_
    rintro e w4 ⟨rfl, hb⟩
    replace HB := Lib.hid (stepB HB.out hb)
    replace KC := Lib.hid (KC.out.later hb)
    clear hb
    go_wp2
    go_ret
    exact ⟨rfl, HB.out⟩
  | false =>
    have HLG : Hid (L.length < 200) := Lib.hid (lg_len (by have := of_decide_eq_false hlg; omega))
    clear hlg
    have z0 := KC.out.cell 0
    have z1 := KC.out.cell 1
    have z2 := KC.out.cell 2
    have z3 := KC.out.cell 3
    have z4 := KC.out.cell 4
    have z5 := KC.out.cell 5
    have z6 := KC.out.cell 6
    have z7 := KC.out.cell 7
    simp only [List.getElem?_toArray, List.getElem?_cons_zero, List.getElem?_cons_succ] at z0 z1 z2 z3 z4 z5 z6 z7
    go_wp2_with fail
    refine (new_any c _).mono ?_
    rintro e w4 ⟨hb, hnew⟩
    have HBP := Lib.hid HB.out.size
    replace HB := Lib.hid (stepB HB.out hb)
    replace KC := Lib.hid (KC.out.later hb)
    clear z0 z1 z2 z3 z4 z5 z6 z7
    have z0 := KC.out.cell 0
    have z1 := KC.out.cell 1
    have z2 := KC.out.cell 2
    have z3 := KC.out.cell 3
    have z4 := KC.out.cell 4
    have z5 := KC.out.cell 5
    have z6 := KC.out.cell 6
    have z7 := KC.out.cell 7
    simp only [List.getElem?_toArray, List.getElem?_cons_zero, List.getElem?_cons_succ] at z0 z1 z2 z3 z4 z5 z6 z7
    have hnew2 := hnew.symm
    clear hnew
    rcases hnew2 with ⟨hmay, rfl⟩ | ⟨hmay, p1, S1, rfl, hm1⟩
    · have HMAY := Lib.hid hmay
      clear hb hmay
      go_wp2_with fail
      refine (new_any c _).mono ?_
      rintro e w5 ⟨hb, hnew⟩
      rcases hnew with ⟨hmay, _⟩ | ⟨hmay, rfl⟩
      · rw [HMAY.out] at hmay; cases hmay
      have HB5 := Lib.hid (stepB HB.out hb)
      clear hb hmay z0 z1 z2 z3 z4 z5 z6 z7
      go_wp2
      go_ret
      exact ⟨rfl, HB5.out⟩
    have HMAY := Lib.hid hmay
    have HQ1 : Hid (MQ_ w4 w.heap.size (ownT w3 (fun _ => 0) p1) p1 (newM c)) := Lib.hid (MQ_.new hm1 HBP.out)
    clear hb hmay hm1 HBP
    go_wp2_with fail
    refine (new_any c _).mono ?_
    rintro e w5 ⟨hb, hnew⟩
    have hnew2 := hnew.symm
    clear hnew
    rcases hnew2 with ⟨hmay, _⟩ | ⟨_, p2, S2, rfl, hm2⟩
    · rw [HMAY.out] at hmay; cases hmay
    have HNE : Hid (p1 ≠ p2) := Lib.hid (by have h1 := HQ1.out.self; have h2 := hm2.lt p2 hm2.self; omega)
    have hq1 : MQ_ w5 w.heap.size (ownT w4 (ownT w3 (fun _ => 0) p1) p2) p1 (newM c) := (HQ1.out.own' (fun k hk => ownT_lt hk)).later hb
    have hq2 : MQ_ w5 w.heap.size (ownT w4 (ownT w3 (fun _ => 0) p1) p2) p2 (newM c) := MQ_.new hm2 HB.out.size
    have HB5 := Lib.hid (stepB HB.out hb)
    clear hb hm2 z0 z1 z2 z3 z4 z5 z6 z7 HQ1 HB KC
    generalize ownT w4 (ownT w3 (fun _ => 0) p1) p2 = own at hq1 hq2
    have HQ1 := Lib.hid hq1
    have HQ2 := Lib.hid hq2
    clear hq1 hq2
    go_wp2
    go_loopw [11] (fun i W => ∃ (k : Nat) (s1 s2 : MS) (own : Nat → Nat), k ≤ n ∧ i = .int .i64 k ∧ MQ_ W w.heap.size own p1 s1 ∧ MQ_ W w.heap.size own p2 s2 ∧ VcM s1 s2 ∧ s1.txns.length ≤ k ∧ Below w.heap.size w W) (fun i _ => n - (intOf i).toNat)
    case atStart => exact ⟨0, _, _, own, Nat.zero_le _, rfl, HQ1.out, HQ2.out, VcM.new c, Nat.le_refl _, HB5.out⟩
    case round =>
      obtain ⟨k, s1, s2, own, hk, rfl, hq1, hq2, hv, htl, hb⟩ := hrel
      have HBW := Lib.hid hb
      have HN2 : Hid (n < 200) := Lib.hid (by rw [← HLN.out]; exact HLG.out)
      clear HQ1 HQ2 HB5 hb
      have HQ1 := Lib.hid hq1
      have HQ2 := Lib.hid hq2
      have HV := Lib.hid hv
      have HTL := Lib.hid htl
      clear hq1 hq2 hv htl
      by_cases hlt : k < n
      · have d2 : decide ((k : Int) < (n : Int)) = true := decide_eq_true (by omega)
        have wk : IntKind.i64.wrap ((k : Int) + 1) = (k : Int) + 1 := IntWalk.i64_in _ (by have := HN2.out; omega)
        obtain ⟨g, off, rfl, hg, hc⟩ := (HS.out wr HBW.out).2 (by omega)
        have i1 := idx55 g off n cc k (k : Int) rfl hlt
        have hrk : L[k]? = some (L[k]'(by rw [HLN.out]; exact hlt)) := List.getElem?_eq_getElem _
        have hok := HZ.out _ (List.mem_of_getElem? hrk)
        have HTK := Lib.hid (runM_take (newM c) L k _ hrk)
        generalize L[k]'(by rw [HLN.out]; exact hlt) = r at *
        obtain ⟨ta, kn, tx, ke, en, va, li, eg⟩ := r
        have HCO := Lib.hid hok.2
        have HTA := Lib.hid hok.1
        have hcell : ∀ W, Below w.heap.size w W → W.cell? ⟨g, off + k * 8, none⟩ = some (.int .i64 ta) ∧ W.cell? ⟨g, off + k * 8 + 1, none⟩ = some (.int .u8 kn) ∧ W.cell? ⟨g, off + k * 8 + 1 + 1, none⟩ = some (.int .i64 tx) ∧ W.cell? ⟨g, off + k * 8 + 1 + 2, none⟩ = some (.string ke) ∧ W.cell? ⟨g, off + k * 8 + 1 + 3, none⟩ = some (.string en) ∧ W.cell? ⟨g, off + k * 8 + 1 + 4, none⟩ = some (.string va) ∧ W.cell? ⟨g, off + k * 8 + 1 + 5, none⟩ = some (.int .i64 li) ∧ W.cell? ⟨g, off + k * 8 + 1 + 6, none⟩ = some (.int .u8 eg) := fun W hW => by
          obtain ⟨g2, off2, e, hg2, hc2⟩ := (HS.out W hW).2 (by omega)
          cases e
          exact ⟨hc2 k _ hrk 0 (by decide), hc2 k _ hrk 1 (by decide), hc2 k _ hrk 2 (by decide), hc2 k _ hrk 3 (by decide), hc2 k _ hrk 4 (by decide), hc2 k _ hrk 5 (by decide), hc2 k _ hrk 6 (by decide), hc2 k _ hrk 7 (by decide)⟩
        have HCE := Lib.hid hcell
        obtain ⟨y0, y1, y2, y3, y4, y5, y6, y7⟩ := hcell wr HBW.out
        clear hc hg hrk hok hcell
        by_cases h8 : kn = 8
        · have d8 : ((kn : Int) == 8) = true := by rw [h8]; rfl
          clear h8 y0 y2 y3 y4 y5 y6 y7
          go_wp2
          go_roundw
          case rel => exact ⟨k + 1, s1, s2, own, by omega, by go_num, HQ1.out, HQ2.out, HV.out, by have := HTL.out; omega, HBW.out⟩
          case measure => simp [intOf]; omega
        have d8 : ((kn : Int) == 8) = false := by rw [beq_eq_false_iff_ne]; omega
        have H8 := Lib.hid h8
        have HKN := Lib.hid hk
        have HLT := Lib.hid hlt
        go_upto_region 11 with (fail)
        clear y0 y1 y2 y3 y4 y5 y6 y7 d8 h8 hk
        go_cut [64] (fun s64 W => ∃ b : Bool, s64 = .bool b ∧ wr = W)
        case first =>
          by_cases hl2 : k < n2
          · have d3 : decide ((k : Int) < (n2 : Int)) = true := decide_eq_true (by omega)
            obtain ⟨g2, off2, rfl, hg2, hc2⟩ := (HS2.out wr HBW.out).2 (by omega)
            have i2 := idx50 g2 off2 n2 c2 k (k : Int) rfl hl2
            have hrk : L2[k]? = some (L2[k]'(by rw [HLN2.out]; exact hl2)) := List.getElem?_eq_getElem _
            have x0 : wr.cell? ⟨g2, off2 + k, none⟩ = some (.int .u8 (L2[k]'(by rw [HLN2.out]; exact hl2))) := by have := hc2 k _ hrk 0 (by decide); rw [Nat.mul_one, Nat.add_zero] at this; exact this
            have hbk := HZ2.out _ (List.mem_of_getElem? hrk)
            generalize L2[k]'(by rw [HLN2.out]; exact hl2) = bv at *
            unfold BOk at hbk
            clear hg2 hc2 hrk i1
            rcases (by omega : bv % 2 = 0 ∨ bv % 2 = 1) with hb2 | hb2
            · have r2 : IntKind.u8.wrap (Int.tmod bv 2) = 0 := rem_u8 hbk hb2
              clear hbk hb2
              go_wp2
              go_meet
              exact ⟨_, rfl, rfl⟩
            · have r2 : IntKind.u8.wrap (Int.tmod bv 2) = 1 := rem_u8 hbk hb2
              clear hbk hb2
              go_wp2
              go_meet
              exact ⟨_, rfl, rfl⟩
          · have d3 : decide ((k : Int) < (n2 : Int)) = false := decide_eq_false (by omega)
            clear i1
            go_wp2
            go_meet
            exact ⟨_, rfl, rfl⟩
        case rest =>
        obtain ⟨b, rfl, rfl⟩ := hcut
        go_upto_if 64 with (fail)
        have HC2 : Hid (∀ W own, MQ_ W w.heap.size own p2 s2 → Calls Try.prog 18 #[.pointer (some ⟨p2, 0, none⟩), .int .i64 0, .agg #[.int .u8 8, .int .i64 0, .string ⟨#[]⟩, .string ⟨#[]⟩, .string ⟨#[]⟩, .int .i64 0, .int .u8 0]] W (DoE w.heap.size own p2 (doM s2 0 (8, 0, ⟨#[]⟩, ⟨#[]⟩, ⟨#[]⟩, 0, 0)).1 (doM s2 0 (8, 0, ⟨#[]⟩, ⟨#[]⟩, ⟨#[]⟩, 0, 0)).2 W)) := Lib.hid (fun W own h => mq_do' h 0 0 0 ⟨#[]⟩ ⟨#[]⟩ ⟨#[]⟩ 8 0 8 0 rfl rfl (by rw [HV.out.txns]; have := HTL.out; have := HN2.out; omega) cok_vac)
        have HVV := Lib.hid (vac_do HQ2.out.ok)
        rw [HVV.out] at HC2
        clear HVV
        go_cut [67] (fun s67 W => ∃ (s2' : MS) (own' : Nat → Nat), MQ_ W w.heap.size own' p1 s1 ∧ MQ_ W w.heap.size own' p2 s2' ∧ VcM s1 s2' ∧ Below w.heap.size w W)
        case first =>
          cases b with
          | false =>
            go_wp2
            go_meet
            exact ⟨_, _, HQ1.out, HQ2.out, HV.out, HBW.out⟩
          | true =>
            have hbt : Try.prog.built 36 [(0, .int .u8 8)] = some #[.int .u8 8, .int .i64 0, .string ⟨#[]⟩, .string ⟨#[]⟩, .string ⟨#[]⟩, .int .i64 0, .int .u8 0] := by kernel_rfl
            go_wp2_with fail
            refine (HC2.out _ _ HQ2.out).mono ?_
            rintro e w6 ⟨A6, c6, rfl, _, hm, hoth, _, hbl⟩
            have HQ2' := Lib.hid hm
            have HQ1' := Lib.hid (hoth _ _ HNE.out HQ1.out)
            have HB6 := Lib.hid (hbl _ _ HBW.out (Nat.le_refl _))
            clear hm hoth hbl
            go_wp2
            go_meet
            exact ⟨_, _, HQ1'.out, HQ2'.out, HV.out.vac HQ2.out.ok, HB6.out⟩
        case rest =>
        obtain ⟨s2', own', hq1, hq2, hv, hb⟩ := hcut
        clear HQ1 HQ2 HV HBW HC2
        have HQ1 := Lib.hid hq1
        have HQ2 := Lib.hid hq2
        have HV := Lib.hid hv
        have HBW := Lib.hid hb
        clear hq1 hq2 hv hb
        obtain ⟨R1, hR1⟩ : ∃ R, doM s1 ta (kn, tx, ke, en, va, li, eg) = R := ⟨_, rfl⟩
        obtain ⟨R2, hR2⟩ : ∃ R, doM s2' ta (kn, tx, ke, en, va, li, eg) = R := ⟨_, rfl⟩
        obtain ⟨t1, er1, fo1, va1, pr1⟩ := R1
        obtain ⟨t2, er2, fo2, va2, pr2⟩ := R2
        have HC1 : Hid (∀ W own, MQ_ W w.heap.size own p1 s1 → Calls Try.prog 18 #[.pointer (some ⟨p1, 0, none⟩), .int .i64 ta, .agg #[.int .u8 (kn : Int), .int .i64 tx, .string ke, .string en, .string va, .int .i64 li, .int .u8 (eg : Int)]] W (DoE w.heap.size own p1 t1 (er1, fo1, va1, pr1) W)) := Lib.hid (fun W own h => by
          have := mq_do h ta tx li ke en va kn eg (by have := HTL.out; have := HN2.out; omega) HCO.out
          rw [hR1] at this; exact this)
        have HC2 : Hid (∀ W own, MQ_ W w.heap.size own p2 s2' → Calls Try.prog 18 #[.pointer (some ⟨p2, 0, none⟩), .int .i64 ta, .agg #[.int .u8 (kn : Int), .int .i64 tx, .string ke, .string en, .string va, .int .i64 li, .int .u8 (eg : Int)]] W (DoE w.heap.size own p2 t2 (er2, fo2, va2, pr2) W)) := Lib.hid (fun W own h => by
          have := mq_do h ta tx li ke en va kn eg (by rw [HV.out.txns]; have := HTL.out; have := HN2.out; omega) HCO.out
          rw [hR2] at this; exact this)
        have HVD : Hid (er1 = 34 ∨ (VcM t1 t2 ∧ (er2, fo2, va2, pr2) = (er1, fo1, va1, pr1))) := Lib.hid (by
          have := HV.out.do_ HQ1.out.ok HQ2.out.ok ta (kn, tx, ke, en, va, li, eg) H8.out
          rw [hR1, hR2] at this; exact this)
        have HT1 : Hid (t1.txns.length ≤ k + 1) := Lib.hid (by
          have := doM_txns s1 ta (kn, tx, ke, en, va, li, eg)
          rw [hR1] at this
          have := HTL.out
          simp only at *
          omega)
        have HLP : Hid (pr1.length ≤ 100000) := Lib.hid (by
          have := pairs_le s1 ta (kn, tx, ke, en, va, li, eg)
          rw [hR1] at this
          simp only at this; omega)
        clear hR1 hR2 HV HTL
        go_upto_region 13 with (fail)
        go_cut [12, 13] (fun s12 s13 W => PairAt w W p1 p2 t1 t2 (er1, fo1, va1, pr1) (er2, fo2, va2, pr2) s12 s13)
        case first =>
          refine wp_region_noPanic ?_
          obtain ⟨W0, rfl⟩ : ∃ W0 : World, W0 = wc := ⟨_, rfl⟩
          refine wp_region_held_drew (S := fun W => Below w.heap.size w W) (by kernel_rfl) (Below.drew HBW.out) (fun hHeld => ?_)
          replace HBW : Hid (Below w.heap.size w (World.drew W0)) := Lib.hid (Below.drew HBW.out)
          replace HQ1 : Hid (MQ_ (World.drew W0) w.heap.size own' p1 s1) := Lib.hid (HQ1.out.later (Below.drew (Below.refl _ _)))
          replace HQ2 : Hid (MQ_ (World.drew W0) w.heap.size own' p2 s2') := Lib.hid (HQ2.out.later (Below.drew (Below.refl _ _)))
          generalize World.drew W0 = Wd at *
          refine wpAnyH_take (i := 0) (oi := { dst := some 68, op := Op.move (Operand.tmp 7), type := 22, pos := "outright.go:271", after := #[], guard := none }) (v := ?_) rfl (by kernel_rfl) (by kernel_rfl) (by kernel_rfl) (fun _ _ _ h => h) (Or.inl ⟨by rfl, ?_⟩) (by assumption) ?_
          rotate_left
          · intro W hSw
            clear hSw
            go_simp
            try with_reducible rfl
          simp only [Act.put, List.setIfInBounds_toArray, List.set_cons_zero, List.set_cons_succ]
          refine wpAnyH_take (i := 1) (oi := { dst := some 69, op := Op.move (Operand.tmp 1), type := 55, pos := "outright.go:271", after := #[], guard := none }) (v := ?_) rfl (by kernel_rfl) (by kernel_rfl) (by kernel_rfl) (fun _ _ _ h => h) (Or.inl ⟨by rfl, ?_⟩) (by assumption) ?_
          rotate_left
          · intro W hSw
            clear hSw
            go_simp
            try with_reducible rfl
          simp only [Act.put, List.setIfInBounds_toArray, List.set_cons_zero, List.set_cons_succ]
          refine wpAnyH_take (i := 2) (oi := { dst := some 70, op := Op.move (Operand.tmp 11), type := 3, pos := "outright.go:271", after := #[], guard := none }) (v := ?_) rfl (by kernel_rfl) (by kernel_rfl) (by kernel_rfl) (fun _ _ _ h => h) (Or.inl ⟨by rfl, ?_⟩) (by assumption) ?_
          rotate_left
          · intro W hSw
            clear hSw
            go_simp
            try with_reducible rfl
          simp only [Act.put, List.setIfInBounds_toArray, List.set_cons_zero, List.set_cons_succ]
          refine wpAnyH_take (i := 3) (oi := { dst := some 71, op := Op.indexAddr 55 (Operand.tmp 69) (Operand.tmp 70), type := 0, pos := "outright.go:271", after := #[{ on := 1, ground := Ground.data }, { on := 2, ground := Ground.data }], guard := none }) (v := ?_) rfl (by kernel_rfl) (by kernel_rfl) (by kernel_rfl) (fun _ _ _ h => h) (Or.inl ⟨by rfl, ?_⟩) (by assumption) ?_
          rotate_left
          · intro W hSw
            clear hSw
            go_simp
            try with_reducible rfl
          simp only [Act.put, List.setIfInBounds_toArray, List.set_cons_zero, List.set_cons_succ]
          refine wpAnyH_take (i := 4) (oi := { dst := some 72, op := Op.fieldAddr 63 (Operand.tmp 71) 0, type := 0, pos := "outright.go:271", after := #[{ on := 3, ground := Ground.data }], guard := none }) (v := ?_) rfl (by kernel_rfl) (by kernel_rfl) (by kernel_rfl) (fun _ _ _ h => h) (Or.inl ⟨by rfl, ?_⟩) (by assumption) ?_
          rotate_left
          · intro W hSw
            clear hSw
            go_simp
            try with_reducible rfl
          simp only [Act.put, List.setIfInBounds_toArray, List.set_cons_zero, List.set_cons_succ]
          refine wpAnyH_take (i := 5) (oi := { dst := some 73, op := Op.load 3 (Operand.tmp 72), type := 3, pos := "outright.go:271", after := #[{ on := 4, ground := Ground.data }], guard := none }) (v := ?_) rfl (by kernel_rfl) (by kernel_rfl) (by kernel_rfl) (fun _ _ _ h => h) (Or.inl ⟨by rfl, ?_⟩) (by assumption) ?_
          rotate_left
          · intro W hSw
            obtain ⟨y0, y1, y2, y3, y4, y5, y6, y7⟩ := HCE.out _ hSw
            clear hSw
            go_simp
            try with_reducible rfl
          simp only [Act.put, List.setIfInBounds_toArray, List.set_cons_zero, List.set_cons_succ]
          refine wpAnyH_take (i := 6) (oi := { dst := some 74, op := Op.move (Operand.tmp 1), type := 55, pos := "outright.go:271", after := #[], guard := none }) (v := ?_) rfl (by kernel_rfl) (by kernel_rfl) (by kernel_rfl) (fun _ _ _ h => h) (Or.inl ⟨by rfl, ?_⟩) (by assumption) ?_
          rotate_left
          · intro W hSw
            clear hSw
            go_simp
            try with_reducible rfl
          simp only [Act.put, List.setIfInBounds_toArray, List.set_cons_zero, List.set_cons_succ]
          refine wpAnyH_take (i := 7) (oi := { dst := some 75, op := Op.move (Operand.tmp 11), type := 3, pos := "outright.go:271", after := #[], guard := none }) (v := ?_) rfl (by kernel_rfl) (by kernel_rfl) (by kernel_rfl) (fun _ _ _ h => h) (Or.inl ⟨by rfl, ?_⟩) (by assumption) ?_
          rotate_left
          · intro W hSw
            clear hSw
            go_simp
            try with_reducible rfl
          simp only [Act.put, List.setIfInBounds_toArray, List.set_cons_zero, List.set_cons_succ]
          refine wpAnyH_take (i := 8) (oi := { dst := some 76, op := Op.indexAddr 55 (Operand.tmp 74) (Operand.tmp 75), type := 0, pos := "outright.go:271", after := #[{ on := 6, ground := Ground.data }, { on := 7, ground := Ground.data }], guard := none }) (v := ?_) rfl (by kernel_rfl) (by kernel_rfl) (by kernel_rfl) (fun _ _ _ h => h) (Or.inl ⟨by rfl, ?_⟩) (by assumption) ?_
          rotate_left
          · intro W hSw
            clear hSw
            go_simp
            try with_reducible rfl
          simp only [Act.put, List.setIfInBounds_toArray, List.set_cons_zero, List.set_cons_succ]
          refine wpAnyH_take (i := 9) (oi := { dst := some 77, op := Op.fieldAddr 63 (Operand.tmp 76) 1, type := 0, pos := "outright.go:271", after := #[{ on := 8, ground := Ground.data }], guard := none }) (v := ?_) rfl (by kernel_rfl) (by kernel_rfl) (by kernel_rfl) (fun _ _ _ h => h) (Or.inl ⟨by rfl, ?_⟩) (by assumption) ?_
          rotate_left
          · intro W hSw
            clear hSw
            go_simp
            try with_reducible rfl
          simp only [Act.put, List.setIfInBounds_toArray, List.set_cons_zero, List.set_cons_succ]
          refine wpAnyH_take (i := 10) (oi := { dst := some 78, op := Op.load 36 (Operand.tmp 77), type := 36, pos := "outright.go:271", after := #[{ on := 9, ground := Ground.data }], guard := none }) (v := ?_) rfl (by kernel_rfl) (by kernel_rfl) (by kernel_rfl) (fun _ _ _ h => h) (Or.inl ⟨by rfl, ?_⟩) (by assumption) ?_
          rotate_left
          · intro W hSw
            obtain ⟨y0, y1, y2, y3, y4, y5, y6, y7⟩ := HCE.out _ hSw
            clear hSw
            go_simp
            try with_reducible rfl
          simp only [Act.put, List.setIfInBounds_toArray, List.set_cons_zero, List.set_cons_succ]
          refine wpAnyH_take (i := 12) (oi := { dst := some 80, op := Op.move (Operand.tmp 9), type := 22, pos := "outright.go:271", after := #[], guard := none }) (v := ?_) rfl (by kernel_rfl) (by kernel_rfl) (by kernel_rfl) (fun _ _ _ h => h) (Or.inl ⟨by rfl, ?_⟩) (by assumption) ?_
          rotate_left
          · intro W hSw
            clear hSw
            go_simp
            try with_reducible rfl
          simp only [Act.put, List.setIfInBounds_toArray, List.set_cons_zero, List.set_cons_succ]
          refine wpAnyH_take (i := 13) (oi := { dst := some 81, op := Op.move (Operand.tmp 1), type := 55, pos := "outright.go:271", after := #[], guard := none }) (v := ?_) rfl (by kernel_rfl) (by kernel_rfl) (by kernel_rfl) (fun _ _ _ h => h) (Or.inl ⟨by rfl, ?_⟩) (by assumption) ?_
          rotate_left
          · intro W hSw
            clear hSw
            go_simp
            try with_reducible rfl
          simp only [Act.put, List.setIfInBounds_toArray, List.set_cons_zero, List.set_cons_succ]
          refine wpAnyH_take (i := 14) (oi := { dst := some 82, op := Op.move (Operand.tmp 11), type := 3, pos := "outright.go:271", after := #[], guard := none }) (v := ?_) rfl (by kernel_rfl) (by kernel_rfl) (by kernel_rfl) (fun _ _ _ h => h) (Or.inl ⟨by rfl, ?_⟩) (by assumption) ?_
          rotate_left
          · intro W hSw
            clear hSw
            go_simp
            try with_reducible rfl
          simp only [Act.put, List.setIfInBounds_toArray, List.set_cons_zero, List.set_cons_succ]
          refine wpAnyH_take (i := 15) (oi := { dst := some 83, op := Op.indexAddr 55 (Operand.tmp 81) (Operand.tmp 82), type := 0, pos := "outright.go:271", after := #[{ on := 13, ground := Ground.data }, { on := 14, ground := Ground.data }], guard := none }) (v := ?_) rfl (by kernel_rfl) (by kernel_rfl) (by kernel_rfl) (fun _ _ _ h => h) (Or.inl ⟨by rfl, ?_⟩) (by assumption) ?_
          rotate_left
          · intro W hSw
            clear hSw
            go_simp
            try with_reducible rfl
          simp only [Act.put, List.setIfInBounds_toArray, List.set_cons_zero, List.set_cons_succ]
          refine wpAnyH_take (i := 16) (oi := { dst := some 84, op := Op.fieldAddr 63 (Operand.tmp 83) 0, type := 0, pos := "outright.go:271", after := #[{ on := 15, ground := Ground.data }], guard := none }) (v := ?_) rfl (by kernel_rfl) (by kernel_rfl) (by kernel_rfl) (fun _ _ _ h => h) (Or.inl ⟨by rfl, ?_⟩) (by assumption) ?_
          rotate_left
          · intro W hSw
            clear hSw
            go_simp
            try with_reducible rfl
          simp only [Act.put, List.setIfInBounds_toArray, List.set_cons_zero, List.set_cons_succ]
          refine wpAnyH_take (i := 17) (oi := { dst := some 85, op := Op.load 3 (Operand.tmp 84), type := 3, pos := "outright.go:271", after := #[{ on := 16, ground := Ground.data }], guard := none }) (v := ?_) rfl (by kernel_rfl) (by kernel_rfl) (by kernel_rfl) (fun _ _ _ h => h) (Or.inl ⟨by rfl, ?_⟩) (by assumption) ?_
          rotate_left
          · intro W hSw
            obtain ⟨y0, y1, y2, y3, y4, y5, y6, y7⟩ := HCE.out _ hSw
            clear hSw
            go_simp
            try with_reducible rfl
          simp only [Act.put, List.setIfInBounds_toArray, List.set_cons_zero, List.set_cons_succ]
          refine wpAnyH_take (i := 18) (oi := { dst := some 86, op := Op.move (Operand.tmp 1), type := 55, pos := "outright.go:271", after := #[], guard := none }) (v := ?_) rfl (by kernel_rfl) (by kernel_rfl) (by kernel_rfl) (fun _ _ _ h => h) (Or.inl ⟨by rfl, ?_⟩) (by assumption) ?_
          rotate_left
          · intro W hSw
            clear hSw
            go_simp
            try with_reducible rfl
          simp only [Act.put, List.setIfInBounds_toArray, List.set_cons_zero, List.set_cons_succ]
          refine wpAnyH_take (i := 19) (oi := { dst := some 87, op := Op.move (Operand.tmp 11), type := 3, pos := "outright.go:271", after := #[], guard := none }) (v := ?_) rfl (by kernel_rfl) (by kernel_rfl) (by kernel_rfl) (fun _ _ _ h => h) (Or.inl ⟨by rfl, ?_⟩) (by assumption) ?_
          rotate_left
          · intro W hSw
            clear hSw
            go_simp
            try with_reducible rfl
          simp only [Act.put, List.setIfInBounds_toArray, List.set_cons_zero, List.set_cons_succ]
          refine wpAnyH_take (i := 20) (oi := { dst := some 88, op := Op.indexAddr 55 (Operand.tmp 86) (Operand.tmp 87), type := 0, pos := "outright.go:271", after := #[{ on := 18, ground := Ground.data }, { on := 19, ground := Ground.data }], guard := none }) (v := ?_) rfl (by kernel_rfl) (by kernel_rfl) (by kernel_rfl) (fun _ _ _ h => h) (Or.inl ⟨by rfl, ?_⟩) (by assumption) ?_
          rotate_left
          · intro W hSw
            clear hSw
            go_simp
            try with_reducible rfl
          simp only [Act.put, List.setIfInBounds_toArray, List.set_cons_zero, List.set_cons_succ]
          refine wpAnyH_take (i := 21) (oi := { dst := some 89, op := Op.fieldAddr 63 (Operand.tmp 88) 1, type := 0, pos := "outright.go:271", after := #[{ on := 20, ground := Ground.data }], guard := none }) (v := ?_) rfl (by kernel_rfl) (by kernel_rfl) (by kernel_rfl) (fun _ _ _ h => h) (Or.inl ⟨by rfl, ?_⟩) (by assumption) ?_
          rotate_left
          · intro W hSw
            clear hSw
            go_simp
            try with_reducible rfl
          simp only [Act.put, List.setIfInBounds_toArray, List.set_cons_zero, List.set_cons_succ]
          refine wpAnyH_take (i := 22) (oi := { dst := some 90, op := Op.load 36 (Operand.tmp 89), type := 36, pos := "outright.go:271", after := #[{ on := 21, ground := Ground.data }], guard := none }) (v := ?_) rfl (by kernel_rfl) (by kernel_rfl) (by kernel_rfl) (fun _ _ _ h => h) (Or.inl ⟨by rfl, ?_⟩) (by assumption) ?_
          rotate_left
          · intro W hSw
            obtain ⟨y0, y1, y2, y3, y4, y5, y6, y7⟩ := HCE.out _ hSw
            clear hSw
            go_simp
            try with_reducible rfl
          simp only [Act.put, List.setIfInBounds_toArray, List.set_cons_zero, List.set_cons_succ]
          refine wpAnyH_ready (rs := [11, 24, 25]) (by kernel_rfl) (by simp) (AllReadyH.cons (o := { dst := some 79, op := Op.call { callee := Callee.value (Operand.func 18), args := #[Operand.tmp 68, Operand.tmp 73, Operand.tmp 78], argTypes := #[22, 3, 36] }, type := 33, pos := "outright.go:271", after := #[{ on := 0, ground := Ground.data }, { on := 5, ground := Ground.data }, { on := 10, ground := Ground.data }], guard := none }) rfl (fun K hK => ?_) (AllReadyH.cons (o := { dst := some 12, op := Op.alloc 33, type := 0, pos := "outright.go:271", after := #[], guard := none }) rfl (fun K hK => ?_) (AllReadyH.cons (o := { dst := some 13, op := Op.alloc 33, type := 0, pos := "outright.go:271", after := #[], guard := none }) rfl (fun K hK => ?_) AllReadyH.nil)))
          · have HCL := Lib.hid (HC1.out Wd _ HQ1.out)
            go_simp
            refine HCL.out.mono ?_
            rintro e Wp1 ⟨A1, c1, rfl, hro, hm, hoth, hkp, hbl⟩
            have HRO1S := Lib.hid (hro.base HBW.out.size)
            replace HQ1 := Lib.hid hm
            replace HQ2 := Lib.hid (hoth _ _ HNE.out.symm HQ2.out)
            have RO1 := HRO1S
            replace HBW := Lib.hid (hbl _ _ HBW.out (Nat.le_refl _))
            clear hro hm hoth hkp hbl hHeld HCL HC1 HRO1S
            refine hK.out _ _ (HBW.out) (fun hHeld => ?_)
            clear hK K
            refine wpAnyH_ready (rs := [23, 24, 25]) (by kernel_rfl) (by simp) (AllReadyH.cons (o := { dst := some 91, op := Op.call { callee := Callee.value (Operand.func 18), args := #[Operand.tmp 80, Operand.tmp 85, Operand.tmp 90], argTypes := #[22, 3, 36] }, type := 33, pos := "outright.go:271", after := #[{ on := 12, ground := Ground.data }, { on := 17, ground := Ground.data }, { on := 22, ground := Ground.data }, { on := 11, ground := Ground.chain }], guard := none }) rfl (fun K hK => ?_) (AllReadyH.cons (o := { dst := some 12, op := Op.alloc 33, type := 0, pos := "outright.go:271", after := #[], guard := none }) rfl (fun K hK => ?_) (AllReadyH.cons (o := { dst := some 13, op := Op.alloc 33, type := 0, pos := "outright.go:271", after := #[], guard := none }) rfl (fun K hK => ?_) AllReadyH.nil)))
            · have HCL := Lib.hid (HC2.out Wp1 _ HQ2.out)
              go_simp
              refine HCL.out.mono ?_
              rintro e Wp2 ⟨A2, c2, rfl, hro, hm, hoth, hkp, hbl⟩
              have HRO2S := Lib.hid (hro.base HBW.out.size)
              replace HQ2 := Lib.hid hm
              replace HQ1 := Lib.hid (hoth _ _ HNE.out HQ1.out)
              replace RO1 := Lib.hid (RO1.out.kp hkp (by decide) (by decide) (by decide) (by decide))
              have RO2 := HRO2S
              replace HBW := Lib.hid (hbl _ _ HBW.out (Nat.le_refl _))
              clear hro hm hoth hkp hbl hHeld HCL HC2 HRO2S
              refine hK.out _ _ (HBW.out) (fun hHeld => ?_)
              clear hK K
              refine wpAnyH_ready (rs := [24, 25]) (by kernel_rfl) (by simp) (AllReadyH.cons (o := { dst := some 12, op := Op.alloc 33, type := 0, pos := "outright.go:271", after := #[], guard := none }) rfl (fun K hK => ?_) (AllReadyH.cons (o := { dst := some 13, op := Op.alloc 33, type := 0, pos := "outright.go:271", after := #[], guard := none }) rfl (fun K hK => ?_) AllReadyH.nil))
              · go_simp
                have hb : Below Wp2.heap.size Wp2 (Wp2.alloc (.cells #[.int .i64 0, .bool false, .string ⟨#[]⟩, .slice none 0 0] 33)) := (Below.refl _ _).alloc (Nat.le_refl _) _
                replace HQ1 := Lib.hid (HQ1.out.later hb)
                replace HQ2 := Lib.hid (HQ2.out.later hb)
                replace RO1 := Lib.hid (RO1.out.later hb)
                replace RO2 := Lib.hid (RO2.out.later hb)
                have KA : Hid (Blk (Wp2.alloc (.cells #[.int .i64 0, .bool false, .string ⟨#[]⟩, .slice none 0 0] 33)) Wp2.heap.size #[.int .i64 0, .bool false, .string ⟨#[]⟩, .slice none 0 0] 33) := Lib.hid (Blk.new Wp2 _ 33)
                have HPKA : Hid (w.heap.size ≤ Wp2.heap.size) := Lib.hid HBW.out.size
                replace HBW := Lib.hid (stepB HBW.out hb)
                clear hb hHeld
                refine hK.out _ _ (HBW.out) (fun hHeld => ?_)
                clear hK K
                generalize Wp2.alloc (.cells #[.int .i64 0, .bool false, .string ⟨#[]⟩, .slice none 0 0] 33) = Wp3 at *
                obtain ⟨pa, hpp⟩ : ∃ x, Wp2.heap.size = x := ⟨_, rfl⟩
                rw [hpp] at KA HPKA ⊢
                clear hpp
                refine wpAnyH_ready (rs := [25]) (by kernel_rfl) (by simp) (AllReadyH.cons (o := { dst := some 13, op := Op.alloc 33, type := 0, pos := "outright.go:271", after := #[], guard := none }) rfl (fun K hK => ?_) AllReadyH.nil)
                go_simp
                have hb : Below Wp3.heap.size Wp3 (Wp3.alloc (.cells #[.int .i64 0, .bool false, .string ⟨#[]⟩, .slice none 0 0] 33)) := (Below.refl _ _).alloc (Nat.le_refl _) _
                have HNAB := Lib.hid (show pa ≠ Wp3.heap.size from by have := KA.out.lt; omega)
                replace HQ1 := Lib.hid (HQ1.out.later hb)
                replace HQ2 := Lib.hid (HQ2.out.later hb)
                replace KA := Lib.hid (KA.out.later hb)
                replace RO1 := Lib.hid (RO1.out.later hb)
                replace RO2 := Lib.hid (RO2.out.later hb)
                have KB : Hid (Blk (Wp3.alloc (.cells #[.int .i64 0, .bool false, .string ⟨#[]⟩, .slice none 0 0] 33)) Wp3.heap.size #[.int .i64 0, .bool false, .string ⟨#[]⟩, .slice none 0 0] 33) := Lib.hid (Blk.new Wp3 _ 33)
                have HPKB : Hid (w.heap.size ≤ Wp3.heap.size) := Lib.hid HBW.out.size
                replace HBW := Lib.hid (stepB HBW.out hb)
                clear hb hHeld
                refine hK.out _ _ (HBW.out) (fun hHeld => ?_)
                clear hK K
                generalize Wp3.alloc (.cells #[.int .i64 0, .bool false, .string ⟨#[]⟩, .slice none 0 0] 33) = Wp4 at *
                obtain ⟨pb, hpp⟩ : ∃ x, Wp3.heap.size = x := ⟨_, rfl⟩
                rw [hpp] at KB HPKB HNAB ⊢
                clear hpp
                refine wpAnyH_ready (rs := [26]) (by kernel_rfl) (by simp) (AllReadyH.cons (o := { dst := none, op := Op.store 33 (Operand.tmp 12) (Operand.tmp 79), type := 0, pos := "outright.go:271", after := #[{ on := 24, ground := Ground.data }, { on := 11, ground := Ground.data }, { on := 23, ground := Ground.chain }, { on := 0, ground := Ground.phase }, { on := 1, ground := Ground.phase }, { on := 2, ground := Ground.phase }, { on := 3, ground := Ground.phase }, { on := 4, ground := Ground.phase }, { on := 5, ground := Ground.phase }, { on := 6, ground := Ground.phase }, { on := 7, ground := Ground.phase }, { on := 8, ground := Ground.phase }, { on := 9, ground := Ground.phase }, { on := 10, ground := Ground.phase }, { on := 11, ground := Ground.phase }, { on := 12, ground := Ground.textOnly Departure.lateStores }, { on := 13, ground := Ground.textOnly Departure.lateStores }, { on := 14, ground := Ground.textOnly Departure.lateStores }, { on := 15, ground := Ground.textOnly Departure.lateStores }, { on := 16, ground := Ground.textOnly Departure.lateStores }, { on := 17, ground := Ground.textOnly Departure.lateStores }, { on := 18, ground := Ground.textOnly Departure.lateStores }, { on := 19, ground := Ground.textOnly Departure.lateStores }, { on := 20, ground := Ground.textOnly Departure.lateStores }, { on := 21, ground := Ground.textOnly Departure.lateStores }, { on := 22, ground := Ground.textOnly Departure.lateStores }, { on := 23, ground := Ground.textOnly Departure.lateStoresUnsure }, { on := 24, ground := Ground.phase }, { on := 25, ground := Ground.phase }], guard := none }) rfl (fun K hK => ?_) AllReadyH.nil)
                refine wp_store_row 33 (.tmp 12) (.tmp 79) rfl pa #[.int .i64 er1, .bool fo1, .string va1, .slice A1 pr1.length c1] rfl rfl 33 #[.int .i64 0, .bool false, .string ⟨#[]⟩, .slice none 0 0] KA.out (by kernel_rfl) rfl (by first | rfl | (simp [Value.oneCell']; done)) ?_
                replace HQ1 : Hid (MQ_ (Wp4.setRow pa #[.int .i64 er1, .bool fo1, .string va1, .slice A1 pr1.length c1]) _ _ _ _) := Lib.hid (HQ1.out.setRow KA.out (by decide) (by decide) (by decide) (by decide) (by decide))
                replace HQ2 : Hid (MQ_ (Wp4.setRow pa #[.int .i64 er1, .bool fo1, .string va1, .slice A1 pr1.length c1]) _ _ _ _) := Lib.hid (HQ2.out.setRow KA.out (by decide) (by decide) (by decide) (by decide) (by decide))
                replace KB : Hid (Blk (Wp4.setRow pa #[.int .i64 er1, .bool fo1, .string va1, .slice A1 pr1.length c1]) _ _ _) := Lib.hid (Blk.setRow KB.out HNAB.out.symm)
                replace RO1 := Lib.hid (ROwn.setRow (c2 := #[.int .i64 er1, .bool fo1, .string va1, .slice A1 pr1.length c1]) RO1.out KA.out (by decide))
                replace RO2 := Lib.hid (ROwn.setRow (c2 := #[.int .i64 er1, .bool fo1, .string va1, .slice A1 pr1.length c1]) RO2.out KA.out (by decide))
                replace HBW : Hid (Below w.heap.size w (Wp4.setRow pa #[.int .i64 er1, .bool fo1, .string va1, .slice A1 pr1.length c1])) := Lib.hid (below_setRow HBW.out HPKA.out _)
                replace KA : Hid (Blk (Wp4.setRow pa #[.int .i64 er1, .bool fo1, .string va1, .slice A1 pr1.length c1]) pa #[.int .i64 er1, .bool fo1, .string va1, .slice A1 pr1.length c1] 33) := Lib.hid (Blk.setRow_self KA.out)
                clear hHeld
                refine hK.out _ _ (HBW.out) (fun hHeld => ?_)
                clear hK K
                generalize Wp4.setRow pa #[.int .i64 er1, .bool fo1, .string va1, .slice A1 pr1.length c1] = Wp5 at *
                refine wpAnyH_ready (rs := [27]) (by kernel_rfl) (by simp) (AllReadyH.cons (o := { dst := none, op := Op.store 33 (Operand.tmp 13) (Operand.tmp 91), type := 0, pos := "outright.go:271", after := #[{ on := 25, ground := Ground.data }, { on := 23, ground := Ground.data }, { on := 26, ground := Ground.chain }, { on := 0, ground := Ground.phase }, { on := 1, ground := Ground.phase }, { on := 2, ground := Ground.phase }, { on := 3, ground := Ground.phase }, { on := 4, ground := Ground.phase }, { on := 5, ground := Ground.phase }, { on := 6, ground := Ground.phase }, { on := 7, ground := Ground.phase }, { on := 8, ground := Ground.phase }, { on := 9, ground := Ground.phase }, { on := 10, ground := Ground.phase }, { on := 11, ground := Ground.phase }, { on := 12, ground := Ground.phase }, { on := 13, ground := Ground.phase }, { on := 14, ground := Ground.phase }, { on := 15, ground := Ground.phase }, { on := 16, ground := Ground.phase }, { on := 17, ground := Ground.phase }, { on := 18, ground := Ground.phase }, { on := 19, ground := Ground.phase }, { on := 20, ground := Ground.phase }, { on := 21, ground := Ground.phase }, { on := 22, ground := Ground.phase }, { on := 23, ground := Ground.phase }, { on := 24, ground := Ground.phase }, { on := 25, ground := Ground.phase }, { on := 26, ground := Ground.phase }], guard := none }) rfl (fun K hK => ?_) AllReadyH.nil)
                refine wp_store_row 33 (.tmp 13) (.tmp 91) rfl pb #[.int .i64 er2, .bool fo2, .string va2, .slice A2 pr2.length c2] rfl rfl 33 #[.int .i64 0, .bool false, .string ⟨#[]⟩, .slice none 0 0] KB.out (by kernel_rfl) rfl (by first | rfl | (simp [Value.oneCell']; done)) ?_
                replace HQ1 : Hid (MQ_ (Wp5.setRow pb #[.int .i64 er2, .bool fo2, .string va2, .slice A2 pr2.length c2]) _ _ _ _) := Lib.hid (HQ1.out.setRow KB.out (by decide) (by decide) (by decide) (by decide) (by decide))
                replace HQ2 : Hid (MQ_ (Wp5.setRow pb #[.int .i64 er2, .bool fo2, .string va2, .slice A2 pr2.length c2]) _ _ _ _) := Lib.hid (HQ2.out.setRow KB.out (by decide) (by decide) (by decide) (by decide) (by decide))
                replace KA : Hid (Blk (Wp5.setRow pb #[.int .i64 er2, .bool fo2, .string va2, .slice A2 pr2.length c2]) _ _ _) := Lib.hid (Blk.setRow KA.out HNAB.out)
                replace RO1 := Lib.hid (ROwn.setRow (c2 := #[.int .i64 er2, .bool fo2, .string va2, .slice A2 pr2.length c2]) RO1.out KB.out (by decide))
                replace RO2 := Lib.hid (ROwn.setRow (c2 := #[.int .i64 er2, .bool fo2, .string va2, .slice A2 pr2.length c2]) RO2.out KB.out (by decide))
                replace HBW : Hid (Below w.heap.size w (Wp5.setRow pb #[.int .i64 er2, .bool fo2, .string va2, .slice A2 pr2.length c2])) := Lib.hid (below_setRow HBW.out HPKB.out _)
                replace KB : Hid (Blk (Wp5.setRow pb #[.int .i64 er2, .bool fo2, .string va2, .slice A2 pr2.length c2]) pb #[.int .i64 er2, .bool fo2, .string va2, .slice A2 pr2.length c2] 33) := Lib.hid (Blk.setRow_self KB.out)
                clear hHeld
                refine hK.out _ _ (HBW.out) (fun hHeld => ?_)
                clear hK K
                generalize Wp5.setRow pb #[.int .i64 er2, .bool fo2, .string va2, .slice A2 pr2.length c2] = Wp6 at *
                refine wpAnyH_done (by kernel_rfl) (NoPanic.normal ?_) _
                clear hHeld
                go_wp2
                go_meet
                exact ⟨_, _, _, _, _, _, _, rfl, rfl, KA.out, KB.out, RO1.out, RO2.out, HQ1.out, HQ2.out, HBW.out⟩
              · go_simp
                have hb : Below Wp2.heap.size Wp2 (Wp2.alloc (.cells #[.int .i64 0, .bool false, .string ⟨#[]⟩, .slice none 0 0] 33)) := (Below.refl _ _).alloc (Nat.le_refl _) _
                replace HQ1 := Lib.hid (HQ1.out.later hb)
                replace HQ2 := Lib.hid (HQ2.out.later hb)
                replace RO1 := Lib.hid (RO1.out.later hb)
                replace RO2 := Lib.hid (RO2.out.later hb)
                have KB : Hid (Blk (Wp2.alloc (.cells #[.int .i64 0, .bool false, .string ⟨#[]⟩, .slice none 0 0] 33)) Wp2.heap.size #[.int .i64 0, .bool false, .string ⟨#[]⟩, .slice none 0 0] 33) := Lib.hid (Blk.new Wp2 _ 33)
                have HPKB : Hid (w.heap.size ≤ Wp2.heap.size) := Lib.hid HBW.out.size
                replace HBW := Lib.hid (stepB HBW.out hb)
                clear hb hHeld
                refine hK.out _ _ (HBW.out) (fun hHeld => ?_)
                clear hK K
                generalize Wp2.alloc (.cells #[.int .i64 0, .bool false, .string ⟨#[]⟩, .slice none 0 0] 33) = Wp7 at *
                obtain ⟨pb, hpp⟩ : ∃ x, Wp2.heap.size = x := ⟨_, rfl⟩
                rw [hpp] at KB HPKB ⊢
                clear hpp
                refine wpAnyH_ready (rs := [24]) (by kernel_rfl) (by simp) (AllReadyH.cons (o := { dst := some 12, op := Op.alloc 33, type := 0, pos := "outright.go:271", after := #[], guard := none }) rfl (fun K hK => ?_) AllReadyH.nil)
                go_simp
                have hb : Below Wp7.heap.size Wp7 (Wp7.alloc (.cells #[.int .i64 0, .bool false, .string ⟨#[]⟩, .slice none 0 0] 33)) := (Below.refl _ _).alloc (Nat.le_refl _) _
                have HNAB := Lib.hid (show Wp7.heap.size ≠ pb from by have := KB.out.lt; omega)
                replace HQ1 := Lib.hid (HQ1.out.later hb)
                replace HQ2 := Lib.hid (HQ2.out.later hb)
                replace KB := Lib.hid (KB.out.later hb)
                replace RO1 := Lib.hid (RO1.out.later hb)
                replace RO2 := Lib.hid (RO2.out.later hb)
                have KA : Hid (Blk (Wp7.alloc (.cells #[.int .i64 0, .bool false, .string ⟨#[]⟩, .slice none 0 0] 33)) Wp7.heap.size #[.int .i64 0, .bool false, .string ⟨#[]⟩, .slice none 0 0] 33) := Lib.hid (Blk.new Wp7 _ 33)
                have HPKA : Hid (w.heap.size ≤ Wp7.heap.size) := Lib.hid HBW.out.size
                replace HBW := Lib.hid (stepB HBW.out hb)
                clear hb hHeld
                refine hK.out _ _ (HBW.out) (fun hHeld => ?_)
                clear hK K
                generalize Wp7.alloc (.cells #[.int .i64 0, .bool false, .string ⟨#[]⟩, .slice none 0 0] 33) = Wp8 at *
                obtain ⟨pa, hpp⟩ : ∃ x, Wp7.heap.size = x := ⟨_, rfl⟩
                rw [hpp] at KA HPKA HNAB ⊢
                clear hpp
                refine wpAnyH_ready (rs := [26]) (by kernel_rfl) (by simp) (AllReadyH.cons (o := { dst := none, op := Op.store 33 (Operand.tmp 12) (Operand.tmp 79), type := 0, pos := "outright.go:271", after := #[{ on := 24, ground := Ground.data }, { on := 11, ground := Ground.data }, { on := 23, ground := Ground.chain }, { on := 0, ground := Ground.phase }, { on := 1, ground := Ground.phase }, { on := 2, ground := Ground.phase }, { on := 3, ground := Ground.phase }, { on := 4, ground := Ground.phase }, { on := 5, ground := Ground.phase }, { on := 6, ground := Ground.phase }, { on := 7, ground := Ground.phase }, { on := 8, ground := Ground.phase }, { on := 9, ground := Ground.phase }, { on := 10, ground := Ground.phase }, { on := 11, ground := Ground.phase }, { on := 12, ground := Ground.textOnly Departure.lateStores }, { on := 13, ground := Ground.textOnly Departure.lateStores }, { on := 14, ground := Ground.textOnly Departure.lateStores }, { on := 15, ground := Ground.textOnly Departure.lateStores }, { on := 16, ground := Ground.textOnly Departure.lateStores }, { on := 17, ground := Ground.textOnly Departure.lateStores }, { on := 18, ground := Ground.textOnly Departure.lateStores }, { on := 19, ground := Ground.textOnly Departure.lateStores }, { on := 20, ground := Ground.textOnly Departure.lateStores }, { on := 21, ground := Ground.textOnly Departure.lateStores }, { on := 22, ground := Ground.textOnly Departure.lateStores }, { on := 23, ground := Ground.textOnly Departure.lateStoresUnsure }, { on := 24, ground := Ground.phase }, { on := 25, ground := Ground.phase }], guard := none }) rfl (fun K hK => ?_) AllReadyH.nil)
                refine wp_store_row 33 (.tmp 12) (.tmp 79) rfl pa #[.int .i64 er1, .bool fo1, .string va1, .slice A1 pr1.length c1] rfl rfl 33 #[.int .i64 0, .bool false, .string ⟨#[]⟩, .slice none 0 0] KA.out (by kernel_rfl) rfl (by first | rfl | (simp [Value.oneCell']; done)) ?_
                replace HQ1 : Hid (MQ_ (Wp8.setRow pa #[.int .i64 er1, .bool fo1, .string va1, .slice A1 pr1.length c1]) _ _ _ _) := Lib.hid (HQ1.out.setRow KA.out (by decide) (by decide) (by decide) (by decide) (by decide))
                replace HQ2 : Hid (MQ_ (Wp8.setRow pa #[.int .i64 er1, .bool fo1, .string va1, .slice A1 pr1.length c1]) _ _ _ _) := Lib.hid (HQ2.out.setRow KA.out (by decide) (by decide) (by decide) (by decide) (by decide))
                replace KB : Hid (Blk (Wp8.setRow pa #[.int .i64 er1, .bool fo1, .string va1, .slice A1 pr1.length c1]) _ _ _) := Lib.hid (Blk.setRow KB.out HNAB.out.symm)
                replace RO1 := Lib.hid (ROwn.setRow (c2 := #[.int .i64 er1, .bool fo1, .string va1, .slice A1 pr1.length c1]) RO1.out KA.out (by decide))
                replace RO2 := Lib.hid (ROwn.setRow (c2 := #[.int .i64 er1, .bool fo1, .string va1, .slice A1 pr1.length c1]) RO2.out KA.out (by decide))
                replace HBW : Hid (Below w.heap.size w (Wp8.setRow pa #[.int .i64 er1, .bool fo1, .string va1, .slice A1 pr1.length c1])) := Lib.hid (below_setRow HBW.out HPKA.out _)
                replace KA : Hid (Blk (Wp8.setRow pa #[.int .i64 er1, .bool fo1, .string va1, .slice A1 pr1.length c1]) pa #[.int .i64 er1, .bool fo1, .string va1, .slice A1 pr1.length c1] 33) := Lib.hid (Blk.setRow_self KA.out)
                clear hHeld
                refine hK.out _ _ (HBW.out) (fun hHeld => ?_)
                clear hK K
                generalize Wp8.setRow pa #[.int .i64 er1, .bool fo1, .string va1, .slice A1 pr1.length c1] = Wp9 at *
                refine wpAnyH_ready (rs := [27]) (by kernel_rfl) (by simp) (AllReadyH.cons (o := { dst := none, op := Op.store 33 (Operand.tmp 13) (Operand.tmp 91), type := 0, pos := "outright.go:271", after := #[{ on := 25, ground := Ground.data }, { on := 23, ground := Ground.data }, { on := 26, ground := Ground.chain }, { on := 0, ground := Ground.phase }, { on := 1, ground := Ground.phase }, { on := 2, ground := Ground.phase }, { on := 3, ground := Ground.phase }, { on := 4, ground := Ground.phase }, { on := 5, ground := Ground.phase }, { on := 6, ground := Ground.phase }, { on := 7, ground := Ground.phase }, { on := 8, ground := Ground.phase }, { on := 9, ground := Ground.phase }, { on := 10, ground := Ground.phase }, { on := 11, ground := Ground.phase }, { on := 12, ground := Ground.phase }, { on := 13, ground := Ground.phase }, { on := 14, ground := Ground.phase }, { on := 15, ground := Ground.phase }, { on := 16, ground := Ground.phase }, { on := 17, ground := Ground.phase }, { on := 18, ground := Ground.phase }, { on := 19, ground := Ground.phase }, { on := 20, ground := Ground.phase }, { on := 21, ground := Ground.phase }, { on := 22, ground := Ground.phase }, { on := 23, ground := Ground.phase }, { on := 24, ground := Ground.phase }, { on := 25, ground := Ground.phase }, { on := 26, ground := Ground.phase }], guard := none }) rfl (fun K hK => ?_) AllReadyH.nil)
                refine wp_store_row 33 (.tmp 13) (.tmp 91) rfl pb #[.int .i64 er2, .bool fo2, .string va2, .slice A2 pr2.length c2] rfl rfl 33 #[.int .i64 0, .bool false, .string ⟨#[]⟩, .slice none 0 0] KB.out (by kernel_rfl) rfl (by first | rfl | (simp [Value.oneCell']; done)) ?_
                replace HQ1 : Hid (MQ_ (Wp9.setRow pb #[.int .i64 er2, .bool fo2, .string va2, .slice A2 pr2.length c2]) _ _ _ _) := Lib.hid (HQ1.out.setRow KB.out (by decide) (by decide) (by decide) (by decide) (by decide))
                replace HQ2 : Hid (MQ_ (Wp9.setRow pb #[.int .i64 er2, .bool fo2, .string va2, .slice A2 pr2.length c2]) _ _ _ _) := Lib.hid (HQ2.out.setRow KB.out (by decide) (by decide) (by decide) (by decide) (by decide))
                replace KA : Hid (Blk (Wp9.setRow pb #[.int .i64 er2, .bool fo2, .string va2, .slice A2 pr2.length c2]) _ _ _) := Lib.hid (Blk.setRow KA.out HNAB.out)
                replace RO1 := Lib.hid (ROwn.setRow (c2 := #[.int .i64 er2, .bool fo2, .string va2, .slice A2 pr2.length c2]) RO1.out KB.out (by decide))
                replace RO2 := Lib.hid (ROwn.setRow (c2 := #[.int .i64 er2, .bool fo2, .string va2, .slice A2 pr2.length c2]) RO2.out KB.out (by decide))
                replace HBW : Hid (Below w.heap.size w (Wp9.setRow pb #[.int .i64 er2, .bool fo2, .string va2, .slice A2 pr2.length c2])) := Lib.hid (below_setRow HBW.out HPKB.out _)
                replace KB : Hid (Blk (Wp9.setRow pb #[.int .i64 er2, .bool fo2, .string va2, .slice A2 pr2.length c2]) pb #[.int .i64 er2, .bool fo2, .string va2, .slice A2 pr2.length c2] 33) := Lib.hid (Blk.setRow_self KB.out)
                clear hHeld
                refine hK.out _ _ (HBW.out) (fun hHeld => ?_)
                clear hK K
                generalize Wp9.setRow pb #[.int .i64 er2, .bool fo2, .string va2, .slice A2 pr2.length c2] = Wp10 at *
                refine wpAnyH_done (by kernel_rfl) (NoPanic.normal ?_) _
                clear hHeld
                go_wp2
                go_meet
                exact ⟨_, _, _, _, _, _, _, rfl, rfl, KA.out, KB.out, RO1.out, RO2.out, HQ1.out, HQ2.out, HBW.out⟩
            · go_simp
              have hb : Below Wp1.heap.size Wp1 (Wp1.alloc (.cells #[.int .i64 0, .bool false, .string ⟨#[]⟩, .slice none 0 0] 33)) := (Below.refl _ _).alloc (Nat.le_refl _) _
              replace HQ1 := Lib.hid (HQ1.out.later hb)
              replace HQ2 := Lib.hid (HQ2.out.later hb)
              replace RO1 := Lib.hid (RO1.out.later hb)
              have KA : Hid (Blk (Wp1.alloc (.cells #[.int .i64 0, .bool false, .string ⟨#[]⟩, .slice none 0 0] 33)) Wp1.heap.size #[.int .i64 0, .bool false, .string ⟨#[]⟩, .slice none 0 0] 33) := Lib.hid (Blk.new Wp1 _ 33)
              have HPKA : Hid (w.heap.size ≤ Wp1.heap.size) := Lib.hid HBW.out.size
              replace HBW := Lib.hid (stepB HBW.out hb)
              clear hb hHeld
              refine hK.out _ _ (HBW.out) (fun hHeld => ?_)
              clear hK K
              generalize Wp1.alloc (.cells #[.int .i64 0, .bool false, .string ⟨#[]⟩, .slice none 0 0] 33) = Wp11 at *
              obtain ⟨pa, hpp⟩ : ∃ x, Wp1.heap.size = x := ⟨_, rfl⟩
              rw [hpp] at KA HPKA ⊢
              clear hpp
              refine wpAnyH_ready (rs := [23, 25]) (by kernel_rfl) (by simp) (AllReadyH.cons (o := { dst := some 91, op := Op.call { callee := Callee.value (Operand.func 18), args := #[Operand.tmp 80, Operand.tmp 85, Operand.tmp 90], argTypes := #[22, 3, 36] }, type := 33, pos := "outright.go:271", after := #[{ on := 12, ground := Ground.data }, { on := 17, ground := Ground.data }, { on := 22, ground := Ground.data }, { on := 11, ground := Ground.chain }], guard := none }) rfl (fun K hK => ?_) (AllReadyH.cons (o := { dst := some 13, op := Op.alloc 33, type := 0, pos := "outright.go:271", after := #[], guard := none }) rfl (fun K hK => ?_) AllReadyH.nil))
              · have HCL := Lib.hid (HC2.out Wp11 _ HQ2.out)
                go_simp
                refine HCL.out.mono ?_
                rintro e Wp12 ⟨A2, c2, rfl, hro, hm, hoth, hkp, hbl⟩
                have HRO2S := Lib.hid (hro.base HBW.out.size)
                replace HQ2 := Lib.hid hm
                replace HQ1 := Lib.hid (hoth _ _ HNE.out HQ1.out)
                replace KA := Lib.hid (hkp.blk _ _ _ KA.out (by decide) (by decide) (by decide) (by decide))
                replace RO1 := Lib.hid (RO1.out.kp hkp (by decide) (by decide) (by decide) (by decide))
                have RO2 := HRO2S
                replace HBW := Lib.hid (hbl _ _ HBW.out (Nat.le_refl _))
                clear hro hm hoth hkp hbl hHeld HCL HC2 HRO2S
                refine hK.out _ _ (HBW.out) (fun hHeld => ?_)
                clear hK K
                refine wpAnyH_ready (rs := [25]) (by kernel_rfl) (by simp) (AllReadyH.cons (o := { dst := some 13, op := Op.alloc 33, type := 0, pos := "outright.go:271", after := #[], guard := none }) rfl (fun K hK => ?_) AllReadyH.nil)
                go_simp
                have hb : Below Wp12.heap.size Wp12 (Wp12.alloc (.cells #[.int .i64 0, .bool false, .string ⟨#[]⟩, .slice none 0 0] 33)) := (Below.refl _ _).alloc (Nat.le_refl _) _
                have HNAB := Lib.hid (show pa ≠ Wp12.heap.size from by have := KA.out.lt; omega)
                replace HQ1 := Lib.hid (HQ1.out.later hb)
                replace HQ2 := Lib.hid (HQ2.out.later hb)
                replace KA := Lib.hid (KA.out.later hb)
                replace RO1 := Lib.hid (RO1.out.later hb)
                replace RO2 := Lib.hid (RO2.out.later hb)
                have KB : Hid (Blk (Wp12.alloc (.cells #[.int .i64 0, .bool false, .string ⟨#[]⟩, .slice none 0 0] 33)) Wp12.heap.size #[.int .i64 0, .bool false, .string ⟨#[]⟩, .slice none 0 0] 33) := Lib.hid (Blk.new Wp12 _ 33)
                have HPKB : Hid (w.heap.size ≤ Wp12.heap.size) := Lib.hid HBW.out.size
                replace HBW := Lib.hid (stepB HBW.out hb)
                clear hb hHeld
                refine hK.out _ _ (HBW.out) (fun hHeld => ?_)
                clear hK K
                generalize Wp12.alloc (.cells #[.int .i64 0, .bool false, .string ⟨#[]⟩, .slice none 0 0] 33) = Wp13 at *
                obtain ⟨pb, hpp⟩ : ∃ x, Wp12.heap.size = x := ⟨_, rfl⟩
                rw [hpp] at KB HPKB HNAB ⊢
                clear hpp
                refine wpAnyH_ready (rs := [26]) (by kernel_rfl) (by simp) (AllReadyH.cons (o := { dst := none, op := Op.store 33 (Operand.tmp 12) (Operand.tmp 79), type := 0, pos := "outright.go:271", after := #[{ on := 24, ground := Ground.data }, { on := 11, ground := Ground.data }, { on := 23, ground := Ground.chain }, { on := 0, ground := Ground.phase }, { on := 1, ground := Ground.phase }, { on := 2, ground := Ground.phase }, { on := 3, ground := Ground.phase }, { on := 4, ground := Ground.phase }, { on := 5, ground := Ground.phase }, { on := 6, ground := Ground.phase }, { on := 7, ground := Ground.phase }, { on := 8, ground := Ground.phase }, { on := 9, ground := Ground.phase }, { on := 10, ground := Ground.phase }, { on := 11, ground := Ground.phase }, { on := 12, ground := Ground.textOnly Departure.lateStores }, { on := 13, ground := Ground.textOnly Departure.lateStores }, { on := 14, ground := Ground.textOnly Departure.lateStores }, { on := 15, ground := Ground.textOnly Departure.lateStores }, { on := 16, ground := Ground.textOnly Departure.lateStores }, { on := 17, ground := Ground.textOnly Departure.lateStores }, { on := 18, ground := Ground.textOnly Departure.lateStores }, { on := 19, ground := Ground.textOnly Departure.lateStores }, { on := 20, ground := Ground.textOnly Departure.lateStores }, { on := 21, ground := Ground.textOnly Departure.lateStores }, { on := 22, ground := Ground.textOnly Departure.lateStores }, { on := 23, ground := Ground.textOnly Departure.lateStoresUnsure }, { on := 24, ground := Ground.phase }, { on := 25, ground := Ground.phase }], guard := none }) rfl (fun K hK => ?_) AllReadyH.nil)
                refine wp_store_row 33 (.tmp 12) (.tmp 79) rfl pa #[.int .i64 er1, .bool fo1, .string va1, .slice A1 pr1.length c1] rfl rfl 33 #[.int .i64 0, .bool false, .string ⟨#[]⟩, .slice none 0 0] KA.out (by kernel_rfl) rfl (by first | rfl | (simp [Value.oneCell']; done)) ?_
                replace HQ1 : Hid (MQ_ (Wp13.setRow pa #[.int .i64 er1, .bool fo1, .string va1, .slice A1 pr1.length c1]) _ _ _ _) := Lib.hid (HQ1.out.setRow KA.out (by decide) (by decide) (by decide) (by decide) (by decide))
                replace HQ2 : Hid (MQ_ (Wp13.setRow pa #[.int .i64 er1, .bool fo1, .string va1, .slice A1 pr1.length c1]) _ _ _ _) := Lib.hid (HQ2.out.setRow KA.out (by decide) (by decide) (by decide) (by decide) (by decide))
                replace KB : Hid (Blk (Wp13.setRow pa #[.int .i64 er1, .bool fo1, .string va1, .slice A1 pr1.length c1]) _ _ _) := Lib.hid (Blk.setRow KB.out HNAB.out.symm)
                replace RO1 := Lib.hid (ROwn.setRow (c2 := #[.int .i64 er1, .bool fo1, .string va1, .slice A1 pr1.length c1]) RO1.out KA.out (by decide))
                replace RO2 := Lib.hid (ROwn.setRow (c2 := #[.int .i64 er1, .bool fo1, .string va1, .slice A1 pr1.length c1]) RO2.out KA.out (by decide))
                replace HBW : Hid (Below w.heap.size w (Wp13.setRow pa #[.int .i64 er1, .bool fo1, .string va1, .slice A1 pr1.length c1])) := Lib.hid (below_setRow HBW.out HPKA.out _)
                replace KA : Hid (Blk (Wp13.setRow pa #[.int .i64 er1, .bool fo1, .string va1, .slice A1 pr1.length c1]) pa #[.int .i64 er1, .bool fo1, .string va1, .slice A1 pr1.length c1] 33) := Lib.hid (Blk.setRow_self KA.out)
                clear hHeld
                refine hK.out _ _ (HBW.out) (fun hHeld => ?_)
                clear hK K
                generalize Wp13.setRow pa #[.int .i64 er1, .bool fo1, .string va1, .slice A1 pr1.length c1] = Wp14 at *
                refine wpAnyH_ready (rs := [27]) (by kernel_rfl) (by simp) (AllReadyH.cons (o := { dst := none, op := Op.store 33 (Operand.tmp 13) (Operand.tmp 91), type := 0, pos := "outright.go:271", after := #[{ on := 25, ground := Ground.data }, { on := 23, ground := Ground.data }, { on := 26, ground := Ground.chain }, { on := 0, ground := Ground.phase }, { on := 1, ground := Ground.phase }, { on := 2, ground := Ground.phase }, { on := 3, ground := Ground.phase }, { on := 4, ground := Ground.phase }, { on := 5, ground := Ground.phase }, { on := 6, ground := Ground.phase }, { on := 7, ground := Ground.phase }, { on := 8, ground := Ground.phase }, { on := 9, ground := Ground.phase }, { on := 10, ground := Ground.phase }, { on := 11, ground := Ground.phase }, { on := 12, ground := Ground.phase }, { on := 13, ground := Ground.phase }, { on := 14, ground := Ground.phase }, { on := 15, ground := Ground.phase }, { on := 16, ground := Ground.phase }, { on := 17, ground := Ground.phase }, { on := 18, ground := Ground.phase }, { on := 19, ground := Ground.phase }, { on := 20, ground := Ground.phase }, { on := 21, ground := Ground.phase }, { on := 22, ground := Ground.phase }, { on := 23, ground := Ground.phase }, { on := 24, ground := Ground.phase }, { on := 25, ground := Ground.phase }, { on := 26, ground := Ground.phase }], guard := none }) rfl (fun K hK => ?_) AllReadyH.nil)
                refine wp_store_row 33 (.tmp 13) (.tmp 91) rfl pb #[.int .i64 er2, .bool fo2, .string va2, .slice A2 pr2.length c2] rfl rfl 33 #[.int .i64 0, .bool false, .string ⟨#[]⟩, .slice none 0 0] KB.out (by kernel_rfl) rfl (by first | rfl | (simp [Value.oneCell']; done)) ?_
                replace HQ1 : Hid (MQ_ (Wp14.setRow pb #[.int .i64 er2, .bool fo2, .string va2, .slice A2 pr2.length c2]) _ _ _ _) := Lib.hid (HQ1.out.setRow KB.out (by decide) (by decide) (by decide) (by decide) (by decide))
                replace HQ2 : Hid (MQ_ (Wp14.setRow pb #[.int .i64 er2, .bool fo2, .string va2, .slice A2 pr2.length c2]) _ _ _ _) := Lib.hid (HQ2.out.setRow KB.out (by decide) (by decide) (by decide) (by decide) (by decide))
                replace KA : Hid (Blk (Wp14.setRow pb #[.int .i64 er2, .bool fo2, .string va2, .slice A2 pr2.length c2]) _ _ _) := Lib.hid (Blk.setRow KA.out HNAB.out)
                replace RO1 := Lib.hid (ROwn.setRow (c2 := #[.int .i64 er2, .bool fo2, .string va2, .slice A2 pr2.length c2]) RO1.out KB.out (by decide))
                replace RO2 := Lib.hid (ROwn.setRow (c2 := #[.int .i64 er2, .bool fo2, .string va2, .slice A2 pr2.length c2]) RO2.out KB.out (by decide))
                replace HBW : Hid (Below w.heap.size w (Wp14.setRow pb #[.int .i64 er2, .bool fo2, .string va2, .slice A2 pr2.length c2])) := Lib.hid (below_setRow HBW.out HPKB.out _)
                replace KB : Hid (Blk (Wp14.setRow pb #[.int .i64 er2, .bool fo2, .string va2, .slice A2 pr2.length c2]) pb #[.int .i64 er2, .bool fo2, .string va2, .slice A2 pr2.length c2] 33) := Lib.hid (Blk.setRow_self KB.out)
                clear hHeld
                refine hK.out _ _ (HBW.out) (fun hHeld => ?_)
                clear hK K
                generalize Wp14.setRow pb #[.int .i64 er2, .bool fo2, .string va2, .slice A2 pr2.length c2] = Wp15 at *
                refine wpAnyH_done (by kernel_rfl) (NoPanic.normal ?_) _
                clear hHeld
                go_wp2
                go_meet
                exact ⟨_, _, _, _, _, _, _, rfl, rfl, KA.out, KB.out, RO1.out, RO2.out, HQ1.out, HQ2.out, HBW.out⟩
              · go_simp
                have hb : Below Wp11.heap.size Wp11 (Wp11.alloc (.cells #[.int .i64 0, .bool false, .string ⟨#[]⟩, .slice none 0 0] 33)) := (Below.refl _ _).alloc (Nat.le_refl _) _
                have HNAB := Lib.hid (show pa ≠ Wp11.heap.size from by have := KA.out.lt; omega)
                replace HQ1 := Lib.hid (HQ1.out.later hb)
                replace HQ2 := Lib.hid (HQ2.out.later hb)
                replace KA := Lib.hid (KA.out.later hb)
                replace RO1 := Lib.hid (RO1.out.later hb)
                have KB : Hid (Blk (Wp11.alloc (.cells #[.int .i64 0, .bool false, .string ⟨#[]⟩, .slice none 0 0] 33)) Wp11.heap.size #[.int .i64 0, .bool false, .string ⟨#[]⟩, .slice none 0 0] 33) := Lib.hid (Blk.new Wp11 _ 33)
                have HPKB : Hid (w.heap.size ≤ Wp11.heap.size) := Lib.hid HBW.out.size
                replace HBW := Lib.hid (stepB HBW.out hb)
                clear hb hHeld
                refine hK.out _ _ (HBW.out) (fun hHeld => ?_)
                clear hK K
                generalize Wp11.alloc (.cells #[.int .i64 0, .bool false, .string ⟨#[]⟩, .slice none 0 0] 33) = Wp16 at *
                obtain ⟨pb, hpp⟩ : ∃ x, Wp11.heap.size = x := ⟨_, rfl⟩
                rw [hpp] at KB HPKB HNAB ⊢
                clear hpp
                refine wpAnyH_ready (rs := [23]) (by kernel_rfl) (by simp) (AllReadyH.cons (o := { dst := some 91, op := Op.call { callee := Callee.value (Operand.func 18), args := #[Operand.tmp 80, Operand.tmp 85, Operand.tmp 90], argTypes := #[22, 3, 36] }, type := 33, pos := "outright.go:271", after := #[{ on := 12, ground := Ground.data }, { on := 17, ground := Ground.data }, { on := 22, ground := Ground.data }, { on := 11, ground := Ground.chain }], guard := none }) rfl (fun K hK => ?_) AllReadyH.nil)
                have HCL := Lib.hid (HC2.out Wp16 _ HQ2.out)
                go_simp
                refine HCL.out.mono ?_
                rintro e Wp17 ⟨A2, c2, rfl, hro, hm, hoth, hkp, hbl⟩
                have HRO2S := Lib.hid (hro.base HBW.out.size)
                replace HQ2 := Lib.hid hm
                replace HQ1 := Lib.hid (hoth _ _ HNE.out HQ1.out)
                replace KA := Lib.hid (hkp.blk _ _ _ KA.out (by decide) (by decide) (by decide) (by decide))
                replace KB := Lib.hid (hkp.blk _ _ _ KB.out (by decide) (by decide) (by decide) (by decide))
                replace RO1 := Lib.hid (RO1.out.kp hkp (by decide) (by decide) (by decide) (by decide))
                have RO2 := HRO2S
                replace HBW := Lib.hid (hbl _ _ HBW.out (Nat.le_refl _))
                clear hro hm hoth hkp hbl hHeld HCL HC2 HRO2S
                refine hK.out _ _ (HBW.out) (fun hHeld => ?_)
                clear hK K
                refine wpAnyH_ready (rs := [26]) (by kernel_rfl) (by simp) (AllReadyH.cons (o := { dst := none, op := Op.store 33 (Operand.tmp 12) (Operand.tmp 79), type := 0, pos := "outright.go:271", after := #[{ on := 24, ground := Ground.data }, { on := 11, ground := Ground.data }, { on := 23, ground := Ground.chain }, { on := 0, ground := Ground.phase }, { on := 1, ground := Ground.phase }, { on := 2, ground := Ground.phase }, { on := 3, ground := Ground.phase }, { on := 4, ground := Ground.phase }, { on := 5, ground := Ground.phase }, { on := 6, ground := Ground.phase }, { on := 7, ground := Ground.phase }, { on := 8, ground := Ground.phase }, { on := 9, ground := Ground.phase }, { on := 10, ground := Ground.phase }, { on := 11, ground := Ground.phase }, { on := 12, ground := Ground.textOnly Departure.lateStores }, { on := 13, ground := Ground.textOnly Departure.lateStores }, { on := 14, ground := Ground.textOnly Departure.lateStores }, { on := 15, ground := Ground.textOnly Departure.lateStores }, { on := 16, ground := Ground.textOnly Departure.lateStores }, { on := 17, ground := Ground.textOnly Departure.lateStores }, { on := 18, ground := Ground.textOnly Departure.lateStores }, { on := 19, ground := Ground.textOnly Departure.lateStores }, { on := 20, ground := Ground.textOnly Departure.lateStores }, { on := 21, ground := Ground.textOnly Departure.lateStores }, { on := 22, ground := Ground.textOnly Departure.lateStores }, { on := 23, ground := Ground.textOnly Departure.lateStoresUnsure }, { on := 24, ground := Ground.phase }, { on := 25, ground := Ground.phase }], guard := none }) rfl (fun K hK => ?_) AllReadyH.nil)
                refine wp_store_row 33 (.tmp 12) (.tmp 79) rfl pa #[.int .i64 er1, .bool fo1, .string va1, .slice A1 pr1.length c1] rfl rfl 33 #[.int .i64 0, .bool false, .string ⟨#[]⟩, .slice none 0 0] KA.out (by kernel_rfl) rfl (by first | rfl | (simp [Value.oneCell']; done)) ?_
                replace HQ1 : Hid (MQ_ (Wp17.setRow pa #[.int .i64 er1, .bool fo1, .string va1, .slice A1 pr1.length c1]) _ _ _ _) := Lib.hid (HQ1.out.setRow KA.out (by decide) (by decide) (by decide) (by decide) (by decide))
                replace HQ2 : Hid (MQ_ (Wp17.setRow pa #[.int .i64 er1, .bool fo1, .string va1, .slice A1 pr1.length c1]) _ _ _ _) := Lib.hid (HQ2.out.setRow KA.out (by decide) (by decide) (by decide) (by decide) (by decide))
                replace KB : Hid (Blk (Wp17.setRow pa #[.int .i64 er1, .bool fo1, .string va1, .slice A1 pr1.length c1]) _ _ _) := Lib.hid (Blk.setRow KB.out HNAB.out.symm)
                replace RO1 := Lib.hid (ROwn.setRow (c2 := #[.int .i64 er1, .bool fo1, .string va1, .slice A1 pr1.length c1]) RO1.out KA.out (by decide))
                replace RO2 := Lib.hid (ROwn.setRow (c2 := #[.int .i64 er1, .bool fo1, .string va1, .slice A1 pr1.length c1]) RO2.out KA.out (by decide))
                replace HBW : Hid (Below w.heap.size w (Wp17.setRow pa #[.int .i64 er1, .bool fo1, .string va1, .slice A1 pr1.length c1])) := Lib.hid (below_setRow HBW.out HPKA.out _)
                replace KA : Hid (Blk (Wp17.setRow pa #[.int .i64 er1, .bool fo1, .string va1, .slice A1 pr1.length c1]) pa #[.int .i64 er1, .bool fo1, .string va1, .slice A1 pr1.length c1] 33) := Lib.hid (Blk.setRow_self KA.out)
                clear hHeld
                refine hK.out _ _ (HBW.out) (fun hHeld => ?_)
                clear hK K
                generalize Wp17.setRow pa #[.int .i64 er1, .bool fo1, .string va1, .slice A1 pr1.length c1] = Wp18 at *
                refine wpAnyH_ready (rs := [27]) (by kernel_rfl) (by simp) (AllReadyH.cons (o := { dst := none, op := Op.store 33 (Operand.tmp 13) (Operand.tmp 91), type := 0, pos := "outright.go:271", after := #[{ on := 25, ground := Ground.data }, { on := 23, ground := Ground.data }, { on := 26, ground := Ground.chain }, { on := 0, ground := Ground.phase }, { on := 1, ground := Ground.phase }, { on := 2, ground := Ground.phase }, { on := 3, ground := Ground.phase }, { on := 4, ground := Ground.phase }, { on := 5, ground := Ground.phase }, { on := 6, ground := Ground.phase }, { on := 7, ground := Ground.phase }, { on := 8, ground := Ground.phase }, { on := 9, ground := Ground.phase }, { on := 10, ground := Ground.phase }, { on := 11, ground := Ground.phase }, { on := 12, ground := Ground.phase }, { on := 13, ground := Ground.phase }, { on := 14, ground := Ground.phase }, { on := 15, ground := Ground.phase }, { on := 16, ground := Ground.phase }, { on := 17, ground := Ground.phase }, { on := 18, ground := Ground.phase }, { on := 19, ground := Ground.phase }, { on := 20, ground := Ground.phase }, { on := 21, ground := Ground.phase }, { on := 22, ground := Ground.phase }, { on := 23, ground := Ground.phase }, { on := 24, ground := Ground.phase }, { on := 25, ground := Ground.phase }, { on := 26, ground := Ground.phase }], guard := none }) rfl (fun K hK => ?_) AllReadyH.nil)
                refine wp_store_row 33 (.tmp 13) (.tmp 91) rfl pb #[.int .i64 er2, .bool fo2, .string va2, .slice A2 pr2.length c2] rfl rfl 33 #[.int .i64 0, .bool false, .string ⟨#[]⟩, .slice none 0 0] KB.out (by kernel_rfl) rfl (by first | rfl | (simp [Value.oneCell']; done)) ?_
                replace HQ1 : Hid (MQ_ (Wp18.setRow pb #[.int .i64 er2, .bool fo2, .string va2, .slice A2 pr2.length c2]) _ _ _ _) := Lib.hid (HQ1.out.setRow KB.out (by decide) (by decide) (by decide) (by decide) (by decide))
                replace HQ2 : Hid (MQ_ (Wp18.setRow pb #[.int .i64 er2, .bool fo2, .string va2, .slice A2 pr2.length c2]) _ _ _ _) := Lib.hid (HQ2.out.setRow KB.out (by decide) (by decide) (by decide) (by decide) (by decide))
                replace KA : Hid (Blk (Wp18.setRow pb #[.int .i64 er2, .bool fo2, .string va2, .slice A2 pr2.length c2]) _ _ _) := Lib.hid (Blk.setRow KA.out HNAB.out)
                replace RO1 := Lib.hid (ROwn.setRow (c2 := #[.int .i64 er2, .bool fo2, .string va2, .slice A2 pr2.length c2]) RO1.out KB.out (by decide))
                replace RO2 := Lib.hid (ROwn.setRow (c2 := #[.int .i64 er2, .bool fo2, .string va2, .slice A2 pr2.length c2]) RO2.out KB.out (by decide))
                replace HBW : Hid (Below w.heap.size w (Wp18.setRow pb #[.int .i64 er2, .bool fo2, .string va2, .slice A2 pr2.length c2])) := Lib.hid (below_setRow HBW.out HPKB.out _)
                replace KB : Hid (Blk (Wp18.setRow pb #[.int .i64 er2, .bool fo2, .string va2, .slice A2 pr2.length c2]) pb #[.int .i64 er2, .bool fo2, .string va2, .slice A2 pr2.length c2] 33) := Lib.hid (Blk.setRow_self KB.out)
                clear hHeld
                refine hK.out _ _ (HBW.out) (fun hHeld => ?_)
                clear hK K
                generalize Wp18.setRow pb #[.int .i64 er2, .bool fo2, .string va2, .slice A2 pr2.length c2] = Wp19 at *
                refine wpAnyH_done (by kernel_rfl) (NoPanic.normal ?_) _
                clear hHeld
                go_wp2
                go_meet
                exact ⟨_, _, _, _, _, _, _, rfl, rfl, KA.out, KB.out, RO1.out, RO2.out, HQ1.out, HQ2.out, HBW.out⟩
            · go_simp
              have hb : Below Wp1.heap.size Wp1 (Wp1.alloc (.cells #[.int .i64 0, .bool false, .string ⟨#[]⟩, .slice none 0 0] 33)) := (Below.refl _ _).alloc (Nat.le_refl _) _
              replace HQ1 := Lib.hid (HQ1.out.later hb)
              replace HQ2 := Lib.hid (HQ2.out.later hb)
              replace RO1 := Lib.hid (RO1.out.later hb)
              have KB : Hid (Blk (Wp1.alloc (.cells #[.int .i64 0, .bool false, .string ⟨#[]⟩, .slice none 0 0] 33)) Wp1.heap.size #[.int .i64 0, .bool false, .string ⟨#[]⟩, .slice none 0 0] 33) := Lib.hid (Blk.new Wp1 _ 33)
              have HPKB : Hid (w.heap.size ≤ Wp1.heap.size) := Lib.hid HBW.out.size
              replace HBW := Lib.hid (stepB HBW.out hb)
              clear hb hHeld
              refine hK.out _ _ (HBW.out) (fun hHeld => ?_)
              clear hK K
              generalize Wp1.alloc (.cells #[.int .i64 0, .bool false, .string ⟨#[]⟩, .slice none 0 0] 33) = Wp20 at *
              obtain ⟨pb, hpp⟩ : ∃ x, Wp1.heap.size = x := ⟨_, rfl⟩
              rw [hpp] at KB HPKB ⊢
              clear hpp
              refine wpAnyH_ready (rs := [23, 24]) (by kernel_rfl) (by simp) (AllReadyH.cons (o := { dst := some 91, op := Op.call { callee := Callee.value (Operand.func 18), args := #[Operand.tmp 80, Operand.tmp 85, Operand.tmp 90], argTypes := #[22, 3, 36] }, type := 33, pos := "outright.go:271", after := #[{ on := 12, ground := Ground.data }, { on := 17, ground := Ground.data }, { on := 22, ground := Ground.data }, { on := 11, ground := Ground.chain }], guard := none }) rfl (fun K hK => ?_) (AllReadyH.cons (o := { dst := some 12, op := Op.alloc 33, type := 0, pos := "outright.go:271", after := #[], guard := none }) rfl (fun K hK => ?_) AllReadyH.nil))
              · have HCL := Lib.hid (HC2.out Wp20 _ HQ2.out)
                go_simp
                refine HCL.out.mono ?_
                rintro e Wp21 ⟨A2, c2, rfl, hro, hm, hoth, hkp, hbl⟩
                have HRO2S := Lib.hid (hro.base HBW.out.size)
                replace HQ2 := Lib.hid hm
                replace HQ1 := Lib.hid (hoth _ _ HNE.out HQ1.out)
                replace KB := Lib.hid (hkp.blk _ _ _ KB.out (by decide) (by decide) (by decide) (by decide))
                replace RO1 := Lib.hid (RO1.out.kp hkp (by decide) (by decide) (by decide) (by decide))
                have RO2 := HRO2S
                replace HBW := Lib.hid (hbl _ _ HBW.out (Nat.le_refl _))
                clear hro hm hoth hkp hbl hHeld HCL HC2 HRO2S
                refine hK.out _ _ (HBW.out) (fun hHeld => ?_)
                clear hK K
                refine wpAnyH_ready (rs := [24]) (by kernel_rfl) (by simp) (AllReadyH.cons (o := { dst := some 12, op := Op.alloc 33, type := 0, pos := "outright.go:271", after := #[], guard := none }) rfl (fun K hK => ?_) AllReadyH.nil)
                go_simp
                have hb : Below Wp21.heap.size Wp21 (Wp21.alloc (.cells #[.int .i64 0, .bool false, .string ⟨#[]⟩, .slice none 0 0] 33)) := (Below.refl _ _).alloc (Nat.le_refl _) _
                have HNAB := Lib.hid (show Wp21.heap.size ≠ pb from by have := KB.out.lt; omega)
                replace HQ1 := Lib.hid (HQ1.out.later hb)
                replace HQ2 := Lib.hid (HQ2.out.later hb)
                replace KB := Lib.hid (KB.out.later hb)
                replace RO1 := Lib.hid (RO1.out.later hb)
                replace RO2 := Lib.hid (RO2.out.later hb)
                have KA : Hid (Blk (Wp21.alloc (.cells #[.int .i64 0, .bool false, .string ⟨#[]⟩, .slice none 0 0] 33)) Wp21.heap.size #[.int .i64 0, .bool false, .string ⟨#[]⟩, .slice none 0 0] 33) := Lib.hid (Blk.new Wp21 _ 33)
                have HPKA : Hid (w.heap.size ≤ Wp21.heap.size) := Lib.hid HBW.out.size
                replace HBW := Lib.hid (stepB HBW.out hb)
                clear hb hHeld
                refine hK.out _ _ (HBW.out) (fun hHeld => ?_)
                clear hK K
                generalize Wp21.alloc (.cells #[.int .i64 0, .bool false, .string ⟨#[]⟩, .slice none 0 0] 33) = Wp22 at *
                obtain ⟨pa, hpp⟩ : ∃ x, Wp21.heap.size = x := ⟨_, rfl⟩
                rw [hpp] at KA HPKA HNAB ⊢
                clear hpp
                refine wpAnyH_ready (rs := [26]) (by kernel_rfl) (by simp) (AllReadyH.cons (o := { dst := none, op := Op.store 33 (Operand.tmp 12) (Operand.tmp 79), type := 0, pos := "outright.go:271", after := #[{ on := 24, ground := Ground.data }, { on := 11, ground := Ground.data }, { on := 23, ground := Ground.chain }, { on := 0, ground := Ground.phase }, { on := 1, ground := Ground.phase }, { on := 2, ground := Ground.phase }, { on := 3, ground := Ground.phase }, { on := 4, ground := Ground.phase }, { on := 5, ground := Ground.phase }, { on := 6, ground := Ground.phase }, { on := 7, ground := Ground.phase }, { on := 8, ground := Ground.phase }, { on := 9, ground := Ground.phase }, { on := 10, ground := Ground.phase }, { on := 11, ground := Ground.phase }, { on := 12, ground := Ground.textOnly Departure.lateStores }, { on := 13, ground := Ground.textOnly Departure.lateStores }, { on := 14, ground := Ground.textOnly Departure.lateStores }, { on := 15, ground := Ground.textOnly Departure.lateStores }, { on := 16, ground := Ground.textOnly Departure.lateStores }, { on := 17, ground := Ground.textOnly Departure.lateStores }, { on := 18, ground := Ground.textOnly Departure.lateStores }, { on := 19, ground := Ground.textOnly Departure.lateStores }, { on := 20, ground := Ground.textOnly Departure.lateStores }, { on := 21, ground := Ground.textOnly Departure.lateStores }, { on := 22, ground := Ground.textOnly Departure.lateStores }, { on := 23, ground := Ground.textOnly Departure.lateStoresUnsure }, { on := 24, ground := Ground.phase }, { on := 25, ground := Ground.phase }], guard := none }) rfl (fun K hK => ?_) AllReadyH.nil)
                refine wp_store_row 33 (.tmp 12) (.tmp 79) rfl pa #[.int .i64 er1, .bool fo1, .string va1, .slice A1 pr1.length c1] rfl rfl 33 #[.int .i64 0, .bool false, .string ⟨#[]⟩, .slice none 0 0] KA.out (by kernel_rfl) rfl (by first | rfl | (simp [Value.oneCell']; done)) ?_
                replace HQ1 : Hid (MQ_ (Wp22.setRow pa #[.int .i64 er1, .bool fo1, .string va1, .slice A1 pr1.length c1]) _ _ _ _) := Lib.hid (HQ1.out.setRow KA.out (by decide) (by decide) (by decide) (by decide) (by decide))
                replace HQ2 : Hid (MQ_ (Wp22.setRow pa #[.int .i64 er1, .bool fo1, .string va1, .slice A1 pr1.length c1]) _ _ _ _) := Lib.hid (HQ2.out.setRow KA.out (by decide) (by decide) (by decide) (by decide) (by decide))
                replace KB : Hid (Blk (Wp22.setRow pa #[.int .i64 er1, .bool fo1, .string va1, .slice A1 pr1.length c1]) _ _ _) := Lib.hid (Blk.setRow KB.out HNAB.out.symm)
                replace RO1 := Lib.hid (ROwn.setRow (c2 := #[.int .i64 er1, .bool fo1, .string va1, .slice A1 pr1.length c1]) RO1.out KA.out (by decide))
                replace RO2 := Lib.hid (ROwn.setRow (c2 := #[.int .i64 er1, .bool fo1, .string va1, .slice A1 pr1.length c1]) RO2.out KA.out (by decide))
                replace HBW : Hid (Below w.heap.size w (Wp22.setRow pa #[.int .i64 er1, .bool fo1, .string va1, .slice A1 pr1.length c1])) := Lib.hid (below_setRow HBW.out HPKA.out _)
                replace KA : Hid (Blk (Wp22.setRow pa #[.int .i64 er1, .bool fo1, .string va1, .slice A1 pr1.length c1]) pa #[.int .i64 er1, .bool fo1, .string va1, .slice A1 pr1.length c1] 33) := Lib.hid (Blk.setRow_self KA.out)
                clear hHeld
                refine hK.out _ _ (HBW.out) (fun hHeld => ?_)
                clear hK K
                generalize Wp22.setRow pa #[.int .i64 er1, .bool fo1, .string va1, .slice A1 pr1.length c1] = Wp23 at *
                refine wpAnyH_ready (rs := [27]) (by kernel_rfl) (by simp) (AllReadyH.cons (o := { dst := none, op := Op.store 33 (Operand.tmp 13) (Operand.tmp 91), type := 0, pos := "outright.go:271", after := #[{ on := 25, ground := Ground.data }, { on := 23, ground := Ground.data }, { on := 26, ground := Ground.chain }, { on := 0, ground := Ground.phase }, { on := 1, ground := Ground.phase }, { on := 2, ground := Ground.phase }, { on := 3, ground := Ground.phase }, { on := 4, ground := Ground.phase }, { on := 5, ground := Ground.phase }, { on := 6, ground := Ground.phase }, { on := 7, ground := Ground.phase }, { on := 8, ground := Ground.phase }, { on := 9, ground := Ground.phase }, { on := 10, ground := Ground.phase }, { on := 11, ground := Ground.phase }, { on := 12, ground := Ground.phase }, { on := 13, ground := Ground.phase }, { on := 14, ground := Ground.phase }, { on := 15, ground := Ground.phase }, { on := 16, ground := Ground.phase }, { on := 17, ground := Ground.phase }, { on := 18, ground := Ground.phase }, { on := 19, ground := Ground.phase }, { on := 20, ground := Ground.phase }, { on := 21, ground := Ground.phase }, { on := 22, ground := Ground.phase }, { on := 23, ground := Ground.phase }, { on := 24, ground := Ground.phase }, { on := 25, ground := Ground.phase }, { on := 26, ground := Ground.phase }], guard := none }) rfl (fun K hK => ?_) AllReadyH.nil)
                refine wp_store_row 33 (.tmp 13) (.tmp 91) rfl pb #[.int .i64 er2, .bool fo2, .string va2, .slice A2 pr2.length c2] rfl rfl 33 #[.int .i64 0, .bool false, .string ⟨#[]⟩, .slice none 0 0] KB.out (by kernel_rfl) rfl (by first | rfl | (simp [Value.oneCell']; done)) ?_
                replace HQ1 : Hid (MQ_ (Wp23.setRow pb #[.int .i64 er2, .bool fo2, .string va2, .slice A2 pr2.length c2]) _ _ _ _) := Lib.hid (HQ1.out.setRow KB.out (by decide) (by decide) (by decide) (by decide) (by decide))
                replace HQ2 : Hid (MQ_ (Wp23.setRow pb #[.int .i64 er2, .bool fo2, .string va2, .slice A2 pr2.length c2]) _ _ _ _) := Lib.hid (HQ2.out.setRow KB.out (by decide) (by decide) (by decide) (by decide) (by decide))
                replace KA : Hid (Blk (Wp23.setRow pb #[.int .i64 er2, .bool fo2, .string va2, .slice A2 pr2.length c2]) _ _ _) := Lib.hid (Blk.setRow KA.out HNAB.out)
                replace RO1 := Lib.hid (ROwn.setRow (c2 := #[.int .i64 er2, .bool fo2, .string va2, .slice A2 pr2.length c2]) RO1.out KB.out (by decide))
                replace RO2 := Lib.hid (ROwn.setRow (c2 := #[.int .i64 er2, .bool fo2, .string va2, .slice A2 pr2.length c2]) RO2.out KB.out (by decide))
                replace HBW : Hid (Below w.heap.size w (Wp23.setRow pb #[.int .i64 er2, .bool fo2, .string va2, .slice A2 pr2.length c2])) := Lib.hid (below_setRow HBW.out HPKB.out _)
                replace KB : Hid (Blk (Wp23.setRow pb #[.int .i64 er2, .bool fo2, .string va2, .slice A2 pr2.length c2]) pb #[.int .i64 er2, .bool fo2, .string va2, .slice A2 pr2.length c2] 33) := Lib.hid (Blk.setRow_self KB.out)
                clear hHeld
                refine hK.out _ _ (HBW.out) (fun hHeld => ?_)
                clear hK K
                generalize Wp23.setRow pb #[.int .i64 er2, .bool fo2, .string va2, .slice A2 pr2.length c2] = Wp24 at *
                refine wpAnyH_done (by kernel_rfl) (NoPanic.normal ?_) _
                clear hHeld
                go_wp2
                go_meet
                exact ⟨_, _, _, _, _, _, _, rfl, rfl, KA.out, KB.out, RO1.out, RO2.out, HQ1.out, HQ2.out, HBW.out⟩
              · go_simp
                have hb : Below Wp20.heap.size Wp20 (Wp20.alloc (.cells #[.int .i64 0, .bool false, .string ⟨#[]⟩, .slice none 0 0] 33)) := (Below.refl _ _).alloc (Nat.le_refl _) _
                have HNAB := Lib.hid (show Wp20.heap.size ≠ pb from by have := KB.out.lt; omega)
                replace HQ1 := Lib.hid (HQ1.out.later hb)
                replace HQ2 := Lib.hid (HQ2.out.later hb)
                replace KB := Lib.hid (KB.out.later hb)
                replace RO1 := Lib.hid (RO1.out.later hb)
                have KA : Hid (Blk (Wp20.alloc (.cells #[.int .i64 0, .bool false, .string ⟨#[]⟩, .slice none 0 0] 33)) Wp20.heap.size #[.int .i64 0, .bool false, .string ⟨#[]⟩, .slice none 0 0] 33) := Lib.hid (Blk.new Wp20 _ 33)
                have HPKA : Hid (w.heap.size ≤ Wp20.heap.size) := Lib.hid HBW.out.size
                replace HBW := Lib.hid (stepB HBW.out hb)
                clear hb hHeld
                refine hK.out _ _ (HBW.out) (fun hHeld => ?_)
                clear hK K
                generalize Wp20.alloc (.cells #[.int .i64 0, .bool false, .string ⟨#[]⟩, .slice none 0 0] 33) = Wp25 at *
                obtain ⟨pa, hpp⟩ : ∃ x, Wp20.heap.size = x := ⟨_, rfl⟩
                rw [hpp] at KA HPKA HNAB ⊢
                clear hpp
                refine wpAnyH_ready (rs := [23]) (by kernel_rfl) (by simp) (AllReadyH.cons (o := { dst := some 91, op := Op.call { callee := Callee.value (Operand.func 18), args := #[Operand.tmp 80, Operand.tmp 85, Operand.tmp 90], argTypes := #[22, 3, 36] }, type := 33, pos := "outright.go:271", after := #[{ on := 12, ground := Ground.data }, { on := 17, ground := Ground.data }, { on := 22, ground := Ground.data }, { on := 11, ground := Ground.chain }], guard := none }) rfl (fun K hK => ?_) AllReadyH.nil)
                have HCL := Lib.hid (HC2.out Wp25 _ HQ2.out)
                go_simp
                refine HCL.out.mono ?_
                rintro e Wp26 ⟨A2, c2, rfl, hro, hm, hoth, hkp, hbl⟩
                have HRO2S := Lib.hid (hro.base HBW.out.size)
                replace HQ2 := Lib.hid hm
                replace HQ1 := Lib.hid (hoth _ _ HNE.out HQ1.out)
                replace KA := Lib.hid (hkp.blk _ _ _ KA.out (by decide) (by decide) (by decide) (by decide))
                replace KB := Lib.hid (hkp.blk _ _ _ KB.out (by decide) (by decide) (by decide) (by decide))
                replace RO1 := Lib.hid (RO1.out.kp hkp (by decide) (by decide) (by decide) (by decide))
                have RO2 := HRO2S
                replace HBW := Lib.hid (hbl _ _ HBW.out (Nat.le_refl _))
                clear hro hm hoth hkp hbl hHeld HCL HC2 HRO2S
                refine hK.out _ _ (HBW.out) (fun hHeld => ?_)
                clear hK K
                refine wpAnyH_ready (rs := [26]) (by kernel_rfl) (by simp) (AllReadyH.cons (o := { dst := none, op := Op.store 33 (Operand.tmp 12) (Operand.tmp 79), type := 0, pos := "outright.go:271", after := #[{ on := 24, ground := Ground.data }, { on := 11, ground := Ground.data }, { on := 23, ground := Ground.chain }, { on := 0, ground := Ground.phase }, { on := 1, ground := Ground.phase }, { on := 2, ground := Ground.phase }, { on := 3, ground := Ground.phase }, { on := 4, ground := Ground.phase }, { on := 5, ground := Ground.phase }, { on := 6, ground := Ground.phase }, { on := 7, ground := Ground.phase }, { on := 8, ground := Ground.phase }, { on := 9, ground := Ground.phase }, { on := 10, ground := Ground.phase }, { on := 11, ground := Ground.phase }, { on := 12, ground := Ground.textOnly Departure.lateStores }, { on := 13, ground := Ground.textOnly Departure.lateStores }, { on := 14, ground := Ground.textOnly Departure.lateStores }, { on := 15, ground := Ground.textOnly Departure.lateStores }, { on := 16, ground := Ground.textOnly Departure.lateStores }, { on := 17, ground := Ground.textOnly Departure.lateStores }, { on := 18, ground := Ground.textOnly Departure.lateStores }, { on := 19, ground := Ground.textOnly Departure.lateStores }, { on := 20, ground := Ground.textOnly Departure.lateStores }, { on := 21, ground := Ground.textOnly Departure.lateStores }, { on := 22, ground := Ground.textOnly Departure.lateStores }, { on := 23, ground := Ground.textOnly Departure.lateStoresUnsure }, { on := 24, ground := Ground.phase }, { on := 25, ground := Ground.phase }], guard := none }) rfl (fun K hK => ?_) AllReadyH.nil)
                refine wp_store_row 33 (.tmp 12) (.tmp 79) rfl pa #[.int .i64 er1, .bool fo1, .string va1, .slice A1 pr1.length c1] rfl rfl 33 #[.int .i64 0, .bool false, .string ⟨#[]⟩, .slice none 0 0] KA.out (by kernel_rfl) rfl (by first | rfl | (simp [Value.oneCell']; done)) ?_
                replace HQ1 : Hid (MQ_ (Wp26.setRow pa #[.int .i64 er1, .bool fo1, .string va1, .slice A1 pr1.length c1]) _ _ _ _) := Lib.hid (HQ1.out.setRow KA.out (by decide) (by decide) (by decide) (by decide) (by decide))
                replace HQ2 : Hid (MQ_ (Wp26.setRow pa #[.int .i64 er1, .bool fo1, .string va1, .slice A1 pr1.length c1]) _ _ _ _) := Lib.hid (HQ2.out.setRow KA.out (by decide) (by decide) (by decide) (by decide) (by decide))
                replace KB : Hid (Blk (Wp26.setRow pa #[.int .i64 er1, .bool fo1, .string va1, .slice A1 pr1.length c1]) _ _ _) := Lib.hid (Blk.setRow KB.out HNAB.out.symm)
                replace RO1 := Lib.hid (ROwn.setRow (c2 := #[.int .i64 er1, .bool fo1, .string va1, .slice A1 pr1.length c1]) RO1.out KA.out (by decide))
                replace RO2 := Lib.hid (ROwn.setRow (c2 := #[.int .i64 er1, .bool fo1, .string va1, .slice A1 pr1.length c1]) RO2.out KA.out (by decide))
                replace HBW : Hid (Below w.heap.size w (Wp26.setRow pa #[.int .i64 er1, .bool fo1, .string va1, .slice A1 pr1.length c1])) := Lib.hid (below_setRow HBW.out HPKA.out _)
                replace KA : Hid (Blk (Wp26.setRow pa #[.int .i64 er1, .bool fo1, .string va1, .slice A1 pr1.length c1]) pa #[.int .i64 er1, .bool fo1, .string va1, .slice A1 pr1.length c1] 33) := Lib.hid (Blk.setRow_self KA.out)
                clear hHeld
                refine hK.out _ _ (HBW.out) (fun hHeld => ?_)
                clear hK K
                generalize Wp26.setRow pa #[.int .i64 er1, .bool fo1, .string va1, .slice A1 pr1.length c1] = Wp27 at *
                refine wpAnyH_ready (rs := [27]) (by kernel_rfl) (by simp) (AllReadyH.cons (o := { dst := none, op := Op.store 33 (Operand.tmp 13) (Operand.tmp 91), type := 0, pos := "outright.go:271", after := #[{ on := 25, ground := Ground.data }, { on := 23, ground := Ground.data }, { on := 26, ground := Ground.chain }, { on := 0, ground := Ground.phase }, { on := 1, ground := Ground.phase }, { on := 2, ground := Ground.phase }, { on := 3, ground := Ground.phase }, { on := 4, ground := Ground.phase }, { on := 5, ground := Ground.phase }, { on := 6, ground := Ground.phase }, { on := 7, ground := Ground.phase }, { on := 8, ground := Ground.phase }, { on := 9, ground := Ground.phase }, { on := 10, ground := Ground.phase }, { on := 11, ground := Ground.phase }, { on := 12, ground := Ground.phase }, { on := 13, ground := Ground.phase }, { on := 14, ground := Ground.phase }, { on := 15, ground := Ground.phase }, { on := 16, ground := Ground.phase }, { on := 17, ground := Ground.phase }, { on := 18, ground := Ground.phase }, { on := 19, ground := Ground.phase }, { on := 20, ground := Ground.phase }, { on := 21, ground := Ground.phase }, { on := 22, ground := Ground.phase }, { on := 23, ground := Ground.phase }, { on := 24, ground := Ground.phase }, { on := 25, ground := Ground.phase }, { on := 26, ground := Ground.phase }], guard := none }) rfl (fun K hK => ?_) AllReadyH.nil)
                refine wp_store_row 33 (.tmp 13) (.tmp 91) rfl pb #[.int .i64 er2, .bool fo2, .string va2, .slice A2 pr2.length c2] rfl rfl 33 #[.int .i64 0, .bool false, .string ⟨#[]⟩, .slice none 0 0] KB.out (by kernel_rfl) rfl (by first | rfl | (simp [Value.oneCell']; done)) ?_
                replace HQ1 : Hid (MQ_ (Wp27.setRow pb #[.int .i64 er2, .bool fo2, .string va2, .slice A2 pr2.length c2]) _ _ _ _) := Lib.hid (HQ1.out.setRow KB.out (by decide) (by decide) (by decide) (by decide) (by decide))
                replace HQ2 : Hid (MQ_ (Wp27.setRow pb #[.int .i64 er2, .bool fo2, .string va2, .slice A2 pr2.length c2]) _ _ _ _) := Lib.hid (HQ2.out.setRow KB.out (by decide) (by decide) (by decide) (by decide) (by decide))
                replace KA : Hid (Blk (Wp27.setRow pb #[.int .i64 er2, .bool fo2, .string va2, .slice A2 pr2.length c2]) _ _ _) := Lib.hid (Blk.setRow KA.out HNAB.out)
                replace RO1 := Lib.hid (ROwn.setRow (c2 := #[.int .i64 er2, .bool fo2, .string va2, .slice A2 pr2.length c2]) RO1.out KB.out (by decide))
                replace RO2 := Lib.hid (ROwn.setRow (c2 := #[.int .i64 er2, .bool fo2, .string va2, .slice A2 pr2.length c2]) RO2.out KB.out (by decide))
                replace HBW : Hid (Below w.heap.size w (Wp27.setRow pb #[.int .i64 er2, .bool fo2, .string va2, .slice A2 pr2.length c2])) := Lib.hid (below_setRow HBW.out HPKB.out _)
                replace KB : Hid (Blk (Wp27.setRow pb #[.int .i64 er2, .bool fo2, .string va2, .slice A2 pr2.length c2]) pb #[.int .i64 er2, .bool fo2, .string va2, .slice A2 pr2.length c2] 33) := Lib.hid (Blk.setRow_self KB.out)
                clear hHeld
                refine hK.out _ _ (HBW.out) (fun hHeld => ?_)
                clear hK K
                generalize Wp27.setRow pb #[.int .i64 er2, .bool fo2, .string va2, .slice A2 pr2.length c2] = Wp28 at *
                refine wpAnyH_done (by kernel_rfl) (NoPanic.normal ?_) _
                clear hHeld
                go_wp2
                go_meet
                exact ⟨_, _, _, _, _, _, _, rfl, rfl, KA.out, KB.out, RO1.out, RO2.out, HQ1.out, HQ2.out, HBW.out⟩
          · go_simp
            have hb : Below Wd.heap.size Wd (Wd.alloc (.cells #[.int .i64 0, .bool false, .string ⟨#[]⟩, .slice none 0 0] 33)) := (Below.refl _ _).alloc (Nat.le_refl _) _
            replace HQ1 := Lib.hid (HQ1.out.later hb)
            replace HQ2 := Lib.hid (HQ2.out.later hb)
            have KA : Hid (Blk (Wd.alloc (.cells #[.int .i64 0, .bool false, .string ⟨#[]⟩, .slice none 0 0] 33)) Wd.heap.size #[.int .i64 0, .bool false, .string ⟨#[]⟩, .slice none 0 0] 33) := Lib.hid (Blk.new Wd _ 33)
            have HPKA : Hid (w.heap.size ≤ Wd.heap.size) := Lib.hid HBW.out.size
            replace HBW := Lib.hid (stepB HBW.out hb)
            clear hb hHeld
            refine hK.out _ _ (HBW.out) (fun hHeld => ?_)
            clear hK K
            generalize Wd.alloc (.cells #[.int .i64 0, .bool false, .string ⟨#[]⟩, .slice none 0 0] 33) = Wp29 at *
            obtain ⟨pa, hpp⟩ : ∃ x, Wd.heap.size = x := ⟨_, rfl⟩
            rw [hpp] at KA HPKA ⊢
            clear hpp
            refine wpAnyH_ready (rs := [11, 25]) (by kernel_rfl) (by simp) (AllReadyH.cons (o := { dst := some 79, op := Op.call { callee := Callee.value (Operand.func 18), args := #[Operand.tmp 68, Operand.tmp 73, Operand.tmp 78], argTypes := #[22, 3, 36] }, type := 33, pos := "outright.go:271", after := #[{ on := 0, ground := Ground.data }, { on := 5, ground := Ground.data }, { on := 10, ground := Ground.data }], guard := none }) rfl (fun K hK => ?_) (AllReadyH.cons (o := { dst := some 13, op := Op.alloc 33, type := 0, pos := "outright.go:271", after := #[], guard := none }) rfl (fun K hK => ?_) AllReadyH.nil))
            · have HCL := Lib.hid (HC1.out Wp29 _ HQ1.out)
              go_simp
              refine HCL.out.mono ?_
              rintro e Wp30 ⟨A1, c1, rfl, hro, hm, hoth, hkp, hbl⟩
              have HRO1S := Lib.hid (hro.base HBW.out.size)
              replace HQ1 := Lib.hid hm
              replace HQ2 := Lib.hid (hoth _ _ HNE.out.symm HQ2.out)
              replace KA := Lib.hid (hkp.blk _ _ _ KA.out (by decide) (by decide) (by decide) (by decide))
              have RO1 := HRO1S
              replace HBW := Lib.hid (hbl _ _ HBW.out (Nat.le_refl _))
              clear hro hm hoth hkp hbl hHeld HCL HC1 HRO1S
              refine hK.out _ _ (HBW.out) (fun hHeld => ?_)
              clear hK K
              refine wpAnyH_ready (rs := [23, 25]) (by kernel_rfl) (by simp) (AllReadyH.cons (o := { dst := some 91, op := Op.call { callee := Callee.value (Operand.func 18), args := #[Operand.tmp 80, Operand.tmp 85, Operand.tmp 90], argTypes := #[22, 3, 36] }, type := 33, pos := "outright.go:271", after := #[{ on := 12, ground := Ground.data }, { on := 17, ground := Ground.data }, { on := 22, ground := Ground.data }, { on := 11, ground := Ground.chain }], guard := none }) rfl (fun K hK => ?_) (AllReadyH.cons (o := { dst := some 13, op := Op.alloc 33, type := 0, pos := "outright.go:271", after := #[], guard := none }) rfl (fun K hK => ?_) AllReadyH.nil))
              · have HCL := Lib.hid (HC2.out Wp30 _ HQ2.out)
                go_simp
                refine HCL.out.mono ?_
                rintro e Wp31 ⟨A2, c2, rfl, hro, hm, hoth, hkp, hbl⟩
                have HRO2S := Lib.hid (hro.base HBW.out.size)
                replace HQ2 := Lib.hid hm
                replace HQ1 := Lib.hid (hoth _ _ HNE.out HQ1.out)
                replace KA := Lib.hid (hkp.blk _ _ _ KA.out (by decide) (by decide) (by decide) (by decide))
                replace RO1 := Lib.hid (RO1.out.kp hkp (by decide) (by decide) (by decide) (by decide))
                have RO2 := HRO2S
                replace HBW := Lib.hid (hbl _ _ HBW.out (Nat.le_refl _))
                clear hro hm hoth hkp hbl hHeld HCL HC2 HRO2S
                refine hK.out _ _ (HBW.out) (fun hHeld => ?_)
                clear hK K
                refine wpAnyH_ready (rs := [25]) (by kernel_rfl) (by simp) (AllReadyH.cons (o := { dst := some 13, op := Op.alloc 33, type := 0, pos := "outright.go:271", after := #[], guard := none }) rfl (fun K hK => ?_) AllReadyH.nil)
                go_simp
                have hb : Below Wp31.heap.size Wp31 (Wp31.alloc (.cells #[.int .i64 0, .bool false, .string ⟨#[]⟩, .slice none 0 0] 33)) := (Below.refl _ _).alloc (Nat.le_refl _) _
                have HNAB := Lib.hid (show pa ≠ Wp31.heap.size from by have := KA.out.lt; omega)
                replace HQ1 := Lib.hid (HQ1.out.later hb)
                replace HQ2 := Lib.hid (HQ2.out.later hb)
                replace KA := Lib.hid (KA.out.later hb)
                replace RO1 := Lib.hid (RO1.out.later hb)
                replace RO2 := Lib.hid (RO2.out.later hb)
                have KB : Hid (Blk (Wp31.alloc (.cells #[.int .i64 0, .bool false, .string ⟨#[]⟩, .slice none 0 0] 33)) Wp31.heap.size #[.int .i64 0, .bool false, .string ⟨#[]⟩, .slice none 0 0] 33) := Lib.hid (Blk.new Wp31 _ 33)
                have HPKB : Hid (w.heap.size ≤ Wp31.heap.size) := Lib.hid HBW.out.size
                replace HBW := Lib.hid (stepB HBW.out hb)
                clear hb hHeld
                refine hK.out _ _ (HBW.out) (fun hHeld => ?_)
                clear hK K
                generalize Wp31.alloc (.cells #[.int .i64 0, .bool false, .string ⟨#[]⟩, .slice none 0 0] 33) = Wp32 at *
                obtain ⟨pb, hpp⟩ : ∃ x, Wp31.heap.size = x := ⟨_, rfl⟩
                rw [hpp] at KB HPKB HNAB ⊢
                clear hpp
                refine wpAnyH_ready (rs := [26]) (by kernel_rfl) (by simp) (AllReadyH.cons (o := { dst := none, op := Op.store 33 (Operand.tmp 12) (Operand.tmp 79), type := 0, pos := "outright.go:271", after := #[{ on := 24, ground := Ground.data }, { on := 11, ground := Ground.data }, { on := 23, ground := Ground.chain }, { on := 0, ground := Ground.phase }, { on := 1, ground := Ground.phase }, { on := 2, ground := Ground.phase }, { on := 3, ground := Ground.phase }, { on := 4, ground := Ground.phase }, { on := 5, ground := Ground.phase }, { on := 6, ground := Ground.phase }, { on := 7, ground := Ground.phase }, { on := 8, ground := Ground.phase }, { on := 9, ground := Ground.phase }, { on := 10, ground := Ground.phase }, { on := 11, ground := Ground.phase }, { on := 12, ground := Ground.textOnly Departure.lateStores }, { on := 13, ground := Ground.textOnly Departure.lateStores }, { on := 14, ground := Ground.textOnly Departure.lateStores }, { on := 15, ground := Ground.textOnly Departure.lateStores }, { on := 16, ground := Ground.textOnly Departure.lateStores }, { on := 17, ground := Ground.textOnly Departure.lateStores }, { on := 18, ground := Ground.textOnly Departure.lateStores }, { on := 19, ground := Ground.textOnly Departure.lateStores }, { on := 20, ground := Ground.textOnly Departure.lateStores }, { on := 21, ground := Ground.textOnly Departure.lateStores }, { on := 22, ground := Ground.textOnly Departure.lateStores }, { on := 23, ground := Ground.textOnly Departure.lateStoresUnsure }, { on := 24, ground := Ground.phase }, { on := 25, ground := Ground.phase }], guard := none }) rfl (fun K hK => ?_) AllReadyH.nil)
                refine wp_store_row 33 (.tmp 12) (.tmp 79) rfl pa #[.int .i64 er1, .bool fo1, .string va1, .slice A1 pr1.length c1] rfl rfl 33 #[.int .i64 0, .bool false, .string ⟨#[]⟩, .slice none 0 0] KA.out (by kernel_rfl) rfl (by first | rfl | (simp [Value.oneCell']; done)) ?_
                replace HQ1 : Hid (MQ_ (Wp32.setRow pa #[.int .i64 er1, .bool fo1, .string va1, .slice A1 pr1.length c1]) _ _ _ _) := Lib.hid (HQ1.out.setRow KA.out (by decide) (by decide) (by decide) (by decide) (by decide))
                replace HQ2 : Hid (MQ_ (Wp32.setRow pa #[.int .i64 er1, .bool fo1, .string va1, .slice A1 pr1.length c1]) _ _ _ _) := Lib.hid (HQ2.out.setRow KA.out (by decide) (by decide) (by decide) (by decide) (by decide))
                replace KB : Hid (Blk (Wp32.setRow pa #[.int .i64 er1, .bool fo1, .string va1, .slice A1 pr1.length c1]) _ _ _) := Lib.hid (Blk.setRow KB.out HNAB.out.symm)
                replace RO1 := Lib.hid (ROwn.setRow (c2 := #[.int .i64 er1, .bool fo1, .string va1, .slice A1 pr1.length c1]) RO1.out KA.out (by decide))
                replace RO2 := Lib.hid (ROwn.setRow (c2 := #[.int .i64 er1, .bool fo1, .string va1, .slice A1 pr1.length c1]) RO2.out KA.out (by decide))
                replace HBW : Hid (Below w.heap.size w (Wp32.setRow pa #[.int .i64 er1, .bool fo1, .string va1, .slice A1 pr1.length c1])) := Lib.hid (below_setRow HBW.out HPKA.out _)
                replace KA : Hid (Blk (Wp32.setRow pa #[.int .i64 er1, .bool fo1, .string va1, .slice A1 pr1.length c1]) pa #[.int .i64 er1, .bool fo1, .string va1, .slice A1 pr1.length c1] 33) := Lib.hid (Blk.setRow_self KA.out)
                clear hHeld
                refine hK.out _ _ (HBW.out) (fun hHeld => ?_)
                clear hK K
                generalize Wp32.setRow pa #[.int .i64 er1, .bool fo1, .string va1, .slice A1 pr1.length c1] = Wp33 at *
                refine wpAnyH_ready (rs := [27]) (by kernel_rfl) (by simp) (AllReadyH.cons (o := { dst := none, op := Op.store 33 (Operand.tmp 13) (Operand.tmp 91), type := 0, pos := "outright.go:271", after := #[{ on := 25, ground := Ground.data }, { on := 23, ground := Ground.data }, { on := 26, ground := Ground.chain }, { on := 0, ground := Ground.phase }, { on := 1, ground := Ground.phase }, { on := 2, ground := Ground.phase }, { on := 3, ground := Ground.phase }, { on := 4, ground := Ground.phase }, { on := 5, ground := Ground.phase }, { on := 6, ground := Ground.phase }, { on := 7, ground := Ground.phase }, { on := 8, ground := Ground.phase }, { on := 9, ground := Ground.phase }, { on := 10, ground := Ground.phase }, { on := 11, ground := Ground.phase }, { on := 12, ground := Ground.phase }, { on := 13, ground := Ground.phase }, { on := 14, ground := Ground.phase }, { on := 15, ground := Ground.phase }, { on := 16, ground := Ground.phase }, { on := 17, ground := Ground.phase }, { on := 18, ground := Ground.phase }, { on := 19, ground := Ground.phase }, { on := 20, ground := Ground.phase }, { on := 21, ground := Ground.phase }, { on := 22, ground := Ground.phase }, { on := 23, ground := Ground.phase }, { on := 24, ground := Ground.phase }, { on := 25, ground := Ground.phase }, { on := 26, ground := Ground.phase }], guard := none }) rfl (fun K hK => ?_) AllReadyH.nil)
                refine wp_store_row 33 (.tmp 13) (.tmp 91) rfl pb #[.int .i64 er2, .bool fo2, .string va2, .slice A2 pr2.length c2] rfl rfl 33 #[.int .i64 0, .bool false, .string ⟨#[]⟩, .slice none 0 0] KB.out (by kernel_rfl) rfl (by first | rfl | (simp [Value.oneCell']; done)) ?_
                replace HQ1 : Hid (MQ_ (Wp33.setRow pb #[.int .i64 er2, .bool fo2, .string va2, .slice A2 pr2.length c2]) _ _ _ _) := Lib.hid (HQ1.out.setRow KB.out (by decide) (by decide) (by decide) (by decide) (by decide))
                replace HQ2 : Hid (MQ_ (Wp33.setRow pb #[.int .i64 er2, .bool fo2, .string va2, .slice A2 pr2.length c2]) _ _ _ _) := Lib.hid (HQ2.out.setRow KB.out (by decide) (by decide) (by decide) (by decide) (by decide))
                replace KA : Hid (Blk (Wp33.setRow pb #[.int .i64 er2, .bool fo2, .string va2, .slice A2 pr2.length c2]) _ _ _) := Lib.hid (Blk.setRow KA.out HNAB.out)
                replace RO1 := Lib.hid (ROwn.setRow (c2 := #[.int .i64 er2, .bool fo2, .string va2, .slice A2 pr2.length c2]) RO1.out KB.out (by decide))
                replace RO2 := Lib.hid (ROwn.setRow (c2 := #[.int .i64 er2, .bool fo2, .string va2, .slice A2 pr2.length c2]) RO2.out KB.out (by decide))
                replace HBW : Hid (Below w.heap.size w (Wp33.setRow pb #[.int .i64 er2, .bool fo2, .string va2, .slice A2 pr2.length c2])) := Lib.hid (below_setRow HBW.out HPKB.out _)
                replace KB : Hid (Blk (Wp33.setRow pb #[.int .i64 er2, .bool fo2, .string va2, .slice A2 pr2.length c2]) pb #[.int .i64 er2, .bool fo2, .string va2, .slice A2 pr2.length c2] 33) := Lib.hid (Blk.setRow_self KB.out)
                clear hHeld
                refine hK.out _ _ (HBW.out) (fun hHeld => ?_)
                clear hK K
                generalize Wp33.setRow pb #[.int .i64 er2, .bool fo2, .string va2, .slice A2 pr2.length c2] = Wp34 at *
                refine wpAnyH_done (by kernel_rfl) (NoPanic.normal ?_) _
                clear hHeld
                go_wp2
                go_meet
                exact ⟨_, _, _, _, _, _, _, rfl, rfl, KA.out, KB.out, RO1.out, RO2.out, HQ1.out, HQ2.out, HBW.out⟩
              · go_simp
                have hb : Below Wp30.heap.size Wp30 (Wp30.alloc (.cells #[.int .i64 0, .bool false, .string ⟨#[]⟩, .slice none 0 0] 33)) := (Below.refl _ _).alloc (Nat.le_refl _) _
                have HNAB := Lib.hid (show pa ≠ Wp30.heap.size from by have := KA.out.lt; omega)
                replace HQ1 := Lib.hid (HQ1.out.later hb)
                replace HQ2 := Lib.hid (HQ2.out.later hb)
                replace KA := Lib.hid (KA.out.later hb)
                replace RO1 := Lib.hid (RO1.out.later hb)
                have KB : Hid (Blk (Wp30.alloc (.cells #[.int .i64 0, .bool false, .string ⟨#[]⟩, .slice none 0 0] 33)) Wp30.heap.size #[.int .i64 0, .bool false, .string ⟨#[]⟩, .slice none 0 0] 33) := Lib.hid (Blk.new Wp30 _ 33)
                have HPKB : Hid (w.heap.size ≤ Wp30.heap.size) := Lib.hid HBW.out.size
                replace HBW := Lib.hid (stepB HBW.out hb)
                clear hb hHeld
                refine hK.out _ _ (HBW.out) (fun hHeld => ?_)
                clear hK K
                generalize Wp30.alloc (.cells #[.int .i64 0, .bool false, .string ⟨#[]⟩, .slice none 0 0] 33) = Wp35 at *
                obtain ⟨pb, hpp⟩ : ∃ x, Wp30.heap.size = x := ⟨_, rfl⟩
                rw [hpp] at KB HPKB HNAB ⊢
                clear hpp
                refine wpAnyH_ready (rs := [23]) (by kernel_rfl) (by simp) (AllReadyH.cons (o := { dst := some 91, op := Op.call { callee := Callee.value (Operand.func 18), args := #[Operand.tmp 80, Operand.tmp 85, Operand.tmp 90], argTypes := #[22, 3, 36] }, type := 33, pos := "outright.go:271", after := #[{ on := 12, ground := Ground.data }, { on := 17, ground := Ground.data }, { on := 22, ground := Ground.data }, { on := 11, ground := Ground.chain }], guard := none }) rfl (fun K hK => ?_) AllReadyH.nil)
                have HCL := Lib.hid (HC2.out Wp35 _ HQ2.out)
                go_simp
                refine HCL.out.mono ?_
                rintro e Wp36 ⟨A2, c2, rfl, hro, hm, hoth, hkp, hbl⟩
                have HRO2S := Lib.hid (hro.base HBW.out.size)
                replace HQ2 := Lib.hid hm
                replace HQ1 := Lib.hid (hoth _ _ HNE.out HQ1.out)
                replace KA := Lib.hid (hkp.blk _ _ _ KA.out (by decide) (by decide) (by decide) (by decide))
                replace KB := Lib.hid (hkp.blk _ _ _ KB.out (by decide) (by decide) (by decide) (by decide))
                replace RO1 := Lib.hid (RO1.out.kp hkp (by decide) (by decide) (by decide) (by decide))
                have RO2 := HRO2S
                replace HBW := Lib.hid (hbl _ _ HBW.out (Nat.le_refl _))
                clear hro hm hoth hkp hbl hHeld HCL HC2 HRO2S
                refine hK.out _ _ (HBW.out) (fun hHeld => ?_)
                clear hK K
                refine wpAnyH_ready (rs := [26]) (by kernel_rfl) (by simp) (AllReadyH.cons (o := { dst := none, op := Op.store 33 (Operand.tmp 12) (Operand.tmp 79), type := 0, pos := "outright.go:271", after := #[{ on := 24, ground := Ground.data }, { on := 11, ground := Ground.data }, { on := 23, ground := Ground.chain }, { on := 0, ground := Ground.phase }, { on := 1, ground := Ground.phase }, { on := 2, ground := Ground.phase }, { on := 3, ground := Ground.phase }, { on := 4, ground := Ground.phase }, { on := 5, ground := Ground.phase }, { on := 6, ground := Ground.phase }, { on := 7, ground := Ground.phase }, { on := 8, ground := Ground.phase }, { on := 9, ground := Ground.phase }, { on := 10, ground := Ground.phase }, { on := 11, ground := Ground.phase }, { on := 12, ground := Ground.textOnly Departure.lateStores }, { on := 13, ground := Ground.textOnly Departure.lateStores }, { on := 14, ground := Ground.textOnly Departure.lateStores }, { on := 15, ground := Ground.textOnly Departure.lateStores }, { on := 16, ground := Ground.textOnly Departure.lateStores }, { on := 17, ground := Ground.textOnly Departure.lateStores }, { on := 18, ground := Ground.textOnly Departure.lateStores }, { on := 19, ground := Ground.textOnly Departure.lateStores }, { on := 20, ground := Ground.textOnly Departure.lateStores }, { on := 21, ground := Ground.textOnly Departure.lateStores }, { on := 22, ground := Ground.textOnly Departure.lateStores }, { on := 23, ground := Ground.textOnly Departure.lateStoresUnsure }, { on := 24, ground := Ground.phase }, { on := 25, ground := Ground.phase }], guard := none }) rfl (fun K hK => ?_) AllReadyH.nil)
                refine wp_store_row 33 (.tmp 12) (.tmp 79) rfl pa #[.int .i64 er1, .bool fo1, .string va1, .slice A1 pr1.length c1] rfl rfl 33 #[.int .i64 0, .bool false, .string ⟨#[]⟩, .slice none 0 0] KA.out (by kernel_rfl) rfl (by first | rfl | (simp [Value.oneCell']; done)) ?_
                replace HQ1 : Hid (MQ_ (Wp36.setRow pa #[.int .i64 er1, .bool fo1, .string va1, .slice A1 pr1.length c1]) _ _ _ _) := Lib.hid (HQ1.out.setRow KA.out (by decide) (by decide) (by decide) (by decide) (by decide))
                replace HQ2 : Hid (MQ_ (Wp36.setRow pa #[.int .i64 er1, .bool fo1, .string va1, .slice A1 pr1.length c1]) _ _ _ _) := Lib.hid (HQ2.out.setRow KA.out (by decide) (by decide) (by decide) (by decide) (by decide))
                replace KB : Hid (Blk (Wp36.setRow pa #[.int .i64 er1, .bool fo1, .string va1, .slice A1 pr1.length c1]) _ _ _) := Lib.hid (Blk.setRow KB.out HNAB.out.symm)
                replace RO1 := Lib.hid (ROwn.setRow (c2 := #[.int .i64 er1, .bool fo1, .string va1, .slice A1 pr1.length c1]) RO1.out KA.out (by decide))
                replace RO2 := Lib.hid (ROwn.setRow (c2 := #[.int .i64 er1, .bool fo1, .string va1, .slice A1 pr1.length c1]) RO2.out KA.out (by decide))
                replace HBW : Hid (Below w.heap.size w (Wp36.setRow pa #[.int .i64 er1, .bool fo1, .string va1, .slice A1 pr1.length c1])) := Lib.hid (below_setRow HBW.out HPKA.out _)
                replace KA : Hid (Blk (Wp36.setRow pa #[.int .i64 er1, .bool fo1, .string va1, .slice A1 pr1.length c1]) pa #[.int .i64 er1, .bool fo1, .string va1, .slice A1 pr1.length c1] 33) := Lib.hid (Blk.setRow_self KA.out)
                clear hHeld
                refine hK.out _ _ (HBW.out) (fun hHeld => ?_)
                clear hK K
                generalize Wp36.setRow pa #[.int .i64 er1, .bool fo1, .string va1, .slice A1 pr1.length c1] = Wp37 at *
                refine wpAnyH_ready (rs := [27]) (by kernel_rfl) (by simp) (AllReadyH.cons (o := { dst := none, op := Op.store 33 (Operand.tmp 13) (Operand.tmp 91), type := 0, pos := "outright.go:271", after := #[{ on := 25, ground := Ground.data }, { on := 23, ground := Ground.data }, { on := 26, ground := Ground.chain }, { on := 0, ground := Ground.phase }, { on := 1, ground := Ground.phase }, { on := 2, ground := Ground.phase }, { on := 3, ground := Ground.phase }, { on := 4, ground := Ground.phase }, { on := 5, ground := Ground.phase }, { on := 6, ground := Ground.phase }, { on := 7, ground := Ground.phase }, { on := 8, ground := Ground.phase }, { on := 9, ground := Ground.phase }, { on := 10, ground := Ground.phase }, { on := 11, ground := Ground.phase }, { on := 12, ground := Ground.phase }, { on := 13, ground := Ground.phase }, { on := 14, ground := Ground.phase }, { on := 15, ground := Ground.phase }, { on := 16, ground := Ground.phase }, { on := 17, ground := Ground.phase }, { on := 18, ground := Ground.phase }, { on := 19, ground := Ground.phase }, { on := 20, ground := Ground.phase }, { on := 21, ground := Ground.phase }, { on := 22, ground := Ground.phase }, { on := 23, ground := Ground.phase }, { on := 24, ground := Ground.phase }, { on := 25, ground := Ground.phase }, { on := 26, ground := Ground.phase }], guard := none }) rfl (fun K hK => ?_) AllReadyH.nil)
                refine wp_store_row 33 (.tmp 13) (.tmp 91) rfl pb #[.int .i64 er2, .bool fo2, .string va2, .slice A2 pr2.length c2] rfl rfl 33 #[.int .i64 0, .bool false, .string ⟨#[]⟩, .slice none 0 0] KB.out (by kernel_rfl) rfl (by first | rfl | (simp [Value.oneCell']; done)) ?_
                replace HQ1 : Hid (MQ_ (Wp37.setRow pb #[.int .i64 er2, .bool fo2, .string va2, .slice A2 pr2.length c2]) _ _ _ _) := Lib.hid (HQ1.out.setRow KB.out (by decide) (by decide) (by decide) (by decide) (by decide))
                replace HQ2 : Hid (MQ_ (Wp37.setRow pb #[.int .i64 er2, .bool fo2, .string va2, .slice A2 pr2.length c2]) _ _ _ _) := Lib.hid (HQ2.out.setRow KB.out (by decide) (by decide) (by decide) (by decide) (by decide))
                replace KA : Hid (Blk (Wp37.setRow pb #[.int .i64 er2, .bool fo2, .string va2, .slice A2 pr2.length c2]) _ _ _) := Lib.hid (Blk.setRow KA.out HNAB.out)
                replace RO1 := Lib.hid (ROwn.setRow (c2 := #[.int .i64 er2, .bool fo2, .string va2, .slice A2 pr2.length c2]) RO1.out KB.out (by decide))
                replace RO2 := Lib.hid (ROwn.setRow (c2 := #[.int .i64 er2, .bool fo2, .string va2, .slice A2 pr2.length c2]) RO2.out KB.out (by decide))
                replace HBW : Hid (Below w.heap.size w (Wp37.setRow pb #[.int .i64 er2, .bool fo2, .string va2, .slice A2 pr2.length c2])) := Lib.hid (below_setRow HBW.out HPKB.out _)
                replace KB : Hid (Blk (Wp37.setRow pb #[.int .i64 er2, .bool fo2, .string va2, .slice A2 pr2.length c2]) pb #[.int .i64 er2, .bool fo2, .string va2, .slice A2 pr2.length c2] 33) := Lib.hid (Blk.setRow_self KB.out)
                clear hHeld
                refine hK.out _ _ (HBW.out) (fun hHeld => ?_)
                clear hK K
                generalize Wp37.setRow pb #[.int .i64 er2, .bool fo2, .string va2, .slice A2 pr2.length c2] = Wp38 at *
                refine wpAnyH_done (by kernel_rfl) (NoPanic.normal ?_) _
                clear hHeld
                go_wp2
                go_meet
                exact ⟨_, _, _, _, _, _, _, rfl, rfl, KA.out, KB.out, RO1.out, RO2.out, HQ1.out, HQ2.out, HBW.out⟩
            · go_simp
              have hb : Below Wp29.heap.size Wp29 (Wp29.alloc (.cells #[.int .i64 0, .bool false, .string ⟨#[]⟩, .slice none 0 0] 33)) := (Below.refl _ _).alloc (Nat.le_refl _) _
              have HNAB := Lib.hid (show pa ≠ Wp29.heap.size from by have := KA.out.lt; omega)
              replace HQ1 := Lib.hid (HQ1.out.later hb)
              replace HQ2 := Lib.hid (HQ2.out.later hb)
              replace KA := Lib.hid (KA.out.later hb)
              have KB : Hid (Blk (Wp29.alloc (.cells #[.int .i64 0, .bool false, .string ⟨#[]⟩, .slice none 0 0] 33)) Wp29.heap.size #[.int .i64 0, .bool false, .string ⟨#[]⟩, .slice none 0 0] 33) := Lib.hid (Blk.new Wp29 _ 33)
              have HPKB : Hid (w.heap.size ≤ Wp29.heap.size) := Lib.hid HBW.out.size
              replace HBW := Lib.hid (stepB HBW.out hb)
              clear hb hHeld
              refine hK.out _ _ (HBW.out) (fun hHeld => ?_)
              clear hK K
              generalize Wp29.alloc (.cells #[.int .i64 0, .bool false, .string ⟨#[]⟩, .slice none 0 0] 33) = Wp39 at *
              obtain ⟨pb, hpp⟩ : ∃ x, Wp29.heap.size = x := ⟨_, rfl⟩
              rw [hpp] at KB HPKB HNAB ⊢
              clear hpp
              refine wpAnyH_ready (rs := [11]) (by kernel_rfl) (by simp) (AllReadyH.cons (o := { dst := some 79, op := Op.call { callee := Callee.value (Operand.func 18), args := #[Operand.tmp 68, Operand.tmp 73, Operand.tmp 78], argTypes := #[22, 3, 36] }, type := 33, pos := "outright.go:271", after := #[{ on := 0, ground := Ground.data }, { on := 5, ground := Ground.data }, { on := 10, ground := Ground.data }], guard := none }) rfl (fun K hK => ?_) AllReadyH.nil)
              have HCL := Lib.hid (HC1.out Wp39 _ HQ1.out)
              go_simp
              refine HCL.out.mono ?_
              rintro e Wp40 ⟨A1, c1, rfl, hro, hm, hoth, hkp, hbl⟩
              have HRO1S := Lib.hid (hro.base HBW.out.size)
              replace HQ1 := Lib.hid hm
              replace HQ2 := Lib.hid (hoth _ _ HNE.out.symm HQ2.out)
              replace KA := Lib.hid (hkp.blk _ _ _ KA.out (by decide) (by decide) (by decide) (by decide))
              replace KB := Lib.hid (hkp.blk _ _ _ KB.out (by decide) (by decide) (by decide) (by decide))
              have RO1 := HRO1S
              replace HBW := Lib.hid (hbl _ _ HBW.out (Nat.le_refl _))
              clear hro hm hoth hkp hbl hHeld HCL HC1 HRO1S
              refine hK.out _ _ (HBW.out) (fun hHeld => ?_)
              clear hK K
              refine wpAnyH_ready (rs := [23]) (by kernel_rfl) (by simp) (AllReadyH.cons (o := { dst := some 91, op := Op.call { callee := Callee.value (Operand.func 18), args := #[Operand.tmp 80, Operand.tmp 85, Operand.tmp 90], argTypes := #[22, 3, 36] }, type := 33, pos := "outright.go:271", after := #[{ on := 12, ground := Ground.data }, { on := 17, ground := Ground.data }, { on := 22, ground := Ground.data }, { on := 11, ground := Ground.chain }], guard := none }) rfl (fun K hK => ?_) AllReadyH.nil)
              have HCL := Lib.hid (HC2.out Wp40 _ HQ2.out)
              go_simp
              refine HCL.out.mono ?_
              rintro e Wp41 ⟨A2, c2, rfl, hro, hm, hoth, hkp, hbl⟩
              have HRO2S := Lib.hid (hro.base HBW.out.size)
              replace HQ2 := Lib.hid hm
              replace HQ1 := Lib.hid (hoth _ _ HNE.out HQ1.out)
              replace KA := Lib.hid (hkp.blk _ _ _ KA.out (by decide) (by decide) (by decide) (by decide))
              replace KB := Lib.hid (hkp.blk _ _ _ KB.out (by decide) (by decide) (by decide) (by decide))
              replace RO1 := Lib.hid (RO1.out.kp hkp (by decide) (by decide) (by decide) (by decide))
              have RO2 := HRO2S
              replace HBW := Lib.hid (hbl _ _ HBW.out (Nat.le_refl _))
              clear hro hm hoth hkp hbl hHeld HCL HC2 HRO2S
              refine hK.out _ _ (HBW.out) (fun hHeld => ?_)
              clear hK K
              refine wpAnyH_ready (rs := [26]) (by kernel_rfl) (by simp) (AllReadyH.cons (o := { dst := none, op := Op.store 33 (Operand.tmp 12) (Operand.tmp 79), type := 0, pos := "outright.go:271", after := #[{ on := 24, ground := Ground.data }, { on := 11, ground := Ground.data }, { on := 23, ground := Ground.chain }, { on := 0, ground := Ground.phase }, { on := 1, ground := Ground.phase }, { on := 2, ground := Ground.phase }, { on := 3, ground := Ground.phase }, { on := 4, ground := Ground.phase }, { on := 5, ground := Ground.phase }, { on := 6, ground := Ground.phase }, { on := 7, ground := Ground.phase }, { on := 8, ground := Ground.phase }, { on := 9, ground := Ground.phase }, { on := 10, ground := Ground.phase }, { on := 11, ground := Ground.phase }, { on := 12, ground := Ground.textOnly Departure.lateStores }, { on := 13, ground := Ground.textOnly Departure.lateStores }, { on := 14, ground := Ground.textOnly Departure.lateStores }, { on := 15, ground := Ground.textOnly Departure.lateStores }, { on := 16, ground := Ground.textOnly Departure.lateStores }, { on := 17, ground := Ground.textOnly Departure.lateStores }, { on := 18, ground := Ground.textOnly Departure.lateStores }, { on := 19, ground := Ground.textOnly Departure.lateStores }, { on := 20, ground := Ground.textOnly Departure.lateStores }, { on := 21, ground := Ground.textOnly Departure.lateStores }, { on := 22, ground := Ground.textOnly Departure.lateStores }, { on := 23, ground := Ground.textOnly Departure.lateStoresUnsure }, { on := 24, ground := Ground.phase }, { on := 25, ground := Ground.phase }], guard := none }) rfl (fun K hK => ?_) AllReadyH.nil)
              refine wp_store_row 33 (.tmp 12) (.tmp 79) rfl pa #[.int .i64 er1, .bool fo1, .string va1, .slice A1 pr1.length c1] rfl rfl 33 #[.int .i64 0, .bool false, .string ⟨#[]⟩, .slice none 0 0] KA.out (by kernel_rfl) rfl (by first | rfl | (simp [Value.oneCell']; done)) ?_
              replace HQ1 : Hid (MQ_ (Wp41.setRow pa #[.int .i64 er1, .bool fo1, .string va1, .slice A1 pr1.length c1]) _ _ _ _) := Lib.hid (HQ1.out.setRow KA.out (by decide) (by decide) (by decide) (by decide) (by decide))
              replace HQ2 : Hid (MQ_ (Wp41.setRow pa #[.int .i64 er1, .bool fo1, .string va1, .slice A1 pr1.length c1]) _ _ _ _) := Lib.hid (HQ2.out.setRow KA.out (by decide) (by decide) (by decide) (by decide) (by decide))
              replace KB : Hid (Blk (Wp41.setRow pa #[.int .i64 er1, .bool fo1, .string va1, .slice A1 pr1.length c1]) _ _ _) := Lib.hid (Blk.setRow KB.out HNAB.out.symm)
              replace RO1 := Lib.hid (ROwn.setRow (c2 := #[.int .i64 er1, .bool fo1, .string va1, .slice A1 pr1.length c1]) RO1.out KA.out (by decide))
              replace RO2 := Lib.hid (ROwn.setRow (c2 := #[.int .i64 er1, .bool fo1, .string va1, .slice A1 pr1.length c1]) RO2.out KA.out (by decide))
              replace HBW : Hid (Below w.heap.size w (Wp41.setRow pa #[.int .i64 er1, .bool fo1, .string va1, .slice A1 pr1.length c1])) := Lib.hid (below_setRow HBW.out HPKA.out _)
              replace KA : Hid (Blk (Wp41.setRow pa #[.int .i64 er1, .bool fo1, .string va1, .slice A1 pr1.length c1]) pa #[.int .i64 er1, .bool fo1, .string va1, .slice A1 pr1.length c1] 33) := Lib.hid (Blk.setRow_self KA.out)
              clear hHeld
              refine hK.out _ _ (HBW.out) (fun hHeld => ?_)
              clear hK K
              generalize Wp41.setRow pa #[.int .i64 er1, .bool fo1, .string va1, .slice A1 pr1.length c1] = Wp42 at *
              refine wpAnyH_ready (rs := [27]) (by kernel_rfl) (by simp) (AllReadyH.cons (o := { dst := none, op := Op.store 33 (Operand.tmp 13) (Operand.tmp 91), type := 0, pos := "outright.go:271", after := #[{ on := 25, ground := Ground.data }, { on := 23, ground := Ground.data }, { on := 26, ground := Ground.chain }, { on := 0, ground := Ground.phase }, { on := 1, ground := Ground.phase }, { on := 2, ground := Ground.phase }, { on := 3, ground := Ground.phase }, { on := 4, ground := Ground.phase }, { on := 5, ground := Ground.phase }, { on := 6, ground := Ground.phase }, { on := 7, ground := Ground.phase }, { on := 8, ground := Ground.phase }, { on := 9, ground := Ground.phase }, { on := 10, ground := Ground.phase }, { on := 11, ground := Ground.phase }, { on := 12, ground := Ground.phase }, { on := 13, ground := Ground.phase }, { on := 14, ground := Ground.phase }, { on := 15, ground := Ground.phase }, { on := 16, ground := Ground.phase }, { on := 17, ground := Ground.phase }, { on := 18, ground := Ground.phase }, { on := 19, ground := Ground.phase }, { on := 20, ground := Ground.phase }, { on := 21, ground := Ground.phase }, { on := 22, ground := Ground.phase }, { on := 23, ground := Ground.phase }, { on := 24, ground := Ground.phase }, { on := 25, ground := Ground.phase }, { on := 26, ground := Ground.phase }], guard := none }) rfl (fun K hK => ?_) AllReadyH.nil)
              refine wp_store_row 33 (.tmp 13) (.tmp 91) rfl pb #[.int .i64 er2, .bool fo2, .string va2, .slice A2 pr2.length c2] rfl rfl 33 #[.int .i64 0, .bool false, .string ⟨#[]⟩, .slice none 0 0] KB.out (by kernel_rfl) rfl (by first | rfl | (simp [Value.oneCell']; done)) ?_
              replace HQ1 : Hid (MQ_ (Wp42.setRow pb #[.int .i64 er2, .bool fo2, .string va2, .slice A2 pr2.length c2]) _ _ _ _) := Lib.hid (HQ1.out.setRow KB.out (by decide) (by decide) (by decide) (by decide) (by decide))
              replace HQ2 : Hid (MQ_ (Wp42.setRow pb #[.int .i64 er2, .bool fo2, .string va2, .slice A2 pr2.length c2]) _ _ _ _) := Lib.hid (HQ2.out.setRow KB.out (by decide) (by decide) (by decide) (by decide) (by decide))
              replace KA : Hid (Blk (Wp42.setRow pb #[.int .i64 er2, .bool fo2, .string va2, .slice A2 pr2.length c2]) _ _ _) := Lib.hid (Blk.setRow KA.out HNAB.out)
              replace RO1 := Lib.hid (ROwn.setRow (c2 := #[.int .i64 er2, .bool fo2, .string va2, .slice A2 pr2.length c2]) RO1.out KB.out (by decide))
              replace RO2 := Lib.hid (ROwn.setRow (c2 := #[.int .i64 er2, .bool fo2, .string va2, .slice A2 pr2.length c2]) RO2.out KB.out (by decide))
              replace HBW : Hid (Below w.heap.size w (Wp42.setRow pb #[.int .i64 er2, .bool fo2, .string va2, .slice A2 pr2.length c2])) := Lib.hid (below_setRow HBW.out HPKB.out _)
              replace KB : Hid (Blk (Wp42.setRow pb #[.int .i64 er2, .bool fo2, .string va2, .slice A2 pr2.length c2]) pb #[.int .i64 er2, .bool fo2, .string va2, .slice A2 pr2.length c2] 33) := Lib.hid (Blk.setRow_self KB.out)
              clear hHeld
              refine hK.out _ _ (HBW.out) (fun hHeld => ?_)
              clear hK K
              generalize Wp42.setRow pb #[.int .i64 er2, .bool fo2, .string va2, .slice A2 pr2.length c2] = Wp43 at *
              refine wpAnyH_done (by kernel_rfl) (NoPanic.normal ?_) _
              clear hHeld
              go_wp2
              go_meet
              exact ⟨_, _, _, _, _, _, _, rfl, rfl, KA.out, KB.out, RO1.out, RO2.out, HQ1.out, HQ2.out, HBW.out⟩
          · go_simp
            have hb : Below Wd.heap.size Wd (Wd.alloc (.cells #[.int .i64 0, .bool false, .string ⟨#[]⟩, .slice none 0 0] 33)) := (Below.refl _ _).alloc (Nat.le_refl _) _
            replace HQ1 := Lib.hid (HQ1.out.later hb)
            replace HQ2 := Lib.hid (HQ2.out.later hb)
            have KB : Hid (Blk (Wd.alloc (.cells #[.int .i64 0, .bool false, .string ⟨#[]⟩, .slice none 0 0] 33)) Wd.heap.size #[.int .i64 0, .bool false, .string ⟨#[]⟩, .slice none 0 0] 33) := Lib.hid (Blk.new Wd _ 33)
            have HPKB : Hid (w.heap.size ≤ Wd.heap.size) := Lib.hid HBW.out.size
            replace HBW := Lib.hid (stepB HBW.out hb)
            clear hb hHeld
            refine hK.out _ _ (HBW.out) (fun hHeld => ?_)
            clear hK K
            generalize Wd.alloc (.cells #[.int .i64 0, .bool false, .string ⟨#[]⟩, .slice none 0 0] 33) = Wp44 at *
            obtain ⟨pb, hpp⟩ : ∃ x, Wd.heap.size = x := ⟨_, rfl⟩
            rw [hpp] at KB HPKB ⊢
            clear hpp
            refine wpAnyH_ready (rs := [11, 24]) (by kernel_rfl) (by simp) (AllReadyH.cons (o := { dst := some 79, op := Op.call { callee := Callee.value (Operand.func 18), args := #[Operand.tmp 68, Operand.tmp 73, Operand.tmp 78], argTypes := #[22, 3, 36] }, type := 33, pos := "outright.go:271", after := #[{ on := 0, ground := Ground.data }, { on := 5, ground := Ground.data }, { on := 10, ground := Ground.data }], guard := none }) rfl (fun K hK => ?_) (AllReadyH.cons (o := { dst := some 12, op := Op.alloc 33, type := 0, pos := "outright.go:271", after := #[], guard := none }) rfl (fun K hK => ?_) AllReadyH.nil))
            · have HCL := Lib.hid (HC1.out Wp44 _ HQ1.out)
              go_simp
              refine HCL.out.mono ?_
              rintro e Wp45 ⟨A1, c1, rfl, hro, hm, hoth, hkp, hbl⟩
              have HRO1S := Lib.hid (hro.base HBW.out.size)
              replace HQ1 := Lib.hid hm
              replace HQ2 := Lib.hid (hoth _ _ HNE.out.symm HQ2.out)
              replace KB := Lib.hid (hkp.blk _ _ _ KB.out (by decide) (by decide) (by decide) (by decide))
              have RO1 := HRO1S
              replace HBW := Lib.hid (hbl _ _ HBW.out (Nat.le_refl _))
              clear hro hm hoth hkp hbl hHeld HCL HC1 HRO1S
              refine hK.out _ _ (HBW.out) (fun hHeld => ?_)
              clear hK K
              refine wpAnyH_ready (rs := [23, 24]) (by kernel_rfl) (by simp) (AllReadyH.cons (o := { dst := some 91, op := Op.call { callee := Callee.value (Operand.func 18), args := #[Operand.tmp 80, Operand.tmp 85, Operand.tmp 90], argTypes := #[22, 3, 36] }, type := 33, pos := "outright.go:271", after := #[{ on := 12, ground := Ground.data }, { on := 17, ground := Ground.data }, { on := 22, ground := Ground.data }, { on := 11, ground := Ground.chain }], guard := none }) rfl (fun K hK => ?_) (AllReadyH.cons (o := { dst := some 12, op := Op.alloc 33, type := 0, pos := "outright.go:271", after := #[], guard := none }) rfl (fun K hK => ?_) AllReadyH.nil))
              · have HCL := Lib.hid (HC2.out Wp45 _ HQ2.out)
                go_simp
                refine HCL.out.mono ?_
                rintro e Wp46 ⟨A2, c2, rfl, hro, hm, hoth, hkp, hbl⟩
                have HRO2S := Lib.hid (hro.base HBW.out.size)
                replace HQ2 := Lib.hid hm
                replace HQ1 := Lib.hid (hoth _ _ HNE.out HQ1.out)
                replace KB := Lib.hid (hkp.blk _ _ _ KB.out (by decide) (by decide) (by decide) (by decide))
                replace RO1 := Lib.hid (RO1.out.kp hkp (by decide) (by decide) (by decide) (by decide))
                have RO2 := HRO2S
                replace HBW := Lib.hid (hbl _ _ HBW.out (Nat.le_refl _))
                clear hro hm hoth hkp hbl hHeld HCL HC2 HRO2S
                refine hK.out _ _ (HBW.out) (fun hHeld => ?_)
                clear hK K
                refine wpAnyH_ready (rs := [24]) (by kernel_rfl) (by simp) (AllReadyH.cons (o := { dst := some 12, op := Op.alloc 33, type := 0, pos := "outright.go:271", after := #[], guard := none }) rfl (fun K hK => ?_) AllReadyH.nil)
                go_simp
                have hb : Below Wp46.heap.size Wp46 (Wp46.alloc (.cells #[.int .i64 0, .bool false, .string ⟨#[]⟩, .slice none 0 0] 33)) := (Below.refl _ _).alloc (Nat.le_refl _) _
                have HNAB := Lib.hid (show Wp46.heap.size ≠ pb from by have := KB.out.lt; omega)
                replace HQ1 := Lib.hid (HQ1.out.later hb)
                replace HQ2 := Lib.hid (HQ2.out.later hb)
                replace KB := Lib.hid (KB.out.later hb)
                replace RO1 := Lib.hid (RO1.out.later hb)
                replace RO2 := Lib.hid (RO2.out.later hb)
                have KA : Hid (Blk (Wp46.alloc (.cells #[.int .i64 0, .bool false, .string ⟨#[]⟩, .slice none 0 0] 33)) Wp46.heap.size #[.int .i64 0, .bool false, .string ⟨#[]⟩, .slice none 0 0] 33) := Lib.hid (Blk.new Wp46 _ 33)
                have HPKA : Hid (w.heap.size ≤ Wp46.heap.size) := Lib.hid HBW.out.size
                replace HBW := Lib.hid (stepB HBW.out hb)
                clear hb hHeld
                refine hK.out _ _ (HBW.out) (fun hHeld => ?_)
                clear hK K
                generalize Wp46.alloc (.cells #[.int .i64 0, .bool false, .string ⟨#[]⟩, .slice none 0 0] 33) = Wp47 at *
                obtain ⟨pa, hpp⟩ : ∃ x, Wp46.heap.size = x := ⟨_, rfl⟩
                rw [hpp] at KA HPKA HNAB ⊢
                clear hpp
                refine wpAnyH_ready (rs := [26]) (by kernel_rfl) (by simp) (AllReadyH.cons (o := { dst := none, op := Op.store 33 (Operand.tmp 12) (Operand.tmp 79), type := 0, pos := "outright.go:271", after := #[{ on := 24, ground := Ground.data }, { on := 11, ground := Ground.data }, { on := 23, ground := Ground.chain }, { on := 0, ground := Ground.phase }, { on := 1, ground := Ground.phase }, { on := 2, ground := Ground.phase }, { on := 3, ground := Ground.phase }, { on := 4, ground := Ground.phase }, { on := 5, ground := Ground.phase }, { on := 6, ground := Ground.phase }, { on := 7, ground := Ground.phase }, { on := 8, ground := Ground.phase }, { on := 9, ground := Ground.phase }, { on := 10, ground := Ground.phase }, { on := 11, ground := Ground.phase }, { on := 12, ground := Ground.textOnly Departure.lateStores }, { on := 13, ground := Ground.textOnly Departure.lateStores }, { on := 14, ground := Ground.textOnly Departure.lateStores }, { on := 15, ground := Ground.textOnly Departure.lateStores }, { on := 16, ground := Ground.textOnly Departure.lateStores }, { on := 17, ground := Ground.textOnly Departure.lateStores }, { on := 18, ground := Ground.textOnly Departure.lateStores }, { on := 19, ground := Ground.textOnly Departure.lateStores }, { on := 20, ground := Ground.textOnly Departure.lateStores }, { on := 21, ground := Ground.textOnly Departure.lateStores }, { on := 22, ground := Ground.textOnly Departure.lateStores }, { on := 23, ground := Ground.textOnly Departure.lateStoresUnsure }, { on := 24, ground := Ground.phase }, { on := 25, ground := Ground.phase }], guard := none }) rfl (fun K hK => ?_) AllReadyH.nil)
                refine wp_store_row 33 (.tmp 12) (.tmp 79) rfl pa #[.int .i64 er1, .bool fo1, .string va1, .slice A1 pr1.length c1] rfl rfl 33 #[.int .i64 0, .bool false, .string ⟨#[]⟩, .slice none 0 0] KA.out (by kernel_rfl) rfl (by first | rfl | (simp [Value.oneCell']; done)) ?_
                replace HQ1 : Hid (MQ_ (Wp47.setRow pa #[.int .i64 er1, .bool fo1, .string va1, .slice A1 pr1.length c1]) _ _ _ _) := Lib.hid (HQ1.out.setRow KA.out (by decide) (by decide) (by decide) (by decide) (by decide))
                replace HQ2 : Hid (MQ_ (Wp47.setRow pa #[.int .i64 er1, .bool fo1, .string va1, .slice A1 pr1.length c1]) _ _ _ _) := Lib.hid (HQ2.out.setRow KA.out (by decide) (by decide) (by decide) (by decide) (by decide))
                replace KB : Hid (Blk (Wp47.setRow pa #[.int .i64 er1, .bool fo1, .string va1, .slice A1 pr1.length c1]) _ _ _) := Lib.hid (Blk.setRow KB.out HNAB.out.symm)
                replace RO1 := Lib.hid (ROwn.setRow (c2 := #[.int .i64 er1, .bool fo1, .string va1, .slice A1 pr1.length c1]) RO1.out KA.out (by decide))
                replace RO2 := Lib.hid (ROwn.setRow (c2 := #[.int .i64 er1, .bool fo1, .string va1, .slice A1 pr1.length c1]) RO2.out KA.out (by decide))
                replace HBW : Hid (Below w.heap.size w (Wp47.setRow pa #[.int .i64 er1, .bool fo1, .string va1, .slice A1 pr1.length c1])) := Lib.hid (below_setRow HBW.out HPKA.out _)
                replace KA : Hid (Blk (Wp47.setRow pa #[.int .i64 er1, .bool fo1, .string va1, .slice A1 pr1.length c1]) pa #[.int .i64 er1, .bool fo1, .string va1, .slice A1 pr1.length c1] 33) := Lib.hid (Blk.setRow_self KA.out)
                clear hHeld
                refine hK.out _ _ (HBW.out) (fun hHeld => ?_)
                clear hK K
                generalize Wp47.setRow pa #[.int .i64 er1, .bool fo1, .string va1, .slice A1 pr1.length c1] = Wp48 at *
                refine wpAnyH_ready (rs := [27]) (by kernel_rfl) (by simp) (AllReadyH.cons (o := { dst := none, op := Op.store 33 (Operand.tmp 13) (Operand.tmp 91), type := 0, pos := "outright.go:271", after := #[{ on := 25, ground := Ground.data }, { on := 23, ground := Ground.data }, { on := 26, ground := Ground.chain }, { on := 0, ground := Ground.phase }, { on := 1, ground := Ground.phase }, { on := 2, ground := Ground.phase }, { on := 3, ground := Ground.phase }, { on := 4, ground := Ground.phase }, { on := 5, ground := Ground.phase }, { on := 6, ground := Ground.phase }, { on := 7, ground := Ground.phase }, { on := 8, ground := Ground.phase }, { on := 9, ground := Ground.phase }, { on := 10, ground := Ground.phase }, { on := 11, ground := Ground.phase }, { on := 12, ground := Ground.phase }, { on := 13, ground := Ground.phase }, { on := 14, ground := Ground.phase }, { on := 15, ground := Ground.phase }, { on := 16, ground := Ground.phase }, { on := 17, ground := Ground.phase }, { on := 18, ground := Ground.phase }, { on := 19, ground := Ground.phase }, { on := 20, ground := Ground.phase }, { on := 21, ground := Ground.phase }, { on := 22, ground := Ground.phase }, { on := 23, ground := Ground.phase }, { on := 24, ground := Ground.phase }, { on := 25, ground := Ground.phase }, { on := 26, ground := Ground.phase }], guard := none }) rfl (fun K hK => ?_) AllReadyH.nil)
                refine wp_store_row 33 (.tmp 13) (.tmp 91) rfl pb #[.int .i64 er2, .bool fo2, .string va2, .slice A2 pr2.length c2] rfl rfl 33 #[.int .i64 0, .bool false, .string ⟨#[]⟩, .slice none 0 0] KB.out (by kernel_rfl) rfl (by first | rfl | (simp [Value.oneCell']; done)) ?_
                replace HQ1 : Hid (MQ_ (Wp48.setRow pb #[.int .i64 er2, .bool fo2, .string va2, .slice A2 pr2.length c2]) _ _ _ _) := Lib.hid (HQ1.out.setRow KB.out (by decide) (by decide) (by decide) (by decide) (by decide))
                replace HQ2 : Hid (MQ_ (Wp48.setRow pb #[.int .i64 er2, .bool fo2, .string va2, .slice A2 pr2.length c2]) _ _ _ _) := Lib.hid (HQ2.out.setRow KB.out (by decide) (by decide) (by decide) (by decide) (by decide))
                replace KA : Hid (Blk (Wp48.setRow pb #[.int .i64 er2, .bool fo2, .string va2, .slice A2 pr2.length c2]) _ _ _) := Lib.hid (Blk.setRow KA.out HNAB.out)
                replace RO1 := Lib.hid (ROwn.setRow (c2 := #[.int .i64 er2, .bool fo2, .string va2, .slice A2 pr2.length c2]) RO1.out KB.out (by decide))
                replace RO2 := Lib.hid (ROwn.setRow (c2 := #[.int .i64 er2, .bool fo2, .string va2, .slice A2 pr2.length c2]) RO2.out KB.out (by decide))
                replace HBW : Hid (Below w.heap.size w (Wp48.setRow pb #[.int .i64 er2, .bool fo2, .string va2, .slice A2 pr2.length c2])) := Lib.hid (below_setRow HBW.out HPKB.out _)
                replace KB : Hid (Blk (Wp48.setRow pb #[.int .i64 er2, .bool fo2, .string va2, .slice A2 pr2.length c2]) pb #[.int .i64 er2, .bool fo2, .string va2, .slice A2 pr2.length c2] 33) := Lib.hid (Blk.setRow_self KB.out)
                clear hHeld
                refine hK.out _ _ (HBW.out) (fun hHeld => ?_)
                clear hK K
                generalize Wp48.setRow pb #[.int .i64 er2, .bool fo2, .string va2, .slice A2 pr2.length c2] = Wp49 at *
                refine wpAnyH_done (by kernel_rfl) (NoPanic.normal ?_) _
                clear hHeld
                go_wp2
                go_meet
                exact ⟨_, _, _, _, _, _, _, rfl, rfl, KA.out, KB.out, RO1.out, RO2.out, HQ1.out, HQ2.out, HBW.out⟩
              · go_simp
                have hb : Below Wp45.heap.size Wp45 (Wp45.alloc (.cells #[.int .i64 0, .bool false, .string ⟨#[]⟩, .slice none 0 0] 33)) := (Below.refl _ _).alloc (Nat.le_refl _) _
                have HNAB := Lib.hid (show Wp45.heap.size ≠ pb from by have := KB.out.lt; omega)
                replace HQ1 := Lib.hid (HQ1.out.later hb)
                replace HQ2 := Lib.hid (HQ2.out.later hb)
                replace KB := Lib.hid (KB.out.later hb)
                replace RO1 := Lib.hid (RO1.out.later hb)
                have KA : Hid (Blk (Wp45.alloc (.cells #[.int .i64 0, .bool false, .string ⟨#[]⟩, .slice none 0 0] 33)) Wp45.heap.size #[.int .i64 0, .bool false, .string ⟨#[]⟩, .slice none 0 0] 33) := Lib.hid (Blk.new Wp45 _ 33)
                have HPKA : Hid (w.heap.size ≤ Wp45.heap.size) := Lib.hid HBW.out.size
                replace HBW := Lib.hid (stepB HBW.out hb)
                clear hb hHeld
                refine hK.out _ _ (HBW.out) (fun hHeld => ?_)
                clear hK K
                generalize Wp45.alloc (.cells #[.int .i64 0, .bool false, .string ⟨#[]⟩, .slice none 0 0] 33) = Wp50 at *
                obtain ⟨pa, hpp⟩ : ∃ x, Wp45.heap.size = x := ⟨_, rfl⟩
                rw [hpp] at KA HPKA HNAB ⊢
                clear hpp
                refine wpAnyH_ready (rs := [23]) (by kernel_rfl) (by simp) (AllReadyH.cons (o := { dst := some 91, op := Op.call { callee := Callee.value (Operand.func 18), args := #[Operand.tmp 80, Operand.tmp 85, Operand.tmp 90], argTypes := #[22, 3, 36] }, type := 33, pos := "outright.go:271", after := #[{ on := 12, ground := Ground.data }, { on := 17, ground := Ground.data }, { on := 22, ground := Ground.data }, { on := 11, ground := Ground.chain }], guard := none }) rfl (fun K hK => ?_) AllReadyH.nil)
                have HCL := Lib.hid (HC2.out Wp50 _ HQ2.out)
                go_simp
                refine HCL.out.mono ?_
                rintro e Wp51 ⟨A2, c2, rfl, hro, hm, hoth, hkp, hbl⟩
                have HRO2S := Lib.hid (hro.base HBW.out.size)
                replace HQ2 := Lib.hid hm
                replace HQ1 := Lib.hid (hoth _ _ HNE.out HQ1.out)
                replace KA := Lib.hid (hkp.blk _ _ _ KA.out (by decide) (by decide) (by decide) (by decide))
                replace KB := Lib.hid (hkp.blk _ _ _ KB.out (by decide) (by decide) (by decide) (by decide))
                replace RO1 := Lib.hid (RO1.out.kp hkp (by decide) (by decide) (by decide) (by decide))
                have RO2 := HRO2S
                replace HBW := Lib.hid (hbl _ _ HBW.out (Nat.le_refl _))
                clear hro hm hoth hkp hbl hHeld HCL HC2 HRO2S
                refine hK.out _ _ (HBW.out) (fun hHeld => ?_)
                clear hK K
                refine wpAnyH_ready (rs := [26]) (by kernel_rfl) (by simp) (AllReadyH.cons (o := { dst := none, op := Op.store 33 (Operand.tmp 12) (Operand.tmp 79), type := 0, pos := "outright.go:271", after := #[{ on := 24, ground := Ground.data }, { on := 11, ground := Ground.data }, { on := 23, ground := Ground.chain }, { on := 0, ground := Ground.phase }, { on := 1, ground := Ground.phase }, { on := 2, ground := Ground.phase }, { on := 3, ground := Ground.phase }, { on := 4, ground := Ground.phase }, { on := 5, ground := Ground.phase }, { on := 6, ground := Ground.phase }, { on := 7, ground := Ground.phase }, { on := 8, ground := Ground.phase }, { on := 9, ground := Ground.phase }, { on := 10, ground := Ground.phase }, { on := 11, ground := Ground.phase }, { on := 12, ground := Ground.textOnly Departure.lateStores }, { on := 13, ground := Ground.textOnly Departure.lateStores }, { on := 14, ground := Ground.textOnly Departure.lateStores }, { on := 15, ground := Ground.textOnly Departure.lateStores }, { on := 16, ground := Ground.textOnly Departure.lateStores }, { on := 17, ground := Ground.textOnly Departure.lateStores }, { on := 18, ground := Ground.textOnly Departure.lateStores }, { on := 19, ground := Ground.textOnly Departure.lateStores }, { on := 20, ground := Ground.textOnly Departure.lateStores }, { on := 21, ground := Ground.textOnly Departure.lateStores }, { on := 22, ground := Ground.textOnly Departure.lateStores }, { on := 23, ground := Ground.textOnly Departure.lateStoresUnsure }, { on := 24, ground := Ground.phase }, { on := 25, ground := Ground.phase }], guard := none }) rfl (fun K hK => ?_) AllReadyH.nil)
                refine wp_store_row 33 (.tmp 12) (.tmp 79) rfl pa #[.int .i64 er1, .bool fo1, .string va1, .slice A1 pr1.length c1] rfl rfl 33 #[.int .i64 0, .bool false, .string ⟨#[]⟩, .slice none 0 0] KA.out (by kernel_rfl) rfl (by first | rfl | (simp [Value.oneCell']; done)) ?_
                replace HQ1 : Hid (MQ_ (Wp51.setRow pa #[.int .i64 er1, .bool fo1, .string va1, .slice A1 pr1.length c1]) _ _ _ _) := Lib.hid (HQ1.out.setRow KA.out (by decide) (by decide) (by decide) (by decide) (by decide))
                replace HQ2 : Hid (MQ_ (Wp51.setRow pa #[.int .i64 er1, .bool fo1, .string va1, .slice A1 pr1.length c1]) _ _ _ _) := Lib.hid (HQ2.out.setRow KA.out (by decide) (by decide) (by decide) (by decide) (by decide))
                replace KB : Hid (Blk (Wp51.setRow pa #[.int .i64 er1, .bool fo1, .string va1, .slice A1 pr1.length c1]) _ _ _) := Lib.hid (Blk.setRow KB.out HNAB.out.symm)
                replace RO1 := Lib.hid (ROwn.setRow (c2 := #[.int .i64 er1, .bool fo1, .string va1, .slice A1 pr1.length c1]) RO1.out KA.out (by decide))
                replace RO2 := Lib.hid (ROwn.setRow (c2 := #[.int .i64 er1, .bool fo1, .string va1, .slice A1 pr1.length c1]) RO2.out KA.out (by decide))
                replace HBW : Hid (Below w.heap.size w (Wp51.setRow pa #[.int .i64 er1, .bool fo1, .string va1, .slice A1 pr1.length c1])) := Lib.hid (below_setRow HBW.out HPKA.out _)
                replace KA : Hid (Blk (Wp51.setRow pa #[.int .i64 er1, .bool fo1, .string va1, .slice A1 pr1.length c1]) pa #[.int .i64 er1, .bool fo1, .string va1, .slice A1 pr1.length c1] 33) := Lib.hid (Blk.setRow_self KA.out)
                clear hHeld
                refine hK.out _ _ (HBW.out) (fun hHeld => ?_)
                clear hK K
                generalize Wp51.setRow pa #[.int .i64 er1, .bool fo1, .string va1, .slice A1 pr1.length c1] = Wp52 at *
                refine wpAnyH_ready (rs := [27]) (by kernel_rfl) (by simp) (AllReadyH.cons (o := { dst := none, op := Op.store 33 (Operand.tmp 13) (Operand.tmp 91), type := 0, pos := "outright.go:271", after := #[{ on := 25, ground := Ground.data }, { on := 23, ground := Ground.data }, { on := 26, ground := Ground.chain }, { on := 0, ground := Ground.phase }, { on := 1, ground := Ground.phase }, { on := 2, ground := Ground.phase }, { on := 3, ground := Ground.phase }, { on := 4, ground := Ground.phase }, { on := 5, ground := Ground.phase }, { on := 6, ground := Ground.phase }, { on := 7, ground := Ground.phase }, { on := 8, ground := Ground.phase }, { on := 9, ground := Ground.phase }, { on := 10, ground := Ground.phase }, { on := 11, ground := Ground.phase }, { on := 12, ground := Ground.phase }, { on := 13, ground := Ground.phase }, { on := 14, ground := Ground.phase }, { on := 15, ground := Ground.phase }, { on := 16, ground := Ground.phase }, { on := 17, ground := Ground.phase }, { on := 18, ground := Ground.phase }, { on := 19, ground := Ground.phase }, { on := 20, ground := Ground.phase }, { on := 21, ground := Ground.phase }, { on := 22, ground := Ground.phase }, { on := 23, ground := Ground.phase }, { on := 24, ground := Ground.phase }, { on := 25, ground := Ground.phase }, { on := 26, ground := Ground.phase }], guard := none }) rfl (fun K hK => ?_) AllReadyH.nil)
                refine wp_store_row 33 (.tmp 13) (.tmp 91) rfl pb #[.int .i64 er2, .bool fo2, .string va2, .slice A2 pr2.length c2] rfl rfl 33 #[.int .i64 0, .bool false, .string ⟨#[]⟩, .slice none 0 0] KB.out (by kernel_rfl) rfl (by first | rfl | (simp [Value.oneCell']; done)) ?_
                replace HQ1 : Hid (MQ_ (Wp52.setRow pb #[.int .i64 er2, .bool fo2, .string va2, .slice A2 pr2.length c2]) _ _ _ _) := Lib.hid (HQ1.out.setRow KB.out (by decide) (by decide) (by decide) (by decide) (by decide))
                replace HQ2 : Hid (MQ_ (Wp52.setRow pb #[.int .i64 er2, .bool fo2, .string va2, .slice A2 pr2.length c2]) _ _ _ _) := Lib.hid (HQ2.out.setRow KB.out (by decide) (by decide) (by decide) (by decide) (by decide))
                replace KA : Hid (Blk (Wp52.setRow pb #[.int .i64 er2, .bool fo2, .string va2, .slice A2 pr2.length c2]) _ _ _) := Lib.hid (Blk.setRow KA.out HNAB.out)
                replace RO1 := Lib.hid (ROwn.setRow (c2 := #[.int .i64 er2, .bool fo2, .string va2, .slice A2 pr2.length c2]) RO1.out KB.out (by decide))
                replace RO2 := Lib.hid (ROwn.setRow (c2 := #[.int .i64 er2, .bool fo2, .string va2, .slice A2 pr2.length c2]) RO2.out KB.out (by decide))
                replace HBW : Hid (Below w.heap.size w (Wp52.setRow pb #[.int .i64 er2, .bool fo2, .string va2, .slice A2 pr2.length c2])) := Lib.hid (below_setRow HBW.out HPKB.out _)
                replace KB : Hid (Blk (Wp52.setRow pb #[.int .i64 er2, .bool fo2, .string va2, .slice A2 pr2.length c2]) pb #[.int .i64 er2, .bool fo2, .string va2, .slice A2 pr2.length c2] 33) := Lib.hid (Blk.setRow_self KB.out)
                clear hHeld
                refine hK.out _ _ (HBW.out) (fun hHeld => ?_)
                clear hK K
                generalize Wp52.setRow pb #[.int .i64 er2, .bool fo2, .string va2, .slice A2 pr2.length c2] = Wp53 at *
                refine wpAnyH_done (by kernel_rfl) (NoPanic.normal ?_) _
                clear hHeld
                go_wp2
                go_meet
                exact ⟨_, _, _, _, _, _, _, rfl, rfl, KA.out, KB.out, RO1.out, RO2.out, HQ1.out, HQ2.out, HBW.out⟩
            · go_simp
              have hb : Below Wp44.heap.size Wp44 (Wp44.alloc (.cells #[.int .i64 0, .bool false, .string ⟨#[]⟩, .slice none 0 0] 33)) := (Below.refl _ _).alloc (Nat.le_refl _) _
              have HNAB := Lib.hid (show Wp44.heap.size ≠ pb from by have := KB.out.lt; omega)
              replace HQ1 := Lib.hid (HQ1.out.later hb)
              replace HQ2 := Lib.hid (HQ2.out.later hb)
              replace KB := Lib.hid (KB.out.later hb)
              have KA : Hid (Blk (Wp44.alloc (.cells #[.int .i64 0, .bool false, .string ⟨#[]⟩, .slice none 0 0] 33)) Wp44.heap.size #[.int .i64 0, .bool false, .string ⟨#[]⟩, .slice none 0 0] 33) := Lib.hid (Blk.new Wp44 _ 33)
              have HPKA : Hid (w.heap.size ≤ Wp44.heap.size) := Lib.hid HBW.out.size
              replace HBW := Lib.hid (stepB HBW.out hb)
              clear hb hHeld
              refine hK.out _ _ (HBW.out) (fun hHeld => ?_)
              clear hK K
              generalize Wp44.alloc (.cells #[.int .i64 0, .bool false, .string ⟨#[]⟩, .slice none 0 0] 33) = Wp54 at *
              obtain ⟨pa, hpp⟩ : ∃ x, Wp44.heap.size = x := ⟨_, rfl⟩
              rw [hpp] at KA HPKA HNAB ⊢
              clear hpp
              refine wpAnyH_ready (rs := [11]) (by kernel_rfl) (by simp) (AllReadyH.cons (o := { dst := some 79, op := Op.call { callee := Callee.value (Operand.func 18), args := #[Operand.tmp 68, Operand.tmp 73, Operand.tmp 78], argTypes := #[22, 3, 36] }, type := 33, pos := "outright.go:271", after := #[{ on := 0, ground := Ground.data }, { on := 5, ground := Ground.data }, { on := 10, ground := Ground.data }], guard := none }) rfl (fun K hK => ?_) AllReadyH.nil)
              have HCL := Lib.hid (HC1.out Wp54 _ HQ1.out)
              go_simp
              refine HCL.out.mono ?_
              rintro e Wp55 ⟨A1, c1, rfl, hro, hm, hoth, hkp, hbl⟩
              have HRO1S := Lib.hid (hro.base HBW.out.size)
              replace HQ1 := Lib.hid hm
              replace HQ2 := Lib.hid (hoth _ _ HNE.out.symm HQ2.out)
              replace KA := Lib.hid (hkp.blk _ _ _ KA.out (by decide) (by decide) (by decide) (by decide))
              replace KB := Lib.hid (hkp.blk _ _ _ KB.out (by decide) (by decide) (by decide) (by decide))
              have RO1 := HRO1S
              replace HBW := Lib.hid (hbl _ _ HBW.out (Nat.le_refl _))
              clear hro hm hoth hkp hbl hHeld HCL HC1 HRO1S
              refine hK.out _ _ (HBW.out) (fun hHeld => ?_)
              clear hK K
              refine wpAnyH_ready (rs := [23]) (by kernel_rfl) (by simp) (AllReadyH.cons (o := { dst := some 91, op := Op.call { callee := Callee.value (Operand.func 18), args := #[Operand.tmp 80, Operand.tmp 85, Operand.tmp 90], argTypes := #[22, 3, 36] }, type := 33, pos := "outright.go:271", after := #[{ on := 12, ground := Ground.data }, { on := 17, ground := Ground.data }, { on := 22, ground := Ground.data }, { on := 11, ground := Ground.chain }], guard := none }) rfl (fun K hK => ?_) AllReadyH.nil)
              have HCL := Lib.hid (HC2.out Wp55 _ HQ2.out)
              go_simp
              refine HCL.out.mono ?_
              rintro e Wp56 ⟨A2, c2, rfl, hro, hm, hoth, hkp, hbl⟩
              have HRO2S := Lib.hid (hro.base HBW.out.size)
              replace HQ2 := Lib.hid hm
              replace HQ1 := Lib.hid (hoth _ _ HNE.out HQ1.out)
              replace KA := Lib.hid (hkp.blk _ _ _ KA.out (by decide) (by decide) (by decide) (by decide))
              replace KB := Lib.hid (hkp.blk _ _ _ KB.out (by decide) (by decide) (by decide) (by decide))
              replace RO1 := Lib.hid (RO1.out.kp hkp (by decide) (by decide) (by decide) (by decide))
              have RO2 := HRO2S
              replace HBW := Lib.hid (hbl _ _ HBW.out (Nat.le_refl _))
              clear hro hm hoth hkp hbl hHeld HCL HC2 HRO2S
              refine hK.out _ _ (HBW.out) (fun hHeld => ?_)
              clear hK K
              refine wpAnyH_ready (rs := [26]) (by kernel_rfl) (by simp) (AllReadyH.cons (o := { dst := none, op := Op.store 33 (Operand.tmp 12) (Operand.tmp 79), type := 0, pos := "outright.go:271", after := #[{ on := 24, ground := Ground.data }, { on := 11, ground := Ground.data }, { on := 23, ground := Ground.chain }, { on := 0, ground := Ground.phase }, { on := 1, ground := Ground.phase }, { on := 2, ground := Ground.phase }, { on := 3, ground := Ground.phase }, { on := 4, ground := Ground.phase }, { on := 5, ground := Ground.phase }, { on := 6, ground := Ground.phase }, { on := 7, ground := Ground.phase }, { on := 8, ground := Ground.phase }, { on := 9, ground := Ground.phase }, { on := 10, ground := Ground.phase }, { on := 11, ground := Ground.phase }, { on := 12, ground := Ground.textOnly Departure.lateStores }, { on := 13, ground := Ground.textOnly Departure.lateStores }, { on := 14, ground := Ground.textOnly Departure.lateStores }, { on := 15, ground := Ground.textOnly Departure.lateStores }, { on := 16, ground := Ground.textOnly Departure.lateStores }, { on := 17, ground := Ground.textOnly Departure.lateStores }, { on := 18, ground := Ground.textOnly Departure.lateStores }, { on := 19, ground := Ground.textOnly Departure.lateStores }, { on := 20, ground := Ground.textOnly Departure.lateStores }, { on := 21, ground := Ground.textOnly Departure.lateStores }, { on := 22, ground := Ground.textOnly Departure.lateStores }, { on := 23, ground := Ground.textOnly Departure.lateStoresUnsure }, { on := 24, ground := Ground.phase }, { on := 25, ground := Ground.phase }], guard := none }) rfl (fun K hK => ?_) AllReadyH.nil)
              refine wp_store_row 33 (.tmp 12) (.tmp 79) rfl pa #[.int .i64 er1, .bool fo1, .string va1, .slice A1 pr1.length c1] rfl rfl 33 #[.int .i64 0, .bool false, .string ⟨#[]⟩, .slice none 0 0] KA.out (by kernel_rfl) rfl (by first | rfl | (simp [Value.oneCell']; done)) ?_
              replace HQ1 : Hid (MQ_ (Wp56.setRow pa #[.int .i64 er1, .bool fo1, .string va1, .slice A1 pr1.length c1]) _ _ _ _) := Lib.hid (HQ1.out.setRow KA.out (by decide) (by decide) (by decide) (by decide) (by decide))
              replace HQ2 : Hid (MQ_ (Wp56.setRow pa #[.int .i64 er1, .bool fo1, .string va1, .slice A1 pr1.length c1]) _ _ _ _) := Lib.hid (HQ2.out.setRow KA.out (by decide) (by decide) (by decide) (by decide) (by decide))
              replace KB : Hid (Blk (Wp56.setRow pa #[.int .i64 er1, .bool fo1, .string va1, .slice A1 pr1.length c1]) _ _ _) := Lib.hid (Blk.setRow KB.out HNAB.out.symm)
              replace RO1 := Lib.hid (ROwn.setRow (c2 := #[.int .i64 er1, .bool fo1, .string va1, .slice A1 pr1.length c1]) RO1.out KA.out (by decide))
              replace RO2 := Lib.hid (ROwn.setRow (c2 := #[.int .i64 er1, .bool fo1, .string va1, .slice A1 pr1.length c1]) RO2.out KA.out (by decide))
              replace HBW : Hid (Below w.heap.size w (Wp56.setRow pa #[.int .i64 er1, .bool fo1, .string va1, .slice A1 pr1.length c1])) := Lib.hid (below_setRow HBW.out HPKA.out _)
              replace KA : Hid (Blk (Wp56.setRow pa #[.int .i64 er1, .bool fo1, .string va1, .slice A1 pr1.length c1]) pa #[.int .i64 er1, .bool fo1, .string va1, .slice A1 pr1.length c1] 33) := Lib.hid (Blk.setRow_self KA.out)
              clear hHeld
              refine hK.out _ _ (HBW.out) (fun hHeld => ?_)
              clear hK K
              generalize Wp56.setRow pa #[.int .i64 er1, .bool fo1, .string va1, .slice A1 pr1.length c1] = Wp57 at *
              refine wpAnyH_ready (rs := [27]) (by kernel_rfl) (by simp) (AllReadyH.cons (o := { dst := none, op := Op.store 33 (Operand.tmp 13) (Operand.tmp 91), type := 0, pos := "outright.go:271", after := #[{ on := 25, ground := Ground.data }, { on := 23, ground := Ground.data }, { on := 26, ground := Ground.chain }, { on := 0, ground := Ground.phase }, { on := 1, ground := Ground.phase }, { on := 2, ground := Ground.phase }, { on := 3, ground := Ground.phase }, { on := 4, ground := Ground.phase }, { on := 5, ground := Ground.phase }, { on := 6, ground := Ground.phase }, { on := 7, ground := Ground.phase }, { on := 8, ground := Ground.phase }, { on := 9, ground := Ground.phase }, { on := 10, ground := Ground.phase }, { on := 11, ground := Ground.phase }, { on := 12, ground := Ground.phase }, { on := 13, ground := Ground.phase }, { on := 14, ground := Ground.phase }, { on := 15, ground := Ground.phase }, { on := 16, ground := Ground.phase }, { on := 17, ground := Ground.phase }, { on := 18, ground := Ground.phase }, { on := 19, ground := Ground.phase }, { on := 20, ground := Ground.phase }, { on := 21, ground := Ground.phase }, { on := 22, ground := Ground.phase }, { on := 23, ground := Ground.phase }, { on := 24, ground := Ground.phase }, { on := 25, ground := Ground.phase }, { on := 26, ground := Ground.phase }], guard := none }) rfl (fun K hK => ?_) AllReadyH.nil)
              refine wp_store_row 33 (.tmp 13) (.tmp 91) rfl pb #[.int .i64 er2, .bool fo2, .string va2, .slice A2 pr2.length c2] rfl rfl 33 #[.int .i64 0, .bool false, .string ⟨#[]⟩, .slice none 0 0] KB.out (by kernel_rfl) rfl (by first | rfl | (simp [Value.oneCell']; done)) ?_
              replace HQ1 : Hid (MQ_ (Wp57.setRow pb #[.int .i64 er2, .bool fo2, .string va2, .slice A2 pr2.length c2]) _ _ _ _) := Lib.hid (HQ1.out.setRow KB.out (by decide) (by decide) (by decide) (by decide) (by decide))
              replace HQ2 : Hid (MQ_ (Wp57.setRow pb #[.int .i64 er2, .bool fo2, .string va2, .slice A2 pr2.length c2]) _ _ _ _) := Lib.hid (HQ2.out.setRow KB.out (by decide) (by decide) (by decide) (by decide) (by decide))
              replace KA : Hid (Blk (Wp57.setRow pb #[.int .i64 er2, .bool fo2, .string va2, .slice A2 pr2.length c2]) _ _ _) := Lib.hid (Blk.setRow KA.out HNAB.out)
              replace RO1 := Lib.hid (ROwn.setRow (c2 := #[.int .i64 er2, .bool fo2, .string va2, .slice A2 pr2.length c2]) RO1.out KB.out (by decide))
              replace RO2 := Lib.hid (ROwn.setRow (c2 := #[.int .i64 er2, .bool fo2, .string va2, .slice A2 pr2.length c2]) RO2.out KB.out (by decide))
              replace HBW : Hid (Below w.heap.size w (Wp57.setRow pb #[.int .i64 er2, .bool fo2, .string va2, .slice A2 pr2.length c2])) := Lib.hid (below_setRow HBW.out HPKB.out _)
              replace KB : Hid (Blk (Wp57.setRow pb #[.int .i64 er2, .bool fo2, .string va2, .slice A2 pr2.length c2]) pb #[.int .i64 er2, .bool fo2, .string va2, .slice A2 pr2.length c2] 33) := Lib.hid (Blk.setRow_self KB.out)
              clear hHeld
              refine hK.out _ _ (HBW.out) (fun hHeld => ?_)
              clear hK K
              generalize Wp57.setRow pb #[.int .i64 er2, .bool fo2, .string va2, .slice A2 pr2.length c2] = Wp58 at *
              refine wpAnyH_done (by kernel_rfl) (NoPanic.normal ?_) _
              clear hHeld
              go_wp2
              go_meet
              exact ⟨_, _, _, _, _, _, _, rfl, rfl, KA.out, KB.out, RO1.out, RO2.out, HQ1.out, HQ2.out, HBW.out⟩
        case rest =>
        obtain ⟨own9, pa, pb, A1, A2', c1, c2', rfl, rfl, ka, kb, ro1, ro2, hq1, hq2, hb⟩ := hcut
        clear HQ1 HQ2 HBW HC1 HC2
        have KA := Lib.hid ka
        have KB := Lib.hid kb
        have RO1 := Lib.hid ro1
        have RO2 := Lib.hid ro2
        have HQ1 := Lib.hid hq1
        have HQ2 := Lib.hid hq2
        have HBW := Lib.hid hb
        clear ka kb ro1 ro2 hq1 hq2 hb
        have u0 := KA.out.cell 0
        have u1 := KA.out.cell 1
        have u2 := KA.out.cell 2
        have u3 := KA.out.cell 3
        have t0 := KB.out.cell 0
        have t1' := KB.out.cell 1
        have t2' := KB.out.cell 2
        have t3 := KB.out.cell 3
        unfold ansV at u0 u1 u2 u3 t0 t1' t2' t3
        simp only [List.getElem?_toArray, List.getElem?_cons_zero, List.getElem?_cons_succ] at u0 u1 u2 u3 t0 t1' t2' t3
        by_cases h34 : er1 = 34
        · have d34 : (er1 == 34) = true := by rw [h34]; rfl
          go_wp2
          go_ret
          exact ⟨rfl, HBW.out⟩
        have d34 : (er1 == 34) = false := by rw [beq_eq_false_iff_ne]; exact h34
        obtain ⟨hv, he⟩ := HVD.out.resolve_left h34
        cases he
        have HV := Lib.hid hv
        clear h34 hv HVD
        
        have HAN : Hid (∀ W, Below wc.heap.size wc W → Calls Try.prog 37 #[.agg #[.int .i64 er1, .bool fo1, .string va1, .slice A1 pr1.length c1], .agg #[.int .i64 er1, .bool fo1, .string va1, .slice A2' pr1.length c2']] W fun e w' => e = .returned (.bool true) ∧ Below W.heap.size W w') := Lib.hid (fun W hW => by
          have := answers_any A1 A2' pr1.length c1 pr1.length c2' (er1, fo1, va1, pr1) (er1, fo1, va1, pr1) W HLP.out ((RO1.out.later hW).rsl pvc_len) ((RO2.out.later hW).rsl pvc_len)
          rw [decide_eq_true rfl] at this
          exact this)
        go_wp2_with fail
        refine (HAN.out _ (Below.refl _ _)).mono ?_
        rintro e w8 ⟨rfl, hb⟩
        replace HBW := Lib.hid (stepB HBW.out hb)
        replace HQ1 := Lib.hid (HQ1.out.later hb)
        replace HQ2 := Lib.hid (HQ2.out.later hb)
        clear hb HAN u0 u1 u2 u3 t0 t1' t2' t3 KA KB RO1 RO2
        go_wp2_with fail
        refine (mq_clock HQ1.out).mono ?_
        rintro e w8' ⟨rfl, rfl⟩
        go_wp2_with fail
        refine (mq_clock HQ2.out).mono ?_
        rintro e w8' ⟨rfl, rfl⟩
        rw [HV.out.clock]
        have dcl : (t1.clock == t1.clock) = true := beq_self_eq_true _
        go_wp2_with fail
        refine (mq_active HQ1.out (by have := HT1.out; have := HN2.out; omega)).mono ?_
        rintro e w9 ⟨rfl, hb⟩
        replace HBW := Lib.hid (stepB HBW.out hb)
        replace HQ1 := Lib.hid (HQ1.out.later hb)
        replace HQ2 := Lib.hid (HQ2.out.later hb)
        clear hb
        go_wp2_with fail
        refine (mq_active HQ2.out (by rw [HV.out.txns]; have := HT1.out; have := HN2.out; omega)).mono ?_
        rintro e w10 ⟨rfl, hb⟩
        replace HBW := Lib.hid (stepB HBW.out hb)
        replace HQ1 := Lib.hid (HQ1.out.later hb)
        replace HQ2 := Lib.hid (HQ2.out.later hb)
        clear hb
        rw [HV.out.txns]
        have HRT : Hid (decide (((sumK retR t2.rows : Nat) : Int) > ((sumK retR t1.rows : Nat) : Int)) = false) := Lib.hid (decide_eq_false (by have := HV.out.ret HQ1.out.ok HQ2.out.ok; omega))
        go_wp2_with fail
        refine (mq_retained HQ2.out).mono ?_
        rintro e w11 ⟨rfl, hb⟩
        replace HBW := Lib.hid (stepB HBW.out hb)
        replace HQ1 := Lib.hid (HQ1.out.later hb)
        replace HQ2 := Lib.hid (HQ2.out.later hb)
        clear hb
        go_wp2_with fail
        refine (mq_retained HQ1.out).mono ?_
        rintro e w12 ⟨rfl, hb⟩
        replace HBW := Lib.hid (stepB HBW.out hb)
        replace HQ1 := Lib.hid (HQ1.out.later hb)
        replace HQ2 := Lib.hid (HQ2.out.later hb)
        clear hb
        have d12 := HRT.out
        have d13 : decide (((sumK retR t1.rows : Nat) : Int) < ((sumK retR t2.rows : Nat) : Int)) = false := HRT.out
        have d14 : decide (sumK retR t1.rows < sumK retR t2.rows) = false := decide_eq_false (by have := of_decide_eq_false HRT.out; omega)
        go_wp2
        refine ⟨⟨k + 1, t1, t2, _, by have := HLT.out; omega, by go_num, HQ1.out, HQ2.out, HV.out, HT1.out, HBW.out⟩, ?_⟩
        have hlt := HLT.out
        simp [intOf]; omega
      · obtain rfl : k = n := by omega
        have d2 : decide ((k : Int) < (k : Int)) = false := decide_eq_false (by omega)
        go_wp2
        go_ret
        exact ⟨rfl, HBW.out⟩
end Go.Proofs.Ytoinjnocopejjaa.modelVacuums
