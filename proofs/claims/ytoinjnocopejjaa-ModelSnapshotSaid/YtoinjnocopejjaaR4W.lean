/- The walk of ModelSnapshot. -/
import Derived.Test.YtoinjnocopejjaaLG
import Derived.Test.YtoinjnocopejjaaWO
import Derived.Test.YtoinjnocopejjaaOC
import Derived.Test.YtoinjnocopejjaaMO2
import Derived.Test.YtoinjnocopejjaaLP
import Derived.Test.YtoinjnocopejjaaLQ
import Derived.StillTailTactics
import Derived.Deep.QuietTactic
import Derived.BigQuiet
namespace Go.Proofs.Ytoinjnocopejjaa.modelSnapshot
open Go.ChangeShapes Go.WideShapes Go.ChangeAt Go.RowKit Go.Maps
set_option linter.unusedVariables false
set_option linter.unusedSimpArgs false
theorem LgAt.new {W : World} {B p : Nat} (h : Blk W p #[.int .i64 0, .slice none 0 0, .slice none 0 0] 61) (hB : B ≤ p) : LgAt W B p lg0 ⟨none, 0, none, 0, []⟩ :=
  ⟨hB, h, ROwn.nil0 _ _ _, ROwn.nil0 _ _ _, rfl, fun i y l h1 => (by simp at h1), List.pairwise_singleton _ _⟩
theorem LgAt.setRow {W : World} {B p q : Nat} {g : Lg} {x : LX} {c c2 : Array Value} {t : TypeId} (h : LgAt W B p g x) (hb : Blk W q c t) (h1 : t ≠ 61) (h2 : t ≠ 73) (h3 : t ≠ 75) : LgAt (W.setRow q c2) B p g x := h.keep (fun k hk => setRow_other' W q k c2 (fun e => by
  subst e
  obtain ⟨_, _, cur, t', h4, h5⟩ := h.tags _ hk
  rw [show W.heap[k]? = some (.cells c t (0, 0)) from hb] at h4
  simp only [Option.some.injEq, Obj.cells.injEq] at h4
  rcases h5 with e | e | e
  · exact h1 (h4.2.1.trans e)
  · exact h2 (h4.2.1.trans e)
  · exact h3 (h4.2.1.trans e)))
theorem KI.new (c : Conf) (ks : List ByteArray) : KI (newM c) ks := fun k h => by cases h
set_option maxRecDepth 100000 in
set_option maxHeartbeats 1600000 in
theorem walk (c : Conf) (A : Option Addr) (n cc : Nat) (L : List Tn) (w : World) (hS : RSl tnE 8 w A n L) (hz : ∀ r ∈ L, TnOk r) : Calls Try.prog 4 #[c.val, .slice A n cc] w fun e w' => e = .returned (.bool true) ∧ Below w.heap.size w w' := by
  have HS : Hid (∀ W, Below w.heap.size w W → RSl tnE 8 W A n L) := Lib.hid (fun W hb => hS.later hb)
  have HZ := Lib.hid hz
  have HLN : Hid (L.length = n) := Lib.hid hS.1
  have HB : Hid (Below w.heap.size w (w.alloc (.cells #[.int .i64 c.ta, .int .i64 c.ac, .int .i64 c.ke, .int .i64 c.de, .int .i64 c.ts, .int .i64 c.kl, .int .i64 c.vl, .int .i64 c.fa] 45))) := Lib.hid ((Below.refl _ _).alloc (Nat.le_refl _) _)
  have KC : Hid (Blk (w.alloc (.cells #[.int .i64 c.ta, .int .i64 c.ac, .int .i64 c.ke, .int .i64 c.de, .int .i64 c.ts, .int .i64 c.kl, .int .i64 c.vl, .int .i64 c.fa] 45)) w.heap.size #[.int .i64 c.ta, .int .i64 c.ac, .int .i64 c.ke, .int .i64 c.de, .int .i64 c.ts, .int .i64 c.kl, .int .i64 c.vl, .int .i64 c.fa] 45) := Lib.hid (Blk.new w _ 45)
  clear hS hz
  show Calls Try.prog 4 _ w _
  unfold Conf.val
  go_enter Try.func4, Try.ntmps4
  go_upto_region 1 with (fail)
  generalize (w.alloc (.cells #[.int .i64 c.ta, .int .i64 c.ac, .int .i64 c.ke, .int .i64 c.de, .int .i64 c.ts, .int .i64 c.kl, .int .i64 c.vl, .int .i64 c.fa] 45)) = w1 at *
  go_wp2_with fail
  refine (works_any _).mono ?_
  rintro e w2 ⟨rfl, hb⟩
  replace HB := Lib.hid (stepB HB.out hb)
  replace KC := Lib.hid (KC.out.later hb)
  clear hb
  go_wp2_with fail
  refine (large_any A n cc L _ (HS.out _ HB.out)).mono ?_
  rintro e w3 ⟨rfl, hb⟩
  replace HB := Lib.hid (stepB HB.out hb)
  replace KC := Lib.hid (KC.out.later hb)
  clear hb
  obtain ⟨b, hlg⟩ : ∃ b, decide (12000 ≤ lgT L) = b := ⟨_, rfl⟩
  rw [hlg]
  cases b with
  | true =>
    go_wp2_with fail
    refine (works_any _).mono ?_
    rintro e w4 ⟨rfl, hb⟩
    replace HB := Lib.hid (stepB HB.out hb)
    replace KC := Lib.hid (KC.out.later hb)
    clear hb
    go_wp2
    go_ret
    exact ⟨rfl, HB.out⟩
  | false =>
    have HLG : Hid (L.length < 200) := Lib.hid (lg_len (by have := of_decide_eq_false hlg; omega))
    clear hlg
    have z0 := KC.out.cell 0
    have z1 := KC.out.cell 1
    have z2 := KC.out.cell 2
    have z3 := KC.out.cell 3
    have z4 := KC.out.cell 4
    have z5 := KC.out.cell 5
    have z6 := KC.out.cell 6
    have z7 := KC.out.cell 7
    simp only [List.getElem?_toArray, List.getElem?_cons_zero, List.getElem?_cons_succ] at z0 z1 z2 z3 z4 z5 z6 z7
    go_wp2_with fail
    refine (new_any c _).mono ?_
    rintro e w4 ⟨hb, hnew⟩
    have HBP := Lib.hid HB.out.size
    replace HB := Lib.hid (stepB HB.out hb)
    replace KC := Lib.hid (KC.out.later hb)
    have hnew2 := hnew.symm
    clear hnew z0 z1 z2 z3 z4 z5 z6 z7
    rcases hnew2 with ⟨hmay, rfl⟩ | ⟨hmay, p1, S1, rfl, hm1⟩
    · clear hb hmay
      go_wp2
      go_ret
      exact ⟨rfl, HB.out⟩
    have HQ1 : Hid (MQ_ w4 w.heap.size (ownT w3 (fun _ => 0) p1) p1 (newM c)) := Lib.hid (MQ_.new hm1 HBP.out)
    have HB4 := Lib.hid HB.out
    have HMAY := Lib.hid hmay
    clear hb hmay hm1 HBP KC HB
    obtain ⟨own, hown⟩ : ∃ o, ownT w3 (fun _ => 0) p1 = o := ⟨_, rfl⟩
    rw [hown] at HQ1
    clear hown
    have hb5 : Below w4.heap.size w4 (w4.alloc (.cells #[.int .i64 0, .slice none 0 0, .slice none 0 0] 61)) := (Below.refl _ _).alloc (Nat.le_refl _) _
    have HQ5 := Lib.hid (HQ1.out.later hb5)
    have HB5 := Lib.hid (stepB HB4.out hb5)
    have HG5 : Hid (LgAt (w4.alloc (.cells #[.int .i64 0, .slice none 0 0, .slice none 0 0] 61)) w.heap.size w4.heap.size lg0 ⟨none, 0, none, 0, []⟩) := Lib.hid (LgAt.new (Blk.new w4 _ 61) HB4.out.size)
    clear hb5 HQ1 HB4
    go_upto_region 7 with (fail)
    generalize w4.alloc (.cells #[.int .i64 0, .slice none 0 0, .slice none 0 0] 61) = w5 at *
    obtain ⟨pg, hpg⟩ : ∃ z, w4.heap.size = z := ⟨_, rfl⟩
    rw [hpg] at HG5 ⊢
    clear hpg
    go_wp2
    go_loopw [8] (fun i W => ∃ (k : Nat) (own : Nat → Nat) (g : Lg) (x : LX), k ≤ n ∧ i = .int .i64 k ∧ MQ_ W w.heap.size own p1 (runM (newM c) (L.take k)) ∧ LgAt W w.heap.size pg g x ∧ LI (runM (newM c) (L.take k)) g ∧ KI (runM (newM c) (L.take k)) (L.map tnK) ∧ SzL g k ∧ Below w.heap.size w W) (fun i _ => n - (intOf i).toNat)
    case atStart => exact ⟨0, own, lg0, _, Nat.zero_le _, rfl, HQ5.out, HG5.out, LI.new c, KI.new c _, SzL.zero, HB5.out⟩
    case round =>
      obtain ⟨k, own, g, x, hk, rfl, hq1, hlg, hli, hki, hsz, hb⟩ := hrel
      have HN2 : Hid (n < 200) := Lib.hid (by rw [← HLN.out]; exact HLG.out)
      clear HQ5 HG5 HB5
      have HQ1 := Lib.hid hq1
      have HG := Lib.hid hlg
      have HI := Lib.hid hli
      have HKI := Lib.hid hki
      have HSZ := Lib.hid hsz
      have HBW := Lib.hid hb
      clear hq1 hb hlg hli hki hsz
      by_cases hlt : k < n
      · have d2 : decide ((k : Int) < (n : Int)) = true := decide_eq_true (by omega)
        have wk : IntKind.i64.wrap ((k : Int) + 1) = (k : Int) + 1 := IntWalk.i64_in _ (by have := HN2.out; omega)
        have wk2 : wrap64 ((k : Int) + 1) = (k : Int) + 1 := by have := HN2.out; unfold wrap64; omega
        obtain ⟨tg, off, rfl, hg, hc⟩ := (HS.out wr HBW.out).2 (by omega)
        have i1 := idx55 tg off n cc k (k : Int) rfl hlt
        have hrk : L[k]? = some (L[k]'(by rw [HLN.out]; exact hlt)) := List.getElem?_eq_getElem _
        have hok := HZ.out _ (List.mem_of_getElem? hrk)
        generalize L[k]'(by rw [HLN.out]; exact hlt) = r at *
        obtain ⟨ta, kn, tx, ke, en, va, li, eg⟩ := r
        have HTK := Lib.hid (runM_take (newM c) L k _ hrk)
        have HRK := Lib.hid hrk
        have HCO := Lib.hid hok.2
        have hcell : ∀ W, Below w.heap.size w W → W.cell? ⟨tg, off + k * 8, none⟩ = some (.int .i64 ta) ∧ W.cell? ⟨tg, off + k * 8 + 1, none⟩ = some (.int .u8 kn) ∧ W.cell? ⟨tg, off + k * 8 + 1 + 1, none⟩ = some (.int .i64 tx) ∧ W.cell? ⟨tg, off + k * 8 + 1 + 2, none⟩ = some (.string ke) ∧ W.cell? ⟨tg, off + k * 8 + 1 + 3, none⟩ = some (.string en) ∧ W.cell? ⟨tg, off + k * 8 + 1 + 4, none⟩ = some (.string va) ∧ W.cell? ⟨tg, off + k * 8 + 1 + 5, none⟩ = some (.int .i64 li) ∧ W.cell? ⟨tg, off + k * 8 + 1 + 6, none⟩ = some (.int .u8 eg) := fun W hW => by
          obtain ⟨g2, off2, e, hg2, hc2⟩ := (HS.out W hW).2 (by omega)
          cases e
          exact ⟨hc2 k _ hrk 0 (by decide), hc2 k _ hrk 1 (by decide), hc2 k _ hrk 2 (by decide), hc2 k _ hrk 3 (by decide), hc2 k _ hrk 4 (by decide), hc2 k _ hrk 5 (by decide), hc2 k _ hrk 6 (by decide), hc2 k _ hrk 7 (by decide)⟩
        have HCE := Lib.hid hcell
        obtain ⟨y0, y1, y2, y3, y4, y5, y6, y7⟩ := hcell wr HBW.out
        clear hc hg hrk hok hcell
        have HT1 : Hid ((runM (newM c) (L.take k)).txns.length ≤ 1000) := Lib.hid (runM_tx c L k (by have := HLG.out; omega))
        obtain ⟨s1, hs1⟩ : ∃ s1, runM (newM c) (L.take k) = s1 := ⟨_, rfl⟩
        obtain ⟨R1, hR1⟩ : ∃ R, doM s1 ta (kn, tx, ke, en, va, li, eg) = R := ⟨_, rfl⟩
        obtain ⟨t1, er1, fo1, va1, pr1⟩ := R1
        have HTK2 : Hid (runM (newM c) (L.take (k + 1)) = t1) := Lib.hid (by rw [HTK.out, hs1]; unfold stp; rw [hR1])
        rw [hs1] at HQ1 HT1 HI HKI
        clear hs1 HTK
        have HC1 : Hid (∀ W own, MQ_ W w.heap.size own p1 s1 → Calls Try.prog 18 #[.pointer (some ⟨p1, 0, none⟩), .int .i64 ta, .agg #[.int .u8 (kn : Int), .int .i64 tx, .string ke, .string en, .string va, .int .i64 li, .int .u8 (eg : Int)]] W (DoE w.heap.size own p1 t1 (er1, fo1, va1, pr1) W)) := Lib.hid (fun W own h => by
          have := mq_do h ta tx li ke en va kn eg (by have := HT1.out; omega) HCO.out
          rw [hR1] at this; exact this)
        obtain ⟨g2, hg2⟩ : ∃ g2, noteL g ((k : Int) + 1) ta (kn, tx, ke, en, va, li, eg) (er1, fo1, va1, pr1) = g2 := ⟨_, rfl⟩
        have HI2 : Hid (LI t1 g2) := Lib.hid (by have := HI.out.do_ HQ1.out.ok ((k : Int) + 1) ta (kn, tx, ke, en, va, li, eg); rw [hR1] at this; rw [← hg2]; exact this)
        have HKE : Hid (ke ∈ L.map tnK) := Lib.hid (List.mem_map.2 ⟨_, List.mem_of_getElem? HRK.out, rfl⟩)
        have HKI2 : Hid (KI t1 (L.map tnK)) := Lib.hid (by have := HKI.out.do_ HQ1.out.ok HI.out ta (kn, tx, ke, en, va, li, eg) HKE.out; rw [hR1] at this; exact this)
        have HS2 : Hid (SzL g2 (k + 1)) := Lib.hid (by rw [← hg2]; exact HSZ.out.note _ _ _ _)
        have HSI : Hid (k < 200) := Lib.hid (by have := HN2.out; omega)
        have HUP : Hid (Up s1.rows) := Lib.hid HQ1.out.ok.up
        have HBD : Hid (g.lives.length ≤ 1000 ∧ (∀ i, (gl g i).ws.length ≤ 1000) ∧ g.facts.length ≤ 100000) := Lib.hid (by
          have hk2 := HSI.out
          have hf := HSZ.out.f
          have hkk : k * k ≤ 200 * 200 := Nat.mul_le_mul (by omega) (by omega)
          exact ⟨by have := HSZ.out.l; omega, fun i => by have := HSZ.out.w i; omega, by omega⟩)
        have HNT : Hid (∀ (W : World) (A1 : Option Addr) (c1 : Nat), LgAt W w.heap.size pg g x → w.heap.size ≤ W.heap.size → Calls Try.prog 36 #[.pointer (some ⟨pg, 0, none⟩), .int .i64 ((k : Int) + 1), .agg #[.int .i64 ta, .int .u8 (kn : Int), .int .i64 tx, .string ke, .string en, .string va, .int .i64 li, .int .u8 (eg : Int)], .agg #[.int .i64 er1, .bool fo1, .string va1, .slice A1 pr1.length c1]] W (NtEnd w.heap.size pg g2 W)) := Lib.hid (fun W A1 c1 h hs => by
          have := note_any w.heap.size pg s1 g x ((k : Int) + 1) ta tx li er1 ke en va va1 kn eg pr1.length c1 fo1 A1 pr1 W h HQ1.out.ok HI.out hs HBD.out.1 HBD.out.2.1 HBD.out.2.2
          rw [hg2] at this
          exact this)
        obtain ⟨ix, hix⟩ : ∃ ix, findL g ta tx = ix := ⟨_, rfl⟩
        have HTO : Hid (er1 = 0 → ∀ i : Nat, ix = (i : Int) → i < g.lives.length ∧ (kn = 2 → fo1 = (!(readL g i ke).tomb) ∧ (fo1 = true → va1 = (readL g i ke).val)) ∧ (kn = 4 → fo1 = !(readL g i ke).tomb) ∧ (kn = 5 → (0 ≤ li ∧ li ≤ 128) ∧ pr1 = (scanF s1 ((i : Int) + 1) ke en s1.rows).take li.toNat ∧ SMem (readL g i) ke en (L.map tnK) (scanF s1 ((i : Int) + 1) ke en s1.rows))) := Lib.hid (fun e i e2 => by
          rw [e] at hR1
          exact HI.out.told HQ1.out.ok HKI.out (hix.trans e2) hR1)
        have HFD : Hid (∀ W, LgAt W w.heap.size pg g x → Calls Try.prog 33 #[.pointer (some ⟨pg, 0, none⟩), .int .i64 ta, .int .i64 tx] W fun e w' => e = .returned (.int .i64 ix) ∧ W = w') := Lib.hid (fun W h => by
          have := find_any w.heap.size pg g x ta tx W h HBD.out.1
          rw [hix] at this; exact this)
        have HLT := Lib.hid hlt
        clear hR1 hg2 hix hlt hk HI HKI HRK HSZ
        have hbt : Below wr.heap.size wr (wr.alloc (.cells #[.int .i64 ta, .int .u8 (kn : Int), .int .i64 tx, .string ke, .string en, .string va, .int .i64 li, .int .u8 (eg : Int)] 63)) := (Below.refl _ _).alloc (Nat.le_refl _) _
        have KT : Hid (Blk (wr.alloc (.cells #[.int .i64 ta, .int .u8 (kn : Int), .int .i64 tx, .string ke, .string en, .string va, .int .i64 li, .int .u8 (eg : Int)] 63)) wr.heap.size #[.int .i64 ta, .int .u8 (kn : Int), .int .i64 tx, .string ke, .string en, .string va, .int .i64 li, .int .u8 (eg : Int)] 63) := Lib.hid (Blk.new wr _ 63)
        have HPT : Hid (w.heap.size ≤ wr.heap.size) := Lib.hid HBW.out.size
        replace HQ1 := Lib.hid (HQ1.out.later hbt)
        replace HG := Lib.hid (HG.out.later hbt)
        replace HBW := Lib.hid (stepB HBW.out hbt)
        clear hbt
        go_upto_region 11 with (fail)
        clear y0 y1 y2 y3 y4 y5 y6 y7
        generalize wr.alloc (.cells #[.int .i64 ta, .int .u8 (kn : Int), .int .i64 tx, .string ke, .string en, .string va, .int .i64 li, .int .u8 (eg : Int)] 63) = w7 at *
        obtain ⟨pt, hpt⟩ : ∃ z, wr.heap.size = z := ⟨_, rfl⟩
        rw [hpt] at KT HPT ⊢
        clear hpt
        have t0 := KT.out.cell 0
        have t2 := KT.out.cell 2
        simp only [List.getElem?_toArray, List.getElem?_cons_zero, List.getElem?_cons_succ] at t0 t2
        go_wp2_with fail
        refine (HFD.out _ HG.out).mono ?_
        rintro e w8 ⟨rfl, rfl⟩
        clear t0 t2 HFD
        have t0 := KT.out.cell 0
        have t1 := KT.out.cell 1
        have t2 := KT.out.cell 2
        have t3 := KT.out.cell 3
        have t4 := KT.out.cell 4
        have t5 := KT.out.cell 5
        have t6 := KT.out.cell 6
        have t7 := KT.out.cell 7
        simp only [List.getElem?_toArray, List.getElem?_cons_zero, List.getElem?_cons_succ] at t0 t1 t2 t3 t4 t5 t6 t7
        go_wp2_with fail
        refine (HC1.out _ _ HQ1.out).mono ?_
        rintro e We ⟨A1, c1, rfl, hro, hm, hoth, hkp, hbl⟩
        replace HG := Lib.hid (HG.out.kp hkp)
        replace KT := Lib.hid (hkp.blk _ _ _ KT.out (by decide) (by decide) (by decide) (by decide))
        have RO1 := Lib.hid (hro.base HBW.out.size)
        replace HQ1 := Lib.hid hm
        replace HBW := Lib.hid (hbl _ _ HBW.out (Nat.le_refl _))
        clear hro hm hoth hkp hbl HC1 t0 t1 t2 t3 t4 t5 t6 t7
        have hb : Below We.heap.size We (We.alloc (.cells #[.int .i64 er1, .bool fo1, .string va1, .slice A1 pr1.length c1] 33)) := (Below.refl _ _).alloc (Nat.le_refl _) _
        have KA : Hid (Blk (We.alloc (.cells #[.int .i64 er1, .bool fo1, .string va1, .slice A1 pr1.length c1] 33)) We.heap.size #[.int .i64 er1, .bool fo1, .string va1, .slice A1 pr1.length c1] 33) := Lib.hid (Blk.new We _ 33)
        replace HG := Lib.hid (HG.out.later hb)
        replace KT := Lib.hid (KT.out.later hb)
        replace RO1 := Lib.hid (RO1.out.later hb)
        replace HQ1 := Lib.hid (HQ1.out.later hb)
        replace HBW := Lib.hid (stepB HBW.out hb)
        clear hb
        go_upto_region 13 with (fail)
        generalize We.alloc (.cells #[.int .i64 er1, .bool fo1, .string va1, .slice A1 pr1.length c1] 33) = wa at *
        obtain ⟨pa, hpa⟩ : ∃ z, We.heap.size = z := ⟨_, rfl⟩
        rw [hpa] at KA ⊢
        clear hpa
        go_cut [59] (fun s59 W => ∃ bl : Bool, s59 = .bool bl ∧ (bl = true → 0 ≤ ix ∧ er1 = 0) ∧ wa = W)
        case first =>
          have u0 := KA.out.cell 0
          simp only [List.getElem?_toArray, List.getElem?_cons_zero, List.getElem?_cons_succ] at u0
          by_cases e1 : ix ≥ 0
          · have g1 : decide (ix ≥ 0) = true := decide_eq_true e1
            have g1' : decide (0 ≤ ix) = true := decide_eq_true e1
            by_cases e2 : er1 = 0
            · have g2 : (er1 == 0) = true := by rw [e2]; rfl
              have HE := Lib.hid (And.intro e1 e2)
              clear e1 e2
              go_wp2
              go_meet
              exact ⟨true, rfl, fun _ => HE.out, rfl⟩
            · have g2 : (er1 == 0) = false := by rw [beq_eq_false_iff_ne]; exact e2
              clear e1 e2
              go_wp2
              go_meet
              exact ⟨false, rfl, fun h => (by cases h), rfl⟩
          · have g1 : decide (ix ≥ 0) = false := decide_eq_false e1
            have g1' : decide (0 ≤ ix) = false := decide_eq_false e1
            clear e1
            go_wp2
            go_meet
            exact ⟨false, rfl, fun h => (by cases h), rfl⟩
        case rest =>
        obtain ⟨bl, rfl, hbl, rfl⟩ := hcut
        have HBL := Lib.hid hbl
        clear hbl
        go_upto_if 59 with (fail)
        go_cut [9] (fun s9 W => s9 = .pointer (some ⟨pt, 0, none⟩) ∧ Below wa.heap.size wa W)
        case first =>
          cases bl with
          | false =>
            go_wp2
            go_meet
            exact ⟨rfl, Below.refl _ _⟩
          | true =>
            obtain ⟨e1, e2⟩ := HBL.out rfl
            subst e2
            obtain ⟨i, rfl⟩ : ∃ i : Nat, ix = (i : Int) := ⟨ix.toNat, by omega⟩
            obtain ⟨hil, h2, h4, h5⟩ := HTO.out rfl i rfl
            have H5 := Lib.hid h5
            clear e1 h5 HTO HBL
            have t3 := KT.out.cell 3
            simp only [List.getElem?_toArray, List.getElem?_cons_zero, List.getElem?_cons_succ] at t3
            have HRD := Lib.hid (reads_any w.heap.size pg g x i ke _ HG.out hil (HBD.out.2.1 i) HBD.out.2.2)
            have HIL := Lib.hid hil
            clear hil
            go_wp2_with fail
            refine HRD.out.mono ?_
            rintro e wq ⟨rfl, hb⟩
            clear t3 HRD
            have KA2 := Lib.hid (KA.out.later hb)
            have KT2 := Lib.hid (KT.out.later hb)
            have HG2 := Lib.hid (HG.out.later hb)
            have RO2 := Lib.hid (RO1.out.later hb)
            have HBQ := Lib.hid hb
            clear hb
            obtain ⟨fx, hfx⟩ : ∃ fx, readL g i ke = fx := ⟨_, rfl⟩
            rw [hfx] at h2 h4 ⊢
            clear hfx
            obtain ⟨fd, hfd⟩ : ∃ fd, (!fx.tomb) = fd := ⟨_, rfl⟩
            rw [hfd] at h2 h4 ⊢
            clear hfd
            obtain ⟨fv, hfv⟩ : ∃ fv, fx.val = fv := ⟨_, rfl⟩
            rw [hfv] at h2 ⊢
            clear hfv
            go_upto_region 15 with (fail)
            go_cut [99] (fun s99 W => s99 = .bool false ∧ Below wq.heap.size wq W)
            case first =>
              have t1 := KT2.out.cell 1
              have u1 := KA2.out.cell 1
              have u2 := KA2.out.cell 2
              simp only [List.getElem?_toArray, List.getElem?_cons_zero, List.getElem?_cons_succ] at t1 u1 u2
              by_cases ek : kn = 2
              · obtain ⟨h2a, h2b⟩ := h2 ek
                subst ek
                subst h2a
                clear h2 h4
                cases fo1 with
                | false =>
                  clear h2b
                  go_wp2
                  go_meet
                  exact ⟨rfl, Below.refl _ _⟩
                | true =>
                  have hv := h2b rfl
                  have e9 := tl_eq hv
                  clear h2b hv
                  go_wp2
                  go_meet
                  exact ⟨rfl, Below.refl _ _⟩
              · have g2 : ((kn : Int) == 2) = false := by rw [beq_eq_false_iff_ne]; omega
                by_cases ek4 : kn = 4
                · have h4a := h4 ek4
                  subst ek4
                  subst h4a
                  clear h2 h4 ek g2
                  cases fo1 with
                  | true =>
                    go_wp2
                    go_meet
                    exact ⟨rfl, Below.refl _ _⟩
                  | false =>
                    go_wp2
                    go_meet
                    exact ⟨rfl, Below.refl _ _⟩
                · have g4 : ((kn : Int) == 4) = false := by rw [beq_eq_false_iff_ne]; omega
                  clear ek ek4 h2 h4
                  go_wp2
                  go_meet
                  exact ⟨rfl, Below.refl _ _⟩
            case rest =>
            obtain ⟨rfl, hb⟩ := hcut
            replace KA2 := Lib.hid (KA2.out.later hb)
            replace KT2 := Lib.hid (KT2.out.later hb)
            replace HG2 := Lib.hid (HG2.out.later hb)
            replace RO2 := Lib.hid (RO2.out.later hb)
            replace HBQ := Lib.hid (stepB HBQ.out hb)
            clear hb h2 h4
            obtain ⟨we, hwe⟩ : ∃ we : World, wc = we := ⟨_, rfl⟩
            rw [hwe] at KA2 KT2 HG2 RO2 HBQ ⊢
            clear hwe
            go_upto_region 17 with (fail)
            go_cut [114] (fun s114 W => s114 = .bool false ∧ Below we.heap.size we W)
            case first =>
              by_cases ek : kn = 5
              · obtain ⟨hli, hpr, hsm⟩ := H5.out ek
                have HSC := Lib.hid (scans_any w.heap.size pg g x i kn eg pr1.length c1 n cc tx li ke en va A1 _ pr1 (scanF s1 ((i : Int) + 1) ke en s1.rows) L _ HG2.out HIL.out (HBD.out.2.1 i) HBD.out.2.2 (RO2.out.rsl pvc_len) (HS.out _ (stepB HBW.out HBQ.out)) HZ.out (by have := HN2.out; omega) HCO.out.2.2.2.2.1 HCO.out.2.2.2.2.2.1 (by omega) (up_scanF HUP.out) hsm hpr)
                clear hli hpr hsm H5
                have ek5 : ((kn : Int) == 5) = true := by rw [ek]; rfl
                clear ek
                have u3 := KA2.out.cell 3
                have t1 := KT2.out.cell 1
                have t2 := KT2.out.cell 2
                have t3 := KT2.out.cell 3
                have t4 := KT2.out.cell 4
                have t5 := KT2.out.cell 5
                have t6 := KT2.out.cell 6
                have t7 := KT2.out.cell 7
                simp only [List.getElem?_toArray, List.getElem?_cons_zero, List.getElem?_cons_succ] at u3 t1 t2 t3 t4 t5 t6 t7
                go_wp2_with fail
                refine HSC.out.mono ?_
                rintro e wf ⟨rfl, hb⟩
                have HBF := Lib.hid hb
                clear hb
                go_wp2
                go_meet
                exact ⟨rfl, HBF.out⟩
              · have g5 : ((kn : Int) == 5) = false := by rw [beq_eq_false_iff_ne]; omega
                have t1 := KT2.out.cell 1
                simp only [List.getElem?_toArray, List.getElem?_cons_zero, List.getElem?_cons_succ] at t1
                clear ek
                go_wp2
                go_meet
                exact ⟨rfl, Below.refl _ _⟩
            case rest =>
            obtain ⟨rfl, hb⟩ := hcut
            have HBE := Lib.hid (stepB HBQ.out hb)
            clear hb
            go_wp2
            go_meet
            exact ⟨rfl, HBE.out⟩
        case rest =>
        obtain ⟨rfl, hb⟩ := hcut
        replace KA := Lib.hid (KA.out.later hb)
        replace KT := Lib.hid (KT.out.later hb)
        replace HG := Lib.hid (HG.out.later hb)
        replace RO1 := Lib.hid (RO1.out.later hb)
        replace HQ1 := Lib.hid (HQ1.out.later hb)
        replace HBW := Lib.hid (stepB HBW.out hb)
        clear hb HBL HTO
        have t0 := KT.out.cell 0
        have t1 := KT.out.cell 1
        have t2 := KT.out.cell 2
        have t3 := KT.out.cell 3
        have t4 := KT.out.cell 4
        have t5 := KT.out.cell 5
        have t6 := KT.out.cell 6
        have t7 := KT.out.cell 7
        simp only [List.getElem?_toArray, List.getElem?_cons_zero, List.getElem?_cons_succ] at t0 t1 t2 t3 t4 t5 t6 t7
        have u0 := KA.out.cell 0
        have u1 := KA.out.cell 1
        have u2 := KA.out.cell 2
        have u3 := KA.out.cell 3
        simp only [List.getElem?_toArray, List.getElem?_cons_zero, List.getElem?_cons_succ] at u0 u1 u2 u3
        go_wp2_with fail
        refine (HNT.out _ A1 c1 HG.out HBW.out.size).mono ?_
        rintro e Wf ⟨rfl, x', hlg, hlk⟩
        have HG3 := Lib.hid hlg
        have HQ3 := Lib.hid (HQ1.out.lgk hlk)
        replace HBW := Lib.hid (hlk.lift HBW.out (Nat.le_refl _) HBW.out.size)
        clear hlg hlk HNT HQ1 HG t0 t1 t2 t3 t4 t5 t6 t7 u0 u1 u2 u3 KA KT RO1
        have HCK := Lib.hid (fun W h => mq_clock (HQ3.out.later (W' := W) h))
        have HGT : Hid (∀ W, Below Wf.heap.size Wf W → W.cell? ⟨pg, 0, none⟩ = some (.int .i64 t1.clock)) := Lib.hid (fun W h => by
          have := (HG3.out.later h).c0.1
          rw [HI2.out.time] at this; exact this)
        go_upto_region 20 with (fail)
        refine wp_region_noPanic ?_
        obtain ⟨W0, rfl⟩ : ∃ W0 : World, W0 = Wf := ⟨_, rfl⟩
        refine wp_region_held_drew (S := fun W => Below W0.heap.size W0 W) (by kernel_rfl) (Below.drew (Below.refl _ _)) (fun hHeld => ?_)
        have HBD2 : Hid (Below W0.heap.size W0 (World.drew W0)) := Lib.hid (Below.drew (Below.refl _ _))
        generalize World.drew W0 = Wd at *
        refine wpAnyH_take (i := 0) (oi := { dst := some 121, op := Op.move (Operand.tmp 5), type := 22, pos := "outright.go:225", after := #[], guard := none }) (v := ?_) rfl (by kernel_rfl) (by kernel_rfl) (by kernel_rfl) (fun _ _ _ h => h) (Or.inl ⟨by rfl, ?_⟩) (by assumption) ?_
        rotate_left
        · intro W hSw
          clear hSw
          go_simp
          try with_reducible rfl
        simp only [Act.put, List.setIfInBounds_toArray, List.set_cons_zero, List.set_cons_succ]
        refine wpAnyH_take (i := 2) (oi := { dst := some 123, op := Op.move (Operand.tmp 7), type := 57, pos := "outright.go:225", after := #[], guard := none }) (v := ?_) rfl (by kernel_rfl) (by kernel_rfl) (by kernel_rfl) (fun _ _ _ h => h) (Or.inl ⟨by rfl, ?_⟩) (by assumption) ?_
        rotate_left
        · intro W hSw
          clear hSw
          go_simp
          try with_reducible rfl
        simp only [Act.put, List.setIfInBounds_toArray, List.set_cons_zero, List.set_cons_succ]
        refine wpAnyH_take (i := 3) (oi := { dst := some 124, op := Op.nilCheck (Operand.tmp 123), type := 0, pos := "outright.go:225", after := #[{ on := 2, ground := Ground.data }], guard := none }) (v := ?_) rfl (by kernel_rfl) (by kernel_rfl) (by kernel_rfl) (fun _ _ _ h => h) (Or.inl ⟨by rfl, ?_⟩) (by assumption) ?_
        rotate_left
        · intro W hSw
          clear hSw
          go_simp
          try with_reducible rfl
        simp only [Act.put, List.setIfInBounds_toArray, List.set_cons_zero, List.set_cons_succ]
        refine wpAnyH_take (i := 4) (oi := { dst := some 125, op := Op.fieldAddr 61 (Operand.tmp 124) 0, type := 0, pos := "outright.go:225", after := #[{ on := 3, ground := Ground.data }], guard := none }) (v := ?_) rfl (by kernel_rfl) (by kernel_rfl) (by kernel_rfl) (fun _ _ _ h => h) (Or.inl ⟨by rfl, ?_⟩) (by assumption) ?_
        rotate_left
        · intro W hSw
          clear hSw
          go_simp
          try with_reducible rfl
        simp only [Act.put, List.setIfInBounds_toArray, List.set_cons_zero, List.set_cons_succ]
        refine wpAnyH_take (i := 5) (oi := { dst := some 126, op := Op.load 3 (Operand.tmp 125), type := 3, pos := "outright.go:225", after := #[{ on := 4, ground := Ground.data }], guard := none }) (v := ?_) rfl (by kernel_rfl) (by kernel_rfl) (by kernel_rfl) (fun _ _ _ h => h) (Or.inl ⟨by rfl, ?_⟩) (by assumption) ?_
        rotate_left
        · intro W hSw
          have c0 := HGT.out _ hSw
          clear hSw
          go_simp
          try with_reducible rfl
        simp only [Act.put, List.setIfInBounds_toArray, List.set_cons_zero, List.set_cons_succ]
        refine wpAnyH_ready (rs := [1]) (by kernel_rfl) (by simp) (AllReadyH.cons (o := { dst := some 122, op := Op.call { callee := Callee.value (Operand.func 24), args := #[Operand.tmp 121], argTypes := #[22] }, type := 3, pos := "outright.go:225", after := #[{ on := 0, ground := Ground.data }], guard := none }) rfl (fun K hK => ?_) AllReadyH.nil)
        have HCL := Lib.hid (HCK.out Wd HBD2.out)
        go_simp
        refine HCL.out.mono ?_
        rintro e We2 ⟨rfl, rfl⟩
        clear hHeld HCL
        refine hK.out _ _ (HBD2.out) (fun hHeld => ?_)
        clear hK K
        refine wpAnyH_take (i := 6) (oi := { dst := some 127, op := Op.binOp BinOp.neq 3 (Operand.tmp 122) (Operand.tmp 126) 3, type := 4, pos := "outright.go:225", after := #[{ on := 1, ground := Ground.data }, { on := 5, ground := Ground.data }], guard := none }) (v := ?_) rfl (by kernel_rfl) (by kernel_rfl) (by kernel_rfl) (fun _ _ _ h => h) (Or.inl ⟨by rfl, ?_⟩) (by assumption) ?_
        rotate_left
        · intro W hSw
          clear hSw
          go_simp
          try with_reducible rfl
        simp only [Act.put, List.setIfInBounds_toArray, List.set_cons_zero, List.set_cons_succ]
        refine wpAnyH_done (by kernel_rfl) (NoPanic.normal ?_) _
        clear hHeld
        have hlt := HLT.out
        have dne : (t1.clock != t1.clock) = false := by simp
        go_wp2
        exact ⟨⟨k + 1, _, g2, x', by omega, by go_num, by rw [HTK2.out]; exact HQ3.out.later HBD2.out, HG3.out.later HBD2.out, by rw [HTK2.out]; exact HI2.out, by rw [HTK2.out]; exact HKI2.out, HS2.out, stepB HBW.out HBD2.out⟩, by simp [intOf]; omega⟩
      · obtain rfl : n = k := by omega
        have d2 : decide ((n : Int) < (n : Int)) = false := decide_eq_false (by omega)
        clear hlt hk
        go_wp2
        go_ret
        exact ⟨rfl, HBW.out⟩
end Go.Proofs.Ytoinjnocopejjaa.modelSnapshot
