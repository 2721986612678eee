/- The walk of ModelFirst. -/
import Derived.Test.YtoinjnocopejjaaLG
import Derived.Test.YtoinjnocopejjaaWO
import Derived.Test.YtoinjnocopejjaaOC
import Derived.Test.YtoinjnocopejjaaMO2
import Derived.Test.YtoinjnocopejjaaLP
import Derived.StillTailTactics
import Derived.Deep.QuietTactic
import Derived.BigQuiet
namespace Go.Proofs.Ytoinjnocopejjaa.modelFirst
open Go.ChangeShapes Go.WideShapes Go.ChangeAt Go.RowKit Go.Maps
set_option linter.unusedVariables false
set_option linter.unusedSimpArgs false
theorem LgAt.new {W : World} {B p : Nat} (h : Blk W p #[.int .i64 0, .slice none 0 0, .slice none 0 0] 61) (hB : B ≤ p) : LgAt W B p lg0 ⟨none, 0, none, 0, []⟩ :=
  ⟨hB, h, ROwn.nil0 _ _ _, ROwn.nil0 _ _ _, rfl, fun i y l h1 => (by simp at h1), List.pairwise_singleton _ _⟩
set_option maxRecDepth 100000 in
set_option maxHeartbeats 1600000 in
theorem walk (c : Conf) (A : Option Addr) (n cc : Nat) (L : List Tn) (w : World) (hS : RSl tnE 8 w A n L) (hz : ∀ r ∈ L, TnOk r) : Calls Try.prog 6 #[c.val, .slice A n cc] w fun e w' => e = .returned (.bool true) ∧ Below w.heap.size w w' := by
  have HS : Hid (∀ W, Below w.heap.size w W → RSl tnE 8 W A n L) := Lib.hid (fun W hb => hS.later hb)
  have HZ := Lib.hid hz
  have HLN : Hid (L.length = n) := Lib.hid hS.1
  have HB : Hid (Below w.heap.size w (w.alloc (.cells #[.int .i64 c.ta, .int .i64 c.ac, .int .i64 c.ke, .int .i64 c.de, .int .i64 c.ts, .int .i64 c.kl, .int .i64 c.vl, .int .i64 c.fa] 45))) := Lib.hid ((Below.refl _ _).alloc (Nat.le_refl _) _)
  have KC : Hid (Blk (w.alloc (.cells #[.int .i64 c.ta, .int .i64 c.ac, .int .i64 c.ke, .int .i64 c.de, .int .i64 c.ts, .int .i64 c.kl, .int .i64 c.vl, .int .i64 c.fa] 45)) w.heap.size #[.int .i64 c.ta, .int .i64 c.ac, .int .i64 c.ke, .int .i64 c.de, .int .i64 c.ts, .int .i64 c.kl, .int .i64 c.vl, .int .i64 c.fa] 45) := Lib.hid (Blk.new w _ 45)
  clear hS hz
  show Calls Try.prog 6 _ w _
  unfold Conf.val
  go_enter Try.func6, Try.ntmps6
  go_upto_region 1 with (fail)
  generalize (w.alloc (.cells #[.int .i64 c.ta, .int .i64 c.ac, .int .i64 c.ke, .int .i64 c.de, .int .i64 c.ts, .int .i64 c.kl, .int .i64 c.vl, .int .i64 c.fa] 45)) = w1 at *
  go_wp2_with fail
  refine (works_any _).mono ?_
  rintro e w2 ⟨rfl, hb⟩
  replace HB := Lib.hid (stepB HB.out hb)
  replace KC := Lib.hid (KC.out.later hb)
  clear hb
  go_wp2_with fail
  refine (large_any A n cc L _ (HS.out _ HB.out)).mono ?_
  rintro e w3 ⟨rfl, hb⟩
  replace HB := Lib.hid (stepB HB.out hb)
  replace KC := Lib.hid (KC.out.later hb)
  clear hb
  obtain ⟨b, hlg⟩ : ∃ b, decide (12000 ≤ lgT L) = b := ⟨_, rfl⟩
  rw [hlg]
  cases b with
  | true =>
    go_wp2_with fail
    refine (works_any _).mono ?_
    rintro e w4 ⟨rfl, hb⟩
    replace HB := Lib.hid (stepB HB.out hb)
    replace KC := Lib.hid (KC.out.later hb)
    clear hb
    go_wp2
    go_ret
    exact ⟨rfl, HB.out⟩
  | false =>
    have HLG : Hid (L.length < 200) := Lib.hid (lg_len (by have := of_decide_eq_false hlg; omega))
    clear hlg
    have z0 := KC.out.cell 0
    have z1 := KC.out.cell 1
    have z2 := KC.out.cell 2
    have z3 := KC.out.cell 3
    have z4 := KC.out.cell 4
    have z5 := KC.out.cell 5
    have z6 := KC.out.cell 6
    have z7 := KC.out.cell 7
    simp only [List.getElem?_toArray, List.getElem?_cons_zero, List.getElem?_cons_succ] at z0 z1 z2 z3 z4 z5 z6 z7
    go_wp2_with fail
    refine (new_any c _).mono ?_
    rintro e w4 ⟨hb, hnew⟩
    have HBP := Lib.hid HB.out.size
    replace HB := Lib.hid (stepB HB.out hb)
    replace KC := Lib.hid (KC.out.later hb)
    have hnew2 := hnew.symm
    clear hnew z0 z1 z2 z3 z4 z5 z6 z7
    rcases hnew2 with ⟨hmay, rfl⟩ | ⟨hmay, p1, S1, rfl, hm1⟩
    · clear hb hmay
      go_wp2
      go_ret
      exact ⟨rfl, HB.out⟩
    have HQ1 : Hid (MQ_ w4 w.heap.size (ownT w3 (fun _ => 0) p1) p1 (newM c)) := Lib.hid (MQ_.new hm1 HBP.out)
    have HB4 := Lib.hid HB.out
    have HMAY := Lib.hid hmay
    clear hb hmay hm1 HBP KC HB
    obtain ⟨own, hown⟩ : ∃ o, ownT w3 (fun _ => 0) p1 = o := ⟨_, rfl⟩
    rw [hown] at HQ1
    clear hown
    have hb5 : Below w4.heap.size w4 (w4.alloc (.cells #[.int .i64 0, .slice none 0 0, .slice none 0 0] 61)) := (Below.refl _ _).alloc (Nat.le_refl _) _
    have HQ5 := Lib.hid (HQ1.out.later hb5)
    have HB5 := Lib.hid (stepB HB4.out hb5)
    have HG5 : Hid (LgAt (w4.alloc (.cells #[.int .i64 0, .slice none 0 0, .slice none 0 0] 61)) w.heap.size w4.heap.size lg0 ⟨none, 0, none, 0, []⟩) := Lib.hid (LgAt.new (Blk.new w4 _ 61) HB4.out.size)
    clear hb5 HQ1 HB4
    go_upto_region 7 with (fail)
    generalize w4.alloc (.cells #[.int .i64 0, .slice none 0 0, .slice none 0 0] 61) = w5 at *
    obtain ⟨pg, hpg⟩ : ∃ z, w4.heap.size = z := ⟨_, rfl⟩
    rw [hpg] at HG5 ⊢
    clear hpg
    go_wp2
    go_loopw [8] (fun i W => ∃ (k : Nat) (own : Nat → Nat) (g : Lg) (x : LX), k ≤ n ∧ i = .int .i64 k ∧ MQ_ W w.heap.size own p1 (runM (newM c) (L.take k)) ∧ LgAt W w.heap.size pg g x ∧ LI (runM (newM c) (L.take k)) g ∧ FI (runM (newM c) (L.take k)) g k ∧ SzL g k ∧ Below w.heap.size w W) (fun i _ => n - (intOf i).toNat)
    case atStart => exact ⟨0, own, lg0, _, Nat.zero_le _, rfl, HQ5.out, HG5.out, LI.new c, FI.new c _, SzL.zero, HB5.out⟩
    case round =>
      obtain ⟨k, own, g, x, hk, rfl, hq1, hlg, hli, hfi, hsz, hb⟩ := hrel
      have HN2 : Hid (n < 200) := Lib.hid (by rw [← HLN.out]; exact HLG.out)
      clear HQ5 HG5 HB5
      have HQ1 := Lib.hid hq1
      have HG := Lib.hid hlg
      have HI := Lib.hid hli
      have HF := Lib.hid hfi
      have HSZ := Lib.hid hsz
      have HBW := Lib.hid hb
      clear hq1 hb hlg hli hfi hsz
      by_cases hlt : k < n
      · have d2 : decide ((k : Int) < (n : Int)) = true := decide_eq_true (by omega)
        have wk : IntKind.i64.wrap ((k : Int) + 1) = (k : Int) + 1 := IntWalk.i64_in _ (by have := HN2.out; omega)
        have wk2 : wrap64 ((k : Int) + 1) = (k : Int) + 1 := by have := HN2.out; unfold wrap64; omega
        obtain ⟨tg, off, rfl, hg, hc⟩ := (HS.out wr HBW.out).2 (by omega)
        have i1 := idx55 tg off n cc k (k : Int) rfl hlt
        have hrk : L[k]? = some (L[k]'(by rw [HLN.out]; exact hlt)) := List.getElem?_eq_getElem _
        have hok := HZ.out _ (List.mem_of_getElem? hrk)
        generalize L[k]'(by rw [HLN.out]; exact hlt) = r at *
        obtain ⟨ta, kn, tx, ke, en, va, li, eg⟩ := r
        have HTK := Lib.hid (runM_take (newM c) L k _ hrk)
        have HRK := Lib.hid hrk
        have HCO := Lib.hid hok.2
        have hcell : ∀ W, Below w.heap.size w W → W.cell? ⟨tg, off + k * 8, none⟩ = some (.int .i64 ta) ∧ W.cell? ⟨tg, off + k * 8 + 1, none⟩ = some (.int .u8 kn) ∧ W.cell? ⟨tg, off + k * 8 + 1 + 1, none⟩ = some (.int .i64 tx) ∧ W.cell? ⟨tg, off + k * 8 + 1 + 2, none⟩ = some (.string ke) ∧ W.cell? ⟨tg, off + k * 8 + 1 + 3, none⟩ = some (.string en) ∧ W.cell? ⟨tg, off + k * 8 + 1 + 4, none⟩ = some (.string va) ∧ W.cell? ⟨tg, off + k * 8 + 1 + 5, none⟩ = some (.int .i64 li) ∧ W.cell? ⟨tg, off + k * 8 + 1 + 6, none⟩ = some (.int .u8 eg) := fun W hW => by
          obtain ⟨g2, off2, e, hg2, hc2⟩ := (HS.out W hW).2 (by omega)
          cases e
          exact ⟨hc2 k _ hrk 0 (by decide), hc2 k _ hrk 1 (by decide), hc2 k _ hrk 2 (by decide), hc2 k _ hrk 3 (by decide), hc2 k _ hrk 4 (by decide), hc2 k _ hrk 5 (by decide), hc2 k _ hrk 6 (by decide), hc2 k _ hrk 7 (by decide)⟩
        have HCE := Lib.hid hcell
        obtain ⟨y0, y1, y2, y3, y4, y5, y6, y7⟩ := hcell wr HBW.out
        clear hc hg hrk hok hcell
        have HT1 : Hid ((runM (newM c) (L.take k)).txns.length ≤ 1000) := Lib.hid (runM_tx c L k (by have := HLG.out; omega))
        obtain ⟨s1, hs1⟩ : ∃ s1, runM (newM c) (L.take k) = s1 := ⟨_, rfl⟩
        obtain ⟨R1, hR1⟩ : ∃ R, doM s1 ta (kn, tx, ke, en, va, li, eg) = R := ⟨_, rfl⟩
        obtain ⟨t1, er1, fo1, va1, pr1⟩ := R1
        have HTK2 : Hid (runM (newM c) (L.take (k + 1)) = t1) := Lib.hid (by rw [HTK.out, hs1]; unfold stp; rw [hR1])
        rw [hs1] at HQ1 HT1 HI HF
        clear hs1 HTK
        have HC1 : Hid (∀ W own, MQ_ W w.heap.size own p1 s1 → Calls Try.prog 18 #[.pointer (some ⟨p1, 0, none⟩), .int .i64 ta, .agg #[.int .u8 (kn : Int), .int .i64 tx, .string ke, .string en, .string va, .int .i64 li, .int .u8 (eg : Int)]] W (DoE w.heap.size own p1 t1 (er1, fo1, va1, pr1) W)) := Lib.hid (fun W own h => by
          have := mq_do h ta tx li ke en va kn eg (by have := HT1.out; omega) HCO.out
          rw [hR1] at this; exact this)
        obtain ⟨g2, hg2⟩ : ∃ g2, noteL g ((k : Int) + 1) ta (kn, tx, ke, en, va, li, eg) (er1, fo1, va1, pr1) = g2 := ⟨_, rfl⟩
        have HI2 : Hid (LI t1 g2) := Lib.hid (by have := HI.out.do_ HQ1.out.ok ((k : Int) + 1) ta (kn, tx, ke, en, va, li, eg); rw [hR1] at this; rw [← hg2]; exact this)
        have HF2 : Hid (FI t1 g2 ((k + 1 : Nat) : Int)) := Lib.hid (by have := HF.out.do_ HQ1.out.ok HI.out (at_ := (k : Int) + 1) (by omega) (by omega) ta (kn, tx, ke, en, va, li, eg); rw [hR1] at this; rw [← hg2]; exact this)
        have HS2 : Hid (SzL g2 (k + 1)) := Lib.hid (by rw [← hg2]; exact HSZ.out.note _ _ _ _)
        have HSI : Hid (k < 200) := Lib.hid (by have := HN2.out; omega)
        have HNT : Hid (∀ (W : World) (A1 : Option Addr) (c1 : Nat), LgAt W w.heap.size pg g x → w.heap.size ≤ W.heap.size → Calls Try.prog 36 #[.pointer (some ⟨pg, 0, none⟩), .int .i64 ((k : Int) + 1), .agg #[.int .i64 ta, .int .u8 (kn : Int), .int .i64 tx, .string ke, .string en, .string va, .int .i64 li, .int .u8 (eg : Int)], .agg #[.int .i64 er1, .bool fo1, .string va1, .slice A1 pr1.length c1]] W (NtEnd w.heap.size pg g2 W)) := Lib.hid (fun W A1 c1 h hs => by
          have hk2 := HSI.out
          have hf := HSZ.out.f
          have hkk : k * k ≤ 200 * 200 := Nat.mul_le_mul (by omega) (by omega)
          have := note_any w.heap.size pg s1 g x ((k : Int) + 1) ta tx li er1 ke en va va1 kn eg pr1.length c1 fo1 A1 pr1 W h HQ1.out.ok HI.out hs (by have := HSZ.out.l; omega) (fun i => by have := HSZ.out.w i; omega) (by omega)
          rw [hg2] at this
          exact this)
        have HLT := Lib.hid hlt
        clear hR1 hg2 hlt hk
        go_upto_region 10 with (fail)
        clear y0 y1 y2 y3 y4 y5 y6 y7
        refine wp_region_noPanic ?_
        obtain ⟨W0, rfl⟩ : ∃ W0 : World, W0 = wr := ⟨_, rfl⟩
        refine wp_region_held_drew (S := fun W => Below w.heap.size w W) (by kernel_rfl) (Below.drew HBW.out) (fun hHeld => ?_)
        replace HBW : Hid (Below w.heap.size w (World.drew W0)) := Lib.hid (Below.drew HBW.out)
        replace HQ1 := Lib.hid (HQ1.out.later (Below.drew (Below.refl _ _)))
        replace HG := Lib.hid (HG.out.later (Below.drew (Below.refl _ _)))
        generalize World.drew W0 = Wd at *
        refine wpAnyH_take (i := 0) (oi := { dst := some 37, op := Op.move (Operand.tmp 7), type := 57, pos := "outright.go:293", after := #[], guard := none }) (v := ?_) rfl (by kernel_rfl) (by kernel_rfl) (by kernel_rfl) (fun _ _ _ h => h) (Or.inl ⟨by rfl, ?_⟩) (by assumption) ?_
        rotate_left
        · intro W hSw
          clear hSw
          go_simp
          try with_reducible rfl
        simp only [Act.put, List.setIfInBounds_toArray, List.set_cons_zero, List.set_cons_succ]
        refine wpAnyH_take (i := 1) (oi := { dst := some 38, op := Op.move (Operand.tmp 8), type := 3, pos := "outright.go:293", after := #[], guard := none }) (v := ?_) rfl (by kernel_rfl) (by kernel_rfl) (by kernel_rfl) (fun _ _ _ h => h) (Or.inl ⟨by rfl, ?_⟩) (by assumption) ?_
        rotate_left
        · intro W hSw
          clear hSw
          go_simp
          try with_reducible rfl
        simp only [Act.put, List.setIfInBounds_toArray, List.set_cons_zero, List.set_cons_succ]
        refine wpAnyH_take (i := 2) (oi := { dst := some 39, op := Op.binOp BinOp.add 3 (Operand.tmp 38) (Operand.const (Value.int IntKind.i64 1)) 3, type := 3, pos := "outright.go:293", after := #[{ on := 1, ground := Ground.data }], guard := none }) (v := ?_) rfl (by kernel_rfl) (by kernel_rfl) (by kernel_rfl) (fun _ _ _ h => h) (Or.inl ⟨by rfl, ?_⟩) (by assumption) ?_
        rotate_left
        · intro W hSw
          clear hSw
          go_simp
          try with_reducible rfl
        simp only [Act.put, List.setIfInBounds_toArray, List.set_cons_zero, List.set_cons_succ]
        refine wpAnyH_take (i := 3) (oi := { dst := some 40, op := Op.move (Operand.tmp 1), type := 55, pos := "outright.go:293", after := #[], guard := none }) (v := ?_) rfl (by kernel_rfl) (by kernel_rfl) (by kernel_rfl) (fun _ _ _ h => h) (Or.inl ⟨by rfl, ?_⟩) (by assumption) ?_
        rotate_left
        · intro W hSw
          clear hSw
          go_simp
          try with_reducible rfl
        simp only [Act.put, List.setIfInBounds_toArray, List.set_cons_zero, List.set_cons_succ]
        refine wpAnyH_take (i := 4) (oi := { dst := some 41, op := Op.move (Operand.tmp 8), type := 3, pos := "outright.go:293", after := #[], guard := none }) (v := ?_) rfl (by kernel_rfl) (by kernel_rfl) (by kernel_rfl) (fun _ _ _ h => h) (Or.inl ⟨by rfl, ?_⟩) (by assumption) ?_
        rotate_left
        · intro W hSw
          clear hSw
          go_simp
          try with_reducible rfl
        simp only [Act.put, List.setIfInBounds_toArray, List.set_cons_zero, List.set_cons_succ]
        refine wpAnyH_take (i := 5) (oi := { dst := some 42, op := Op.indexAddr 55 (Operand.tmp 40) (Operand.tmp 41), type := 0, pos := "outright.go:293", after := #[{ on := 3, ground := Ground.data }, { on := 4, ground := Ground.data }], guard := none }) (v := ?_) rfl (by kernel_rfl) (by kernel_rfl) (by kernel_rfl) (fun _ _ _ h => h) (Or.inl ⟨by rfl, ?_⟩) (by assumption) ?_
        rotate_left
        · intro W hSw
          clear hSw
          go_simp
          try with_reducible rfl
        simp only [Act.put, List.setIfInBounds_toArray, List.set_cons_zero, List.set_cons_succ]
        refine wpAnyH_take (i := 6) (oi := { dst := some 43, op := Op.load 63 (Operand.tmp 42), type := 63, pos := "outright.go:293", after := #[{ on := 5, ground := Ground.data }], guard := none }) (v := ?_) rfl (by kernel_rfl) (by kernel_rfl) (by kernel_rfl) (fun _ _ _ h => h) (Or.inl ⟨by rfl, ?_⟩) (by assumption) ?_
        rotate_left
        · intro W hSw
          obtain ⟨y0, y1, y2, y3, y4, y5, y6, y7⟩ := HCE.out _ hSw
          clear hSw
          go_simp
          try with_reducible rfl
        simp only [Act.put, List.setIfInBounds_toArray, List.set_cons_zero, List.set_cons_succ]
        refine wpAnyH_take (i := 7) (oi := { dst := some 44, op := Op.move (Operand.tmp 5), type := 22, pos := "outright.go:293", after := #[], guard := none }) (v := ?_) rfl (by kernel_rfl) (by kernel_rfl) (by kernel_rfl) (fun _ _ _ h => h) (Or.inl ⟨by rfl, ?_⟩) (by assumption) ?_
        rotate_left
        · intro W hSw
          clear hSw
          go_simp
          try with_reducible rfl
        simp only [Act.put, List.setIfInBounds_toArray, List.set_cons_zero, List.set_cons_succ]
        refine wpAnyH_take (i := 8) (oi := { dst := some 45, op := Op.move (Operand.tmp 1), type := 55, pos := "outright.go:293", after := #[], guard := none }) (v := ?_) rfl (by kernel_rfl) (by kernel_rfl) (by kernel_rfl) (fun _ _ _ h => h) (Or.inl ⟨by rfl, ?_⟩) (by assumption) ?_
        rotate_left
        · intro W hSw
          clear hSw
          go_simp
          try with_reducible rfl
        simp only [Act.put, List.setIfInBounds_toArray, List.set_cons_zero, List.set_cons_succ]
        refine wpAnyH_take (i := 9) (oi := { dst := some 46, op := Op.move (Operand.tmp 8), type := 3, pos := "outright.go:293", after := #[], guard := none }) (v := ?_) rfl (by kernel_rfl) (by kernel_rfl) (by kernel_rfl) (fun _ _ _ h => h) (Or.inl ⟨by rfl, ?_⟩) (by assumption) ?_
        rotate_left
        · intro W hSw
          clear hSw
          go_simp
          try with_reducible rfl
        simp only [Act.put, List.setIfInBounds_toArray, List.set_cons_zero, List.set_cons_succ]
        refine wpAnyH_take (i := 10) (oi := { dst := some 47, op := Op.indexAddr 55 (Operand.tmp 45) (Operand.tmp 46), type := 0, pos := "outright.go:293", after := #[{ on := 8, ground := Ground.data }, { on := 9, ground := Ground.data }], guard := none }) (v := ?_) rfl (by kernel_rfl) (by kernel_rfl) (by kernel_rfl) (fun _ _ _ h => h) (Or.inl ⟨by rfl, ?_⟩) (by assumption) ?_
        rotate_left
        · intro W hSw
          clear hSw
          go_simp
          try with_reducible rfl
        simp only [Act.put, List.setIfInBounds_toArray, List.set_cons_zero, List.set_cons_succ]
        refine wpAnyH_take (i := 11) (oi := { dst := some 48, op := Op.fieldAddr 63 (Operand.tmp 47) 0, type := 0, pos := "outright.go:293", after := #[{ on := 10, ground := Ground.data }], guard := none }) (v := ?_) rfl (by kernel_rfl) (by kernel_rfl) (by kernel_rfl) (fun _ _ _ h => h) (Or.inl ⟨by rfl, ?_⟩) (by assumption) ?_
        rotate_left
        · intro W hSw
          clear hSw
          go_simp
          try with_reducible rfl
        simp only [Act.put, List.setIfInBounds_toArray, List.set_cons_zero, List.set_cons_succ]
        refine wpAnyH_take (i := 12) (oi := { dst := some 49, op := Op.load 3 (Operand.tmp 48), type := 3, pos := "outright.go:293", after := #[{ on := 11, ground := Ground.data }], guard := none }) (v := ?_) rfl (by kernel_rfl) (by kernel_rfl) (by kernel_rfl) (fun _ _ _ h => h) (Or.inl ⟨by rfl, ?_⟩) (by assumption) ?_
        rotate_left
        · intro W hSw
          obtain ⟨y0, y1, y2, y3, y4, y5, y6, y7⟩ := HCE.out _ hSw
          clear hSw
          go_simp
          try with_reducible rfl
        simp only [Act.put, List.setIfInBounds_toArray, List.set_cons_zero, List.set_cons_succ]
        refine wpAnyH_take (i := 13) (oi := { dst := some 50, op := Op.move (Operand.tmp 1), type := 55, pos := "outright.go:293", after := #[], guard := none }) (v := ?_) rfl (by kernel_rfl) (by kernel_rfl) (by kernel_rfl) (fun _ _ _ h => h) (Or.inl ⟨by rfl, ?_⟩) (by assumption) ?_
        rotate_left
        · intro W hSw
          clear hSw
          go_simp
          try with_reducible rfl
        simp only [Act.put, List.setIfInBounds_toArray, List.set_cons_zero, List.set_cons_succ]
        refine wpAnyH_take (i := 14) (oi := { dst := some 51, op := Op.move (Operand.tmp 8), type := 3, pos := "outright.go:293", after := #[], guard := none }) (v := ?_) rfl (by kernel_rfl) (by kernel_rfl) (by kernel_rfl) (fun _ _ _ h => h) (Or.inl ⟨by rfl, ?_⟩) (by assumption) ?_
        rotate_left
        · intro W hSw
          clear hSw
          go_simp
          try with_reducible rfl
        simp only [Act.put, List.setIfInBounds_toArray, List.set_cons_zero, List.set_cons_succ]
        refine wpAnyH_take (i := 15) (oi := { dst := some 52, op := Op.indexAddr 55 (Operand.tmp 50) (Operand.tmp 51), type := 0, pos := "outright.go:293", after := #[{ on := 13, ground := Ground.data }, { on := 14, ground := Ground.data }], guard := none }) (v := ?_) rfl (by kernel_rfl) (by kernel_rfl) (by kernel_rfl) (fun _ _ _ h => h) (Or.inl ⟨by rfl, ?_⟩) (by assumption) ?_
        rotate_left
        · intro W hSw
          clear hSw
          go_simp
          try with_reducible rfl
        simp only [Act.put, List.setIfInBounds_toArray, List.set_cons_zero, List.set_cons_succ]
        refine wpAnyH_take (i := 16) (oi := { dst := some 53, op := Op.fieldAddr 63 (Operand.tmp 52) 1, type := 0, pos := "outright.go:293", after := #[{ on := 15, ground := Ground.data }], guard := none }) (v := ?_) rfl (by kernel_rfl) (by kernel_rfl) (by kernel_rfl) (fun _ _ _ h => h) (Or.inl ⟨by rfl, ?_⟩) (by assumption) ?_
        rotate_left
        · intro W hSw
          clear hSw
          go_simp
          try with_reducible rfl
        simp only [Act.put, List.setIfInBounds_toArray, List.set_cons_zero, List.set_cons_succ]
        refine wpAnyH_take (i := 17) (oi := { dst := some 54, op := Op.load 36 (Operand.tmp 53), type := 36, pos := "outright.go:293", after := #[{ on := 16, ground := Ground.data }], guard := none }) (v := ?_) rfl (by kernel_rfl) (by kernel_rfl) (by kernel_rfl) (fun _ _ _ h => h) (Or.inl ⟨by rfl, ?_⟩) (by assumption) ?_
        rotate_left
        · intro W hSw
          obtain ⟨y0, y1, y2, y3, y4, y5, y6, y7⟩ := HCE.out _ hSw
          clear hSw
          go_simp
          try with_reducible rfl
        simp only [Act.put, List.setIfInBounds_toArray, List.set_cons_zero, List.set_cons_succ]
        refine wpAnyH_ready (rs := [18]) (by kernel_rfl) (by simp) (AllReadyH.cons (o := { dst := some 55, op := Op.call { callee := Callee.value (Operand.func 18), args := #[Operand.tmp 44, Operand.tmp 49, Operand.tmp 54], argTypes := #[22, 3, 36] }, type := 33, pos := "outright.go:293", after := #[{ on := 7, ground := Ground.data }, { on := 12, ground := Ground.data }, { on := 17, ground := Ground.data }], guard := none }) rfl (fun K hK => ?_) AllReadyH.nil)
        have HCL := Lib.hid (HC1.out Wd _ HQ1.out)
        go_simp
        refine HCL.out.mono ?_
        rintro e We ⟨A1, c1, rfl, hro, hm, hoth, hkp, hbl⟩
        have HQ2 := Lib.hid hm
        have HG2 := Lib.hid (HG.out.kp hkp)
        replace HBW := Lib.hid (hbl _ _ HBW.out (Nat.le_refl _))
        clear hro hm hoth hkp hbl hHeld HCL HC1 HQ1 HG
        refine hK.out _ _ (HBW.out) (fun hHeld => ?_)
        clear hK K
        refine wpAnyH_ready (rs := [19]) (by kernel_rfl) (by simp) (AllReadyH.cons (o := { dst := some 56, op := Op.call { callee := Callee.value (Operand.func 36), args := #[Operand.tmp 37, Operand.tmp 39, Operand.tmp 43, Operand.tmp 55], argTypes := #[57, 3, 63, 33] }, type := 0, pos := "outright.go:293", after := #[{ on := 0, ground := Ground.data }, { on := 2, ground := Ground.data }, { on := 6, ground := Ground.data }, { on := 18, ground := Ground.data }, { on := 18, ground := Ground.chain }], guard := none }) rfl (fun K hK => ?_) AllReadyH.nil)
        have HCL := Lib.hid (HNT.out We A1 c1 HG2.out HBW.out.size)
        go_simp
        refine HCL.out.mono ?_
        rintro e Wf ⟨rfl, x', hlg, hlk⟩
        have HG3 := Lib.hid hlg
        have HQ3 := Lib.hid (HQ2.out.lgk hlk)
        replace HBW := Lib.hid (hlk.lift HBW.out (Nat.le_refl _) HBW.out.size)
        clear hlg hlk hHeld HCL HNT HQ2 HG2
        refine hK.out _ _ (HBW.out) (fun hHeld => ?_)
        clear hK K
        refine wpAnyH_done (by kernel_rfl) (NoPanic.normal ?_) _
        clear hHeld
        go_wp2
        have hlt := HLT.out
        refine ⟨⟨k + 1, _, g2, x', by omega, by go_num, by rw [HTK2.out]; exact HQ3.out, HG3.out, by rw [HTK2.out]; exact HI2.out, by rw [HTK2.out]; exact HF2.out, HS2.out, HBW.out⟩, ?_⟩
        simp [intOf]; omega
      · obtain rfl : n = k := by omega
        have d2 : decide ((n : Int) < (n : Int)) = false := decide_eq_false (by omega)
        clear hlt hk
        obtain ⟨nl, hnl⟩ : ∃ nl, g.lives.length = nl := ⟨_, rfl⟩
        have HNL := Lib.hid hnl
        have HN3 : Hid (nl ≤ 1000) := Lib.hid (by have h1 := HSZ.out.l; have h2 := HN2.out; rw [hnl] at h1; omega)
        have HW5 : Hid (∀ i, (gl g i).ws.length ≤ 1000) := Lib.hid (fun i => by have h1 := HSZ.out.w i; have h2 := HN2.out; omega)
        clear hnl
        go_upto_region 11 with (fail)
        clear d2
        obtain ⟨w9, hw9⟩ : ∃ z : World, wr = z := ⟨_, rfl⟩
        rw [hw9] at HG HBW ⊢
        clear hw9
        go_wp2
        go_loopw [9] (fun s9 W => ∃ a : Nat, a ≤ nl ∧ s9 = .int .i64 a ∧ Below w9.heap.size w9 W) (fun s9 _ => nl - (intOf s9).toNat)
        case atStart => exact ⟨0, Nat.zero_le _, rfl, Below.refl _ _⟩
        case round =>
          obtain ⟨a, ha, rfl, hb⟩ := hrel
          have HBA := Lib.hid hb
          clear hb
          have q2 := (HG.out.later HBA.out).c0.2.2
          rw [HNL.out] at q2
          by_cases hla : a < nl
          · have d2 : decide ((a : Int) < (nl : Int)) = true := decide_eq_true (Int.ofNat_lt.2 hla)
            have d2' : decide (a < nl) = true := decide_eq_true hla
            obtain ⟨wka, wka2⟩ := wk_1000 a (by have := HN3.out; omega)
            have HLA := Lib.hid hla
            clear hla ha
            go_upto_region 14 with (fail)
            clear q2 d2 d2'
            go_wp2
            go_loopw [10] (fun s10 W => ∃ b : Nat, b ≤ a ∧ s10 = .int .i64 b ∧ Below w9.heap.size w9 W) (fun s10 _ => a - (intOf s10).toNat)
            case atStart => exact ⟨0, Nat.zero_le _, rfl, HBA.out⟩
            case round =>
              obtain ⟨b, hbl, rfl, hb⟩ := hrel
              have HBB := Lib.hid hb
              clear hb HBA
              by_cases hlb : b < a
              · have d3 : decide ((b : Int) < (a : Int)) = true := decide_eq_true (Int.ofNat_lt.2 hlb)
                have d3' : decide (b < a) = true := decide_eq_true hlb
                obtain ⟨wkb, wkb2⟩ := wk_1000 b (by have := HN3.out; have := HLA.out; omega)
                have HLB := Lib.hid hlb
                have hga : a < g.lives.length := by rw [HNL.out]; exact HLA.out
                have hgb : b < g.lives.length := by rw [HNL.out]; exact Nat.lt_trans hlb HLA.out
                obtain ⟨bb, off, h1, hA, hh1, hc1⟩ := (HG.out.later HBB.out).life hga
                obtain ⟨bb2, off2, h2, hA2, hh2, hc2⟩ := (HG.out.later HBB.out).life hgb
                have hA3 := hA
                rw [hA2] at hA3
                cases hA3
                have HRA := Lib.hid (HG.out.ws a h1 _ hh1 (gl_at hga))
                have HRB := Lib.hid (HG.out.ws b h2 _ hh2 (gl_at hgb))
                have HCC : Hid ((gl g a).over ≠ 0 → (gl g b).over ≠ 0 → (gl g b).begun ≤ (gl g a).over → (gl g a).begun ≤ (gl g b).over → ∀ k, ¬ (wrote g a k ∧ wrote g b k)) := Lib.hid (fun e1 e2 e3 e4 => HF.out.c a b hga hgb (by omega) e1 e2 e3 e4)
                have HCA : Hid (∀ W, Below w9.heap.size w9 W → W.cell? ⟨pg, 2, none⟩ = some (.slice (some ⟨bb, off, none⟩) nl x.lc) ∧ (∀ j, j < 6 → W.cell? ⟨bb, off + a * 6 + j, none⟩ = (lfE (gl g a, h1))[j]?) ∧ ∀ j, j < 6 → W.cell? ⟨bb, off + b * 6 + j, none⟩ = (lfE (gl g b, h2))[j]?) := Lib.hid (fun W hW => by
                  have q2 := (HG.out.later hW).c0.2.2
                  rw [HNL.out, hA] at q2
                  obtain ⟨b3, o3, h3, e1, e2, hc3⟩ := (HG.out.later hW).life hga
                  obtain ⟨b4, o4, h4, e3, e4, hc4⟩ := (HG.out.later hW).life hgb
                  rw [hA] at e1 e3
                  rw [hh1] at e2
                  rw [hh2] at e4
                  cases e1
                  cases e2
                  cases e3
                  cases e4
                  exact ⟨q2, hc3, hc4⟩)
                have i1 := idx59 bb off nl x.lc a (a : Int) rfl HLA.out
                have i2 := idx59 bb off nl x.lc b (b : Int) rfl (Nat.lt_trans hlb HLA.out)
                have HWA : Hid ((gl g a).ws.length ≤ 1000) := Lib.hid (HW5.out a)
                have HWB : Hid ((gl g b).ws.length ≤ 1000) := Lib.hid (HW5.out b)
                have HKA : Hid (∀ (i j : Nat) (fa fb : Fc), (gl g a).ws[i]? = some fa → (gl g b).ws[j]? = some fb → fa.key = fb.key → wrote g a fa.key ∧ wrote g b fa.key) := Lib.hid (fun i j fa fb e1 e2 e3 => ⟨fun e => lastW_none.1 e fa (List.mem_of_getElem? e1) rfl, fun e => lastW_none.1 e fb (List.mem_of_getElem? e2) e3.symm⟩)
                clear hga hgb hA hA2 hh1 hh2 hc1 hc2 hlb hbl
                obtain ⟨la1, hla1⟩ : ∃ z, gl g a = z := ⟨_, rfl⟩
                obtain ⟨la2, hla2⟩ : ∃ z, gl g b = z := ⟨_, rfl⟩
                rw [hla1] at HRA HCC HCA HWA HKA
                rw [hla2] at HRB HCC HCA HWB HKA
                clear hla1 hla2
                go_upto_region 17 with (fail)
                clear d3 d3'
                go_cut [11, 12] (fun s11 s12 W => ∃ pa pb : Nat, s11 = .pointer (some ⟨pa, 0, none⟩) ∧ s12 = .pointer (some ⟨pb, 0, none⟩) ∧ Blk W pa #[.int .i64 la1.task, .int .i64 la1.n, .int .i64 la1.sn, .slice h1.1 la1.ws.length h1.2, .int .i64 la1.begun, .int .i64 la1.over] 73 ∧ Blk W pb #[.int .i64 la2.task, .int .i64 la2.n, .int .i64 la2.sn, .slice h2.1 la2.ws.length h2.2, .int .i64 la2.begun, .int .i64 la2.over] 73 ∧ Below w9.heap.size w9 W)
                case first =>
                  refine wp_region_noPanic ?_
                  obtain ⟨W0, rfl⟩ : ∃ W0 : World, W0 = wr := ⟨_, rfl⟩
                  refine wp_region_held_drew (S := fun W => Below w9.heap.size w9 W) (by kernel_rfl) (Below.drew HBB.out) (fun hHeld => ?_)
                  replace HBB : Hid (Below w9.heap.size w9 (World.drew W0)) := Lib.hid (Below.drew HBB.out)
                  generalize World.drew W0 = Wd at *
                  refine wpAnyH_take (i := 0) (oi := { dst := some 71, op := Op.move (Operand.tmp 7), type := 57, pos := "outright.go:297", after := #[], guard := none }) (v := ?_) rfl (by kernel_rfl) (by kernel_rfl) (by kernel_rfl) (fun _ _ _ h => h) (Or.inl ⟨by rfl, ?_⟩) (by assumption) ?_
                  rotate_left
                  · intro W hSw
                    clear hSw
                    go_simp
                    try with_reducible rfl
                  simp only [Act.put, List.setIfInBounds_toArray, List.set_cons_zero, List.set_cons_succ]
                  refine wpAnyH_take (i := 1) (oi := { dst := some 72, op := Op.nilCheck (Operand.tmp 71), type := 0, pos := "outright.go:297", after := #[{ on := 0, ground := Ground.data }], guard := none }) (v := ?_) rfl (by kernel_rfl) (by kernel_rfl) (by kernel_rfl) (fun _ _ _ h => h) (Or.inl ⟨by rfl, ?_⟩) (by assumption) ?_
                  rotate_left
                  · intro W hSw
                    clear hSw
                    go_simp
                    try with_reducible rfl
                  simp only [Act.put, List.setIfInBounds_toArray, List.set_cons_zero, List.set_cons_succ]
                  refine wpAnyH_take (i := 2) (oi := { dst := some 73, op := Op.fieldAddr 61 (Operand.tmp 72) 2, type := 0, pos := "outright.go:297", after := #[{ on := 1, ground := Ground.data }], guard := none }) (v := ?_) rfl (by kernel_rfl) (by kernel_rfl) (by kernel_rfl) (fun _ _ _ h => h) (Or.inl ⟨by rfl, ?_⟩) (by assumption) ?_
                  rotate_left
                  · intro W hSw
                    clear hSw
                    go_simp
                    try with_reducible rfl
                  simp only [Act.put, List.setIfInBounds_toArray, List.set_cons_zero, List.set_cons_succ]
                  refine wpAnyH_take (i := 3) (oi := { dst := some 74, op := Op.load 59 (Operand.tmp 73), type := 59, pos := "outright.go:297", after := #[{ on := 2, ground := Ground.data }], guard := none }) (v := ?_) rfl (by kernel_rfl) (by kernel_rfl) (by kernel_rfl) (fun _ _ _ h => h) (Or.inl ⟨by rfl, ?_⟩) (by assumption) ?_
                  rotate_left
                  · intro W hSw
                    have q2 := (HCA.out _ hSw).1
                    clear hSw
                    go_simp
                    try with_reducible rfl
                  simp only [Act.put, List.setIfInBounds_toArray, List.set_cons_zero, List.set_cons_succ]
                  refine wpAnyH_take (i := 4) (oi := { dst := some 75, op := Op.move (Operand.tmp 9), type := 3, pos := "outright.go:297", after := #[], guard := none }) (v := ?_) rfl (by kernel_rfl) (by kernel_rfl) (by kernel_rfl) (fun _ _ _ h => h) (Or.inl ⟨by rfl, ?_⟩) (by assumption) ?_
                  rotate_left
                  · intro W hSw
                    clear hSw
                    go_simp
                    try with_reducible rfl
                  simp only [Act.put, List.setIfInBounds_toArray, List.set_cons_zero, List.set_cons_succ]
                  refine wpAnyH_take (i := 5) (oi := { dst := some 76, op := Op.indexAddr 59 (Operand.tmp 74) (Operand.tmp 75), type := 0, pos := "outright.go:297", after := #[{ on := 3, ground := Ground.data }, { on := 4, ground := Ground.data }], guard := none }) (v := ?_) rfl (by kernel_rfl) (by kernel_rfl) (by kernel_rfl) (fun _ _ _ h => h) (Or.inl ⟨by rfl, ?_⟩) (by assumption) ?_
                  rotate_left
                  · intro W hSw
                    clear hSw
                    go_simp
                    try with_reducible rfl
                  simp only [Act.put, List.setIfInBounds_toArray, List.set_cons_zero, List.set_cons_succ]
                  refine wpAnyH_take (i := 6) (oi := { dst := some 77, op := Op.load 73 (Operand.tmp 76), type := 73, pos := "outright.go:297", after := #[{ on := 5, ground := Ground.data }], guard := none }) (v := ?_) rfl (by kernel_rfl) (by kernel_rfl) (by kernel_rfl) (fun _ _ _ h => h) (Or.inl ⟨by rfl, ?_⟩) (by assumption) ?_
                  rotate_left
                  · intro W hSw
                    have hc := (HCA.out _ hSw).2.1
                    have c0 := hc 0 (by decide)
                    have c1 := hc 1 (by decide)
                    have c2 := hc 2 (by decide)
                    have c3 := hc 3 (by decide)
                    have c4 := hc 4 (by decide)
                    have c5 := hc 5 (by decide)
                    unfold lfE at c0 c1 c2 c3 c4 c5
                    simp only [List.getElem?_cons_zero, List.getElem?_cons_succ, Nat.add_zero] at c0 c1 c2 c3 c4 c5
                    clear hc hSw
                    go_simp
                    try with_reducible rfl
                  simp only [Act.put, List.setIfInBounds_toArray, List.set_cons_zero, List.set_cons_succ]
                  refine wpAnyH_take (i := 7) (oi := { dst := some 78, op := Op.move (Operand.tmp 7), type := 57, pos := "outright.go:297", after := #[{ on := 16, ground := Ground.gcOnly Departure.lateStores }], guard := none }) (v := ?_) rfl (by kernel_rfl) (by kernel_rfl) (by kernel_rfl) (fun _ _ _ h => h) (Or.inl ⟨by rfl, ?_⟩) (by assumption) ?_
                  rotate_left
                  · intro W hSw
                    clear hSw
                    go_simp
                    try with_reducible rfl
                  simp only [Act.put, List.setIfInBounds_toArray, List.set_cons_zero, List.set_cons_succ]
                  refine wpAnyH_take (i := 8) (oi := { dst := some 79, op := Op.nilCheck (Operand.tmp 78), type := 0, pos := "outright.go:297", after := #[{ on := 7, ground := Ground.data }, { on := 16, ground := Ground.gcOnly Departure.lateStores }], guard := none }) (v := ?_) rfl (by kernel_rfl) (by kernel_rfl) (by kernel_rfl) (fun _ _ _ h => h) (Or.inl ⟨by rfl, ?_⟩) (by assumption) ?_
                  rotate_left
                  · intro W hSw
                    clear hSw
                    go_simp
                    try with_reducible rfl
                  simp only [Act.put, List.setIfInBounds_toArray, List.set_cons_zero, List.set_cons_succ]
                  refine wpAnyH_take (i := 9) (oi := { dst := some 80, op := Op.fieldAddr 61 (Operand.tmp 79) 2, type := 0, pos := "outright.go:297", after := #[{ on := 8, ground := Ground.data }, { on := 16, ground := Ground.gcOnly Departure.lateStores }], guard := none }) (v := ?_) rfl (by kernel_rfl) (by kernel_rfl) (by kernel_rfl) (fun _ _ _ h => h) (Or.inl ⟨by rfl, ?_⟩) (by assumption) ?_
                  rotate_left
                  · intro W hSw
                    clear hSw
                    go_simp
                    try with_reducible rfl
                  simp only [Act.put, List.setIfInBounds_toArray, List.set_cons_zero, List.set_cons_succ]
                  refine wpAnyH_take (i := 10) (oi := { dst := some 81, op := Op.load 59 (Operand.tmp 80), type := 59, pos := "outright.go:297", after := #[{ on := 9, ground := Ground.data }, { on := 16, ground := Ground.gcOnly Departure.lateStores }], guard := none }) (v := ?_) rfl (by kernel_rfl) (by kernel_rfl) (by kernel_rfl) (fun _ _ _ h => h) (Or.inl ⟨by rfl, ?_⟩) (by assumption) ?_
                  rotate_left
                  · intro W hSw
                    have q2 := (HCA.out _ hSw).1
                    clear hSw
                    go_simp
                    try with_reducible rfl
                  simp only [Act.put, List.setIfInBounds_toArray, List.set_cons_zero, List.set_cons_succ]
                  refine wpAnyH_take (i := 11) (oi := { dst := some 82, op := Op.move (Operand.tmp 10), type := 3, pos := "outright.go:297", after := #[{ on := 16, ground := Ground.gcOnly Departure.lateStores }], guard := none }) (v := ?_) rfl (by kernel_rfl) (by kernel_rfl) (by kernel_rfl) (fun _ _ _ h => h) (Or.inl ⟨by rfl, ?_⟩) (by assumption) ?_
                  rotate_left
                  · intro W hSw
                    clear hSw
                    go_simp
                    try with_reducible rfl
                  simp only [Act.put, List.setIfInBounds_toArray, List.set_cons_zero, List.set_cons_succ]
                  refine wpAnyH_take (i := 12) (oi := { dst := some 83, op := Op.indexAddr 59 (Operand.tmp 81) (Operand.tmp 82), type := 0, pos := "outright.go:297", after := #[{ on := 10, ground := Ground.data }, { on := 11, ground := Ground.data }, { on := 16, ground := Ground.gcOnly Departure.lateStores }], guard := none }) (v := ?_) rfl (by kernel_rfl) (by kernel_rfl) (by kernel_rfl) (fun _ _ _ h => h) (Or.inl ⟨by rfl, ?_⟩) (by assumption) ?_
                  rotate_left
                  · intro W hSw
                    clear hSw
                    go_simp
                    try with_reducible rfl
                  simp only [Act.put, List.setIfInBounds_toArray, List.set_cons_zero, List.set_cons_succ]
                  refine wpAnyH_take (i := 13) (oi := { dst := some 84, op := Op.load 73 (Operand.tmp 83), type := 73, pos := "outright.go:297", after := #[{ on := 12, ground := Ground.data }, { on := 16, ground := Ground.gcOnly Departure.lateStores }], guard := none }) (v := ?_) rfl (by kernel_rfl) (by kernel_rfl) (by kernel_rfl) (fun _ _ _ h => h) (Or.inl ⟨by rfl, ?_⟩) (by assumption) ?_
                  rotate_left
                  · intro W hSw
                    have hc := (HCA.out _ hSw).2.2
                    have c0 := hc 0 (by decide)
                    have c1 := hc 1 (by decide)
                    have c2 := hc 2 (by decide)
                    have c3 := hc 3 (by decide)
                    have c4 := hc 4 (by decide)
                    have c5 := hc 5 (by decide)
                    unfold lfE at c0 c1 c2 c3 c4 c5
                    simp only [List.getElem?_cons_zero, List.getElem?_cons_succ, Nat.add_zero] at c0 c1 c2 c3 c4 c5
                    clear hc hSw
                    go_simp
                    try with_reducible rfl
                  simp only [Act.put, List.setIfInBounds_toArray, List.set_cons_zero, List.set_cons_succ]
                  refine wpAnyH_ready (rs := [14, 15]) (by kernel_rfl) (by simp) (AllReadyH.cons (o := { dst := some 11, op := Op.alloc 73, type := 0, pos := "outright.go:297", after := #[], guard := none }) rfl (fun K hK => ?_) (AllReadyH.cons (o := { dst := some 12, op := Op.alloc 73, type := 0, pos := "outright.go:297", after := #[], guard := none }) rfl (fun K hK => ?_) AllReadyH.nil))
                  · go_simp
                    have hb : Below Wd.heap.size Wd (Wd.alloc (.cells #[.int .i64 0, .int .i64 0, .int .i64 0, .slice none 0 0, .int .i64 0, .int .i64 0] 73)) := (Below.refl _ _).alloc (Nat.le_refl _) _
                    have KA : Hid (Blk (Wd.alloc (.cells #[.int .i64 0, .int .i64 0, .int .i64 0, .slice none 0 0, .int .i64 0, .int .i64 0] 73)) Wd.heap.size #[.int .i64 0, .int .i64 0, .int .i64 0, .slice none 0 0, .int .i64 0, .int .i64 0] 73) := Lib.hid (Blk.new Wd _ 73)
                    have HLKA : Hid (w9.heap.size ≤ Wd.heap.size) := Lib.hid HBB.out.size
                    replace HBB := Lib.hid (stepB HBB.out hb)
                    clear hb hHeld
                    refine hK.out _ _ (HBB.out) (fun hHeld => ?_)
                    clear hK K
                    generalize Wd.alloc (.cells #[.int .i64 0, .int .i64 0, .int .i64 0, .slice none 0 0, .int .i64 0, .int .i64 0] 73) = Wa at *
                    obtain ⟨pa, hpp⟩ : ∃ z, Wd.heap.size = z := ⟨_, rfl⟩
                    rw [hpp] at KA HLKA ⊢
                    clear hpp
                    refine wpAnyH_ready (rs := [15]) (by kernel_rfl) (by simp) (AllReadyH.cons (o := { dst := some 12, op := Op.alloc 73, type := 0, pos := "outright.go:297", after := #[], guard := none }) rfl (fun K hK => ?_) AllReadyH.nil)
                    go_simp
                    have hb : Below Wa.heap.size Wa (Wa.alloc (.cells #[.int .i64 0, .int .i64 0, .int .i64 0, .slice none 0 0, .int .i64 0, .int .i64 0] 73)) := (Below.refl _ _).alloc (Nat.le_refl _) _
                    have HNP := Lib.hid (show pa ≠ Wa.heap.size from by have := KA.out.lt; omega)
                    replace KA := Lib.hid (KA.out.later hb)
                    have KB : Hid (Blk (Wa.alloc (.cells #[.int .i64 0, .int .i64 0, .int .i64 0, .slice none 0 0, .int .i64 0, .int .i64 0] 73)) Wa.heap.size #[.int .i64 0, .int .i64 0, .int .i64 0, .slice none 0 0, .int .i64 0, .int .i64 0] 73) := Lib.hid (Blk.new Wa _ 73)
                    have HLKB : Hid (w9.heap.size ≤ Wa.heap.size) := Lib.hid HBB.out.size
                    replace HBB := Lib.hid (stepB HBB.out hb)
                    clear hb hHeld
                    refine hK.out _ _ (HBB.out) (fun hHeld => ?_)
                    clear hK K
                    generalize Wa.alloc (.cells #[.int .i64 0, .int .i64 0, .int .i64 0, .slice none 0 0, .int .i64 0, .int .i64 0] 73) = Wb at *
                    obtain ⟨pb, hpp⟩ : ∃ z, Wa.heap.size = z := ⟨_, rfl⟩
                    rw [hpp] at KB HLKB HNP ⊢
                    clear hpp
                    refine wpAnyH_ready (rs := [16]) (by kernel_rfl) (by simp) (AllReadyH.cons (o := { dst := none, op := Op.store 73 (Operand.tmp 11) (Operand.tmp 77), type := 0, pos := "outright.go:297", after := #[{ on := 14, ground := Ground.data }, { on := 6, ground := Ground.data }, { on := 0, ground := Ground.phase }, { on := 1, ground := Ground.phase }, { on := 2, ground := Ground.phase }, { on := 3, ground := Ground.phase }, { on := 4, ground := Ground.phase }, { on := 5, ground := Ground.phase }, { on := 6, ground := Ground.phase }, { on := 7, ground := Ground.textOnly Departure.lateStores }, { on := 8, ground := Ground.textOnly Departure.lateStores }, { on := 9, ground := Ground.textOnly Departure.lateStores }, { on := 10, ground := Ground.textOnly Departure.lateStores }, { on := 11, ground := Ground.textOnly Departure.lateStores }, { on := 12, ground := Ground.textOnly Departure.lateStores }, { on := 13, ground := Ground.textOnly Departure.lateStores }, { on := 14, ground := Ground.phase }, { on := 15, ground := Ground.phase }], guard := none }) rfl (fun K hK => ?_) AllReadyH.nil)
                    refine wp_store_row 73 (.tmp 11) (.tmp 77) rfl pa #[.int .i64 la1.task, .int .i64 la1.n, .int .i64 la1.sn, .slice h1.1 la1.ws.length h1.2, .int .i64 la1.begun, .int .i64 la1.over] rfl rfl 73 #[.int .i64 0, .int .i64 0, .int .i64 0, .slice none 0 0, .int .i64 0, .int .i64 0] KA.out (by kernel_rfl) rfl (by first | rfl | (simp [Value.oneCell']; done)) ?_
                    replace KB : Hid (Blk (Wb.setRow pa #[.int .i64 la1.task, .int .i64 la1.n, .int .i64 la1.sn, .slice h1.1 la1.ws.length h1.2, .int .i64 la1.begun, .int .i64 la1.over]) _ _ _) := Lib.hid (Blk.setRow KB.out HNP.out.symm)
                    replace HBB : Hid (Below w9.heap.size w9 (Wb.setRow pa #[.int .i64 la1.task, .int .i64 la1.n, .int .i64 la1.sn, .slice h1.1 la1.ws.length h1.2, .int .i64 la1.begun, .int .i64 la1.over])) := Lib.hid (below_setRow HBB.out HLKA.out _)
                    replace KA : Hid (Blk (Wb.setRow pa #[.int .i64 la1.task, .int .i64 la1.n, .int .i64 la1.sn, .slice h1.1 la1.ws.length h1.2, .int .i64 la1.begun, .int .i64 la1.over]) pa #[.int .i64 la1.task, .int .i64 la1.n, .int .i64 la1.sn, .slice h1.1 la1.ws.length h1.2, .int .i64 la1.begun, .int .i64 la1.over] 73) := Lib.hid (Blk.setRow_self KA.out)
                    clear hHeld
                    refine hK.out _ _ (HBB.out) (fun hHeld => ?_)
                    clear hK K
                    generalize Wb.setRow pa #[.int .i64 la1.task, .int .i64 la1.n, .int .i64 la1.sn, .slice h1.1 la1.ws.length h1.2, .int .i64 la1.begun, .int .i64 la1.over] = Ws1 at *
                    refine wpAnyH_ready (rs := [17]) (by kernel_rfl) (by simp) (AllReadyH.cons (o := { dst := none, op := Op.store 73 (Operand.tmp 12) (Operand.tmp 84), type := 0, pos := "outright.go:297", after := #[{ on := 15, ground := Ground.data }, { on := 13, ground := Ground.data }, { on := 16, ground := Ground.chain }, { on := 0, ground := Ground.phase }, { on := 1, ground := Ground.phase }, { on := 2, ground := Ground.phase }, { on := 3, ground := Ground.phase }, { on := 4, ground := Ground.phase }, { on := 5, ground := Ground.phase }, { on := 6, ground := Ground.phase }, { on := 7, ground := Ground.phase }, { on := 8, ground := Ground.phase }, { on := 9, ground := Ground.phase }, { on := 10, ground := Ground.phase }, { on := 11, ground := Ground.phase }, { on := 12, ground := Ground.phase }, { on := 13, ground := Ground.phase }, { on := 14, ground := Ground.phase }, { on := 15, ground := Ground.phase }, { on := 16, ground := Ground.phase }], guard := none }) rfl (fun K hK => ?_) AllReadyH.nil)
                    refine wp_store_row 73 (.tmp 12) (.tmp 84) rfl pb #[.int .i64 la2.task, .int .i64 la2.n, .int .i64 la2.sn, .slice h2.1 la2.ws.length h2.2, .int .i64 la2.begun, .int .i64 la2.over] rfl rfl 73 #[.int .i64 0, .int .i64 0, .int .i64 0, .slice none 0 0, .int .i64 0, .int .i64 0] KB.out (by kernel_rfl) rfl (by first | rfl | (simp [Value.oneCell']; done)) ?_
                    replace KA : Hid (Blk (Ws1.setRow pb #[.int .i64 la2.task, .int .i64 la2.n, .int .i64 la2.sn, .slice h2.1 la2.ws.length h2.2, .int .i64 la2.begun, .int .i64 la2.over]) _ _ _) := Lib.hid (Blk.setRow KA.out HNP.out)
                    replace HBB : Hid (Below w9.heap.size w9 (Ws1.setRow pb #[.int .i64 la2.task, .int .i64 la2.n, .int .i64 la2.sn, .slice h2.1 la2.ws.length h2.2, .int .i64 la2.begun, .int .i64 la2.over])) := Lib.hid (below_setRow HBB.out HLKB.out _)
                    replace KB : Hid (Blk (Ws1.setRow pb #[.int .i64 la2.task, .int .i64 la2.n, .int .i64 la2.sn, .slice h2.1 la2.ws.length h2.2, .int .i64 la2.begun, .int .i64 la2.over]) pb #[.int .i64 la2.task, .int .i64 la2.n, .int .i64 la2.sn, .slice h2.1 la2.ws.length h2.2, .int .i64 la2.begun, .int .i64 la2.over] 73) := Lib.hid (Blk.setRow_self KB.out)
                    clear hHeld
                    refine hK.out _ _ (HBB.out) (fun hHeld => ?_)
                    clear hK K
                    generalize Ws1.setRow pb #[.int .i64 la2.task, .int .i64 la2.n, .int .i64 la2.sn, .slice h2.1 la2.ws.length h2.2, .int .i64 la2.begun, .int .i64 la2.over] = Ws2 at *
                    refine wpAnyH_done (by kernel_rfl) (NoPanic.normal ?_) _
                    clear hHeld
                    go_wp2
                    go_meet
                    exact ⟨pa, pb, rfl, rfl, KA.out, KB.out, HBB.out⟩
                  · go_simp
                    have hb : Below Wd.heap.size Wd (Wd.alloc (.cells #[.int .i64 0, .int .i64 0, .int .i64 0, .slice none 0 0, .int .i64 0, .int .i64 0] 73)) := (Below.refl _ _).alloc (Nat.le_refl _) _
                    have KB : Hid (Blk (Wd.alloc (.cells #[.int .i64 0, .int .i64 0, .int .i64 0, .slice none 0 0, .int .i64 0, .int .i64 0] 73)) Wd.heap.size #[.int .i64 0, .int .i64 0, .int .i64 0, .slice none 0 0, .int .i64 0, .int .i64 0] 73) := Lib.hid (Blk.new Wd _ 73)
                    have HLKB : Hid (w9.heap.size ≤ Wd.heap.size) := Lib.hid HBB.out.size
                    replace HBB := Lib.hid (stepB HBB.out hb)
                    clear hb hHeld
                    refine hK.out _ _ (HBB.out) (fun hHeld => ?_)
                    clear hK K
                    generalize Wd.alloc (.cells #[.int .i64 0, .int .i64 0, .int .i64 0, .slice none 0 0, .int .i64 0, .int .i64 0] 73) = Wa at *
                    obtain ⟨pb, hpp⟩ : ∃ z, Wd.heap.size = z := ⟨_, rfl⟩
                    rw [hpp] at KB HLKB ⊢
                    clear hpp
                    refine wpAnyH_ready (rs := [14]) (by kernel_rfl) (by simp) (AllReadyH.cons (o := { dst := some 11, op := Op.alloc 73, type := 0, pos := "outright.go:297", after := #[], guard := none }) rfl (fun K hK => ?_) AllReadyH.nil)
                    go_simp
                    have hb : Below Wa.heap.size Wa (Wa.alloc (.cells #[.int .i64 0, .int .i64 0, .int .i64 0, .slice none 0 0, .int .i64 0, .int .i64 0] 73)) := (Below.refl _ _).alloc (Nat.le_refl _) _
                    have HNP := Lib.hid (show pb ≠ Wa.heap.size from by have := KB.out.lt; omega)
                    replace KB := Lib.hid (KB.out.later hb)
                    have KA : Hid (Blk (Wa.alloc (.cells #[.int .i64 0, .int .i64 0, .int .i64 0, .slice none 0 0, .int .i64 0, .int .i64 0] 73)) Wa.heap.size #[.int .i64 0, .int .i64 0, .int .i64 0, .slice none 0 0, .int .i64 0, .int .i64 0] 73) := Lib.hid (Blk.new Wa _ 73)
                    have HLKA : Hid (w9.heap.size ≤ Wa.heap.size) := Lib.hid HBB.out.size
                    replace HBB := Lib.hid (stepB HBB.out hb)
                    clear hb hHeld
                    refine hK.out _ _ (HBB.out) (fun hHeld => ?_)
                    clear hK K
                    generalize Wa.alloc (.cells #[.int .i64 0, .int .i64 0, .int .i64 0, .slice none 0 0, .int .i64 0, .int .i64 0] 73) = Wb at *
                    obtain ⟨pa, hpp⟩ : ∃ z, Wa.heap.size = z := ⟨_, rfl⟩
                    rw [hpp] at KA HLKA HNP ⊢
                    clear hpp
                    refine wpAnyH_ready (rs := [16]) (by kernel_rfl) (by simp) (AllReadyH.cons (o := { dst := none, op := Op.store 73 (Operand.tmp 11) (Operand.tmp 77), type := 0, pos := "outright.go:297", after := #[{ on := 14, ground := Ground.data }, { on := 6, ground := Ground.data }, { on := 0, ground := Ground.phase }, { on := 1, ground := Ground.phase }, { on := 2, ground := Ground.phase }, { on := 3, ground := Ground.phase }, { on := 4, ground := Ground.phase }, { on := 5, ground := Ground.phase }, { on := 6, ground := Ground.phase }, { on := 7, ground := Ground.textOnly Departure.lateStores }, { on := 8, ground := Ground.textOnly Departure.lateStores }, { on := 9, ground := Ground.textOnly Departure.lateStores }, { on := 10, ground := Ground.textOnly Departure.lateStores }, { on := 11, ground := Ground.textOnly Departure.lateStores }, { on := 12, ground := Ground.textOnly Departure.lateStores }, { on := 13, ground := Ground.textOnly Departure.lateStores }, { on := 14, ground := Ground.phase }, { on := 15, ground := Ground.phase }], guard := none }) rfl (fun K hK => ?_) AllReadyH.nil)
                    refine wp_store_row 73 (.tmp 11) (.tmp 77) rfl pa #[.int .i64 la1.task, .int .i64 la1.n, .int .i64 la1.sn, .slice h1.1 la1.ws.length h1.2, .int .i64 la1.begun, .int .i64 la1.over] rfl rfl 73 #[.int .i64 0, .int .i64 0, .int .i64 0, .slice none 0 0, .int .i64 0, .int .i64 0] KA.out (by kernel_rfl) rfl (by first | rfl | (simp [Value.oneCell']; done)) ?_
                    replace KB : Hid (Blk (Wb.setRow pa #[.int .i64 la1.task, .int .i64 la1.n, .int .i64 la1.sn, .slice h1.1 la1.ws.length h1.2, .int .i64 la1.begun, .int .i64 la1.over]) _ _ _) := Lib.hid (Blk.setRow KB.out HNP.out)
                    replace HBB : Hid (Below w9.heap.size w9 (Wb.setRow pa #[.int .i64 la1.task, .int .i64 la1.n, .int .i64 la1.sn, .slice h1.1 la1.ws.length h1.2, .int .i64 la1.begun, .int .i64 la1.over])) := Lib.hid (below_setRow HBB.out HLKA.out _)
                    replace KA : Hid (Blk (Wb.setRow pa #[.int .i64 la1.task, .int .i64 la1.n, .int .i64 la1.sn, .slice h1.1 la1.ws.length h1.2, .int .i64 la1.begun, .int .i64 la1.over]) pa #[.int .i64 la1.task, .int .i64 la1.n, .int .i64 la1.sn, .slice h1.1 la1.ws.length h1.2, .int .i64 la1.begun, .int .i64 la1.over] 73) := Lib.hid (Blk.setRow_self KA.out)
                    clear hHeld
                    refine hK.out _ _ (HBB.out) (fun hHeld => ?_)
                    clear hK K
                    generalize Wb.setRow pa #[.int .i64 la1.task, .int .i64 la1.n, .int .i64 la1.sn, .slice h1.1 la1.ws.length h1.2, .int .i64 la1.begun, .int .i64 la1.over] = Ws1 at *
                    refine wpAnyH_ready (rs := [17]) (by kernel_rfl) (by simp) (AllReadyH.cons (o := { dst := none, op := Op.store 73 (Operand.tmp 12) (Operand.tmp 84), type := 0, pos := "outright.go:297", after := #[{ on := 15, ground := Ground.data }, { on := 13, ground := Ground.data }, { on := 16, ground := Ground.chain }, { on := 0, ground := Ground.phase }, { on := 1, ground := Ground.phase }, { on := 2, ground := Ground.phase }, { on := 3, ground := Ground.phase }, { on := 4, ground := Ground.phase }, { on := 5, ground := Ground.phase }, { on := 6, ground := Ground.phase }, { on := 7, ground := Ground.phase }, { on := 8, ground := Ground.phase }, { on := 9, ground := Ground.phase }, { on := 10, ground := Ground.phase }, { on := 11, ground := Ground.phase }, { on := 12, ground := Ground.phase }, { on := 13, ground := Ground.phase }, { on := 14, ground := Ground.phase }, { on := 15, ground := Ground.phase }, { on := 16, ground := Ground.phase }], guard := none }) rfl (fun K hK => ?_) AllReadyH.nil)
                    refine wp_store_row 73 (.tmp 12) (.tmp 84) rfl pb #[.int .i64 la2.task, .int .i64 la2.n, .int .i64 la2.sn, .slice h2.1 la2.ws.length h2.2, .int .i64 la2.begun, .int .i64 la2.over] rfl rfl 73 #[.int .i64 0, .int .i64 0, .int .i64 0, .slice none 0 0, .int .i64 0, .int .i64 0] KB.out (by kernel_rfl) rfl (by first | rfl | (simp [Value.oneCell']; done)) ?_
                    replace KA : Hid (Blk (Ws1.setRow pb #[.int .i64 la2.task, .int .i64 la2.n, .int .i64 la2.sn, .slice h2.1 la2.ws.length h2.2, .int .i64 la2.begun, .int .i64 la2.over]) _ _ _) := Lib.hid (Blk.setRow KA.out HNP.out.symm)
                    replace HBB : Hid (Below w9.heap.size w9 (Ws1.setRow pb #[.int .i64 la2.task, .int .i64 la2.n, .int .i64 la2.sn, .slice h2.1 la2.ws.length h2.2, .int .i64 la2.begun, .int .i64 la2.over])) := Lib.hid (below_setRow HBB.out HLKB.out _)
                    replace KB : Hid (Blk (Ws1.setRow pb #[.int .i64 la2.task, .int .i64 la2.n, .int .i64 la2.sn, .slice h2.1 la2.ws.length h2.2, .int .i64 la2.begun, .int .i64 la2.over]) pb #[.int .i64 la2.task, .int .i64 la2.n, .int .i64 la2.sn, .slice h2.1 la2.ws.length h2.2, .int .i64 la2.begun, .int .i64 la2.over] 73) := Lib.hid (Blk.setRow_self KB.out)
                    clear hHeld
                    refine hK.out _ _ (HBB.out) (fun hHeld => ?_)
                    clear hK K
                    generalize Ws1.setRow pb #[.int .i64 la2.task, .int .i64 la2.n, .int .i64 la2.sn, .slice h2.1 la2.ws.length h2.2, .int .i64 la2.begun, .int .i64 la2.over] = Ws2 at *
                    refine wpAnyH_done (by kernel_rfl) (NoPanic.normal ?_) _
                    clear hHeld
                    go_wp2
                    go_meet
                    exact ⟨pa, pb, rfl, rfl, KA.out, KB.out, HBB.out⟩
                case rest =>
                obtain ⟨pa, pb, rfl, rfl, ka, kb, hb⟩ := hcut
                have KA := Lib.hid ka
                have KB := Lib.hid kb
                have HBC := Lib.hid hb
                clear ka kb hb HBB HCA i1 i2
                have a4 := KA.out.cell 4
                have a5 := KA.out.cell 5
                have b4 := KB.out.cell 4
                have b5 := KB.out.cell 5
                simp only [List.getElem?_toArray, List.getElem?_cons_zero, List.getElem?_cons_succ] at a4 a5 b4 b5
                obtain ⟨wx, hwx⟩ : ∃ z : World, wc = z := ⟨_, rfl⟩
                rw [hwx] at KA KB HBC a4 a5 b4 b5 ⊢
                clear hwx
                go_upto_region 18 with (fail)
                go_cut [106] (fun s106 W => ∃ bl : Bool, s106 = .bool bl ∧ (bl = false → la1.over ≠ 0 ∧ la2.over ≠ 0 ∧ la2.begun ≤ la1.over ∧ la1.begun ≤ la2.over) ∧ wx = W)
                case first =>
                  by_cases e1 : la1.over = 0
                  · have g1 : (la1.over == 0) = true := by rw [e1]; rfl
                    clear e1
                    go_wp2
                    go_meet
                    exact ⟨true, rfl, fun h => (by cases h), rfl⟩
                  have g1 : (la1.over == 0) = false := by rw [beq_eq_false_iff_ne]; exact e1
                  by_cases e2 : la2.over = 0
                  · have g2 : (la2.over == 0) = true := by rw [e2]; rfl
                    clear e1 e2
                    go_wp2
                    go_meet
                    exact ⟨true, rfl, fun h => (by cases h), rfl⟩
                  have g2 : (la2.over == 0) = false := by rw [beq_eq_false_iff_ne]; exact e2
                  by_cases e3 : la1.begun > la2.over
                  · have g3 : decide (la1.begun > la2.over) = true := decide_eq_true e3
                    have g3' : decide (la2.over < la1.begun) = true := decide_eq_true e3
                    clear e1 e2 e3
                    go_wp2
                    go_meet
                    exact ⟨true, rfl, fun h => (by cases h), rfl⟩
                  have g3 : decide (la1.begun > la2.over) = false := decide_eq_false e3
                  have g3' : decide (la2.over < la1.begun) = false := decide_eq_false e3
                  by_cases e4 : la2.begun > la1.over
                  · have g4 : decide (la2.begun > la1.over) = true := decide_eq_true e4
                    have g4' : decide (la1.over < la2.begun) = true := decide_eq_true e4
                    clear e1 e2 e3 e4
                    go_wp2
                    go_meet
                    exact ⟨true, rfl, fun h => (by cases h), rfl⟩
                  have g4 : decide (la2.begun > la1.over) = false := decide_eq_false e4
                  have g4' : decide (la1.over < la2.begun) = false := decide_eq_false e4
                  have HALL : Hid (la1.over ≠ 0 ∧ la2.over ≠ 0 ∧ la2.begun ≤ la1.over ∧ la1.begun ≤ la2.over) := Lib.hid ⟨e1, e2, Int.not_lt.1 e4, Int.not_lt.1 e3⟩
                  clear e1 e2 e3 e4
                  go_wp2
                  go_meet
                  exact ⟨false, rfl, fun _ => HALL.out, rfl⟩
                case rest =>
                obtain ⟨bl, rfl, hbl, rfl⟩ := hcut
                have HBL := Lib.hid hbl
                clear hbl a4 a5 b4 b5
                cases bl with
                | true =>
                  go_wp2
                  exact ⟨⟨b + 1, HLB.out, by go_num, HBC.out⟩, ms_n b a HLB.out⟩
                | false =>
                  have HNO : Hid (∀ k, ¬ (wrote g a k ∧ wrote g b k)) := Lib.hid (by
                    obtain ⟨e1, e2, e3, e4⟩ := HBL.out rfl
                    exact HCC.out e1 e2 e3 e4)
                  clear HBL HCC
                  go_upto_region 19 with (fail)
                  obtain ⟨ma, hma⟩ : ∃ z, la1.ws.length = z := ⟨_, rfl⟩
                  obtain ⟨mb, hmb⟩ : ∃ z, la2.ws.length = z := ⟨_, rfl⟩
                  have HMA := Lib.hid hma
                  have HMB := Lib.hid hmb
                  rw [hma] at KA HRA HWA
                  rw [hmb] at KB HRB HWB
                  clear hma hmb
                  go_wp2
                  go_loopw [13] (fun s13 W => ∃ i : Nat, i ≤ ma ∧ s13 = .int .i64 i ∧ Below wx.heap.size wx W) (fun s13 _ => ma - (intOf s13).toNat)
                  case atStart => exact ⟨0, Nat.zero_le _, rfl, Below.refl _ _⟩
                  case round =>
                    obtain ⟨i, hi, rfl, hb⟩ := hrel
                    have HBI := Lib.hid hb
                    clear hb
                    have a3 := (KA.out.later HBI.out).cell 3
                    simp only [List.getElem?_toArray, List.getElem?_cons_zero, List.getElem?_cons_succ] at a3
                    by_cases hli : i < ma
                    · have d4 : decide ((i : Int) < (ma : Int)) = true := decide_eq_true (Int.ofNat_lt.2 hli)
                      have d4' : decide (i < ma) = true := decide_eq_true hli
                      obtain ⟨wki, wki2⟩ := wk_1000 i (by have := HWA.out; omega)
                      have HII := Lib.hid hli
                      clear hli hi
                      go_upto_region 22 with (fail)
                      clear a3 d4 d4'
                      go_wp2
                      go_loopw [14] (fun s14 W => ∃ j : Nat, j ≤ mb ∧ s14 = .int .i64 j ∧ Below wx.heap.size wx W) (fun s14 _ => mb - (intOf s14).toNat)
                      case atStart => exact ⟨0, Nat.zero_le _, rfl, HBI.out⟩
                      case round =>
                        obtain ⟨j, hj, rfl, hb⟩ := hrel
                        have HBJ := Lib.hid hb
                        clear hb HBI
                        have b3 := (KB.out.later HBJ.out).cell 3
                        have a3 := (KA.out.later HBJ.out).cell 3
                        simp only [List.getElem?_toArray, List.getElem?_cons_zero, List.getElem?_cons_succ] at b3 a3
                        by_cases hlj : j < mb
                        · have d5 : decide ((j : Int) < (mb : Int)) = true := decide_eq_true (Int.ofNat_lt.2 hlj)
                          have d5' : decide (j < mb) = true := decide_eq_true hlj
                          obtain ⟨wkj, wkj2⟩ := wk_1000 j (by have := HWB.out; omega)
                          have hb9 : Below w9.heap.size w9 wr := stepB HBC.out HBJ.out
                          have hra := ((HRA.out.later hb9).rsl fcE_len)
                          have hrb := ((HRB.out.later hb9).rsl fcE_len)
                          obtain ⟨ga, oa, hAa, _, hca⟩ := hra.2 (Nat.lt_of_le_of_lt (Nat.zero_le _) HII.out)
                          obtain ⟨gb, ob, hAb, _, hcb⟩ := hrb.2 (Nat.lt_of_le_of_lt (Nat.zero_le _) hlj)
                          have hia : i < la1.ws.length := by rw [HMA.out]; exact HII.out
                          have hjb : j < la2.ws.length := by rw [HMB.out]; exact hlj
                          have hfa : la1.ws[i]? = some la1.ws[i] := List.getElem?_eq_getElem hia
                          have hfb : la2.ws[j]? = some la2.ws[j] := List.getElem?_eq_getElem hjb
                          have x1 := hca i _ hfa 1 (by decide)
                          have x2 := hcb j _ hfb 1 (by decide)
                          have hne : ¬ (la1.ws[i]).key = (la2.ws[j]).key := fun e => HNO.out _ (HKA.out i j _ _ hfa hfb e)
                          have e9 := tl_ne hne
                          generalize la1.ws[i] = fa at *
                          generalize la2.ws[j] = fb at *
                          unfold fcE at x1 x2
                          simp only [List.getElem?_cons_zero, List.getElem?_cons_succ] at x1 x2
                          rw [hAa] at a3
                          rw [hAb] at b3
                          have j1 := idx58 ga oa ma h1.2 i (i : Int) rfl HII.out
                          have j2 := idx58 gb ob mb h2.2 j (j : Int) rfl hlj
                          have HJJ := Lib.hid hlj
                          clear hb9 hra hrb hca hcb hia hjb hfa hfb hne hAa hAb hlj hj
                          go_wp2
                          go_quiet (fail)
                          go_wp2
                          exact ⟨⟨j + 1, HJJ.out, by go_num, below_drewN HBJ.out _⟩, ms_n j mb HJJ.out⟩
                        · obtain rfl : mb = j := by omega
                          have d5 : decide ((mb : Int) < (mb : Int)) = false := decide_eq_false (Int.lt_irrefl _)
                          clear hlj hj
                          go_wp2
                          exact ⟨⟨i + 1, HII.out, by go_num, HBJ.out⟩, ms_n i ma HII.out⟩
                    · obtain rfl : ma = i := by omega
                      have d4 : decide ((ma : Int) < (ma : Int)) = false := decide_eq_false (Int.lt_irrefl _)
                      clear hli hi
                      go_wp2
                      exact ⟨⟨b + 1, HLB.out, by go_num, stepB HBC.out HBI.out⟩, ms_n b a HLB.out⟩
              · obtain rfl : a = b := by omega
                have d3 : decide ((a : Int) < (a : Int)) = false := decide_eq_false (Int.lt_irrefl _)
                clear hlb hbl
                go_wp2
                exact ⟨⟨a + 1, HLA.out, by go_num, HBB.out⟩, ms_n a nl HLA.out⟩
          · obtain rfl : nl = a := by omega
            have d2 : decide ((nl : Int) < (nl : Int)) = false := decide_eq_false (Int.lt_irrefl _)
            clear hla ha
            go_wp2
            go_ret
            exact ⟨rfl, stepB HBW.out HBA.out⟩
end Go.Proofs.Ytoinjnocopejjaa.modelFirst
