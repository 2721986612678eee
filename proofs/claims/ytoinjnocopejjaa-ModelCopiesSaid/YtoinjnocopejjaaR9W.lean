/- The walk of ModelCopies. -/
import Derived.Test.YtoinjnocopejjaaLG
import Derived.Test.YtoinjnocopejjaaWO
import Derived.Test.YtoinjnocopejjaaOC
import Derived.Test.YtoinjnocopejjaaSA
import Derived.Test.YtoinjnocopejjaaMO2
import Derived.Test.YtoinjnocopejjaaNZ
import Derived.Test.YtoinjnocopejjaaSM
import Derived.Test.YtoinjnocopejjaaAR
import Derived.StillTailTactics
namespace Go.Proofs.Ytoinjnocopejjaa.modelCopies
open Go.ChangeShapes Go.WideShapes Go.ChangeAt Go.RowKit Go.Maps
set_option linter.unusedVariables false
set_option linter.unusedSimpArgs false
set_option maxRecDepth 100000 in
set_option maxHeartbeats 1600000 in
theorem walk (c : Conf) (A : Option Addr) (n cc : Nat) (L : List Tn) (A2 : Option Addr) (n2 cc2 : Nat) (L2 : List Tn) (w : World) (hS : RSl tnE 8 w A n L) (hz : ∀ r ∈ L, TnOk r) (hS2 : RSl tnE 8 w A2 n2 L2) (hz2 : ∀ r ∈ L2, TnOk r) : Calls Try.prog 9 #[c.val, .slice A n cc, .slice A2 n2 cc2] w fun e w' => e = .returned (.bool true) ∧ Below w.heap.size w w' := by
  have HS : Hid (∀ W, Below w.heap.size w W → RSl tnE 8 W A n L) := Lib.hid (fun W hb => hS.later hb)
  have HS2 : Hid (∀ W, Below w.heap.size w W → RSl tnE 8 W A2 n2 L2) := Lib.hid (fun W hb => hS2.later hb)
  have HZ := Lib.hid hz
  have HZ2 := Lib.hid hz2
  have HLN : Hid (L.length = n) := Lib.hid hS.1
  have HLN2 : Hid (L2.length = n2) := Lib.hid hS2.1
  have HB : Hid (Below w.heap.size w (w.alloc (.cells #[.int .i64 c.ta, .int .i64 c.ac, .int .i64 c.ke, .int .i64 c.de, .int .i64 c.ts, .int .i64 c.kl, .int .i64 c.vl, .int .i64 c.fa] 45))) := Lib.hid ((Below.refl _ _).alloc (Nat.le_refl _) _)
  have KC : Hid (Blk (w.alloc (.cells #[.int .i64 c.ta, .int .i64 c.ac, .int .i64 c.ke, .int .i64 c.de, .int .i64 c.ts, .int .i64 c.kl, .int .i64 c.vl, .int .i64 c.fa] 45)) w.heap.size #[.int .i64 c.ta, .int .i64 c.ac, .int .i64 c.ke, .int .i64 c.de, .int .i64 c.ts, .int .i64 c.kl, .int .i64 c.vl, .int .i64 c.fa] 45) := Lib.hid (Blk.new w _ 45)
  clear hS hz hS2 hz2
  show Calls Try.prog 9 _ w _
  unfold Conf.val
  go_enter Try.func9, Try.ntmps9
  go_upto_region 1 with (fail)
  generalize (w.alloc (.cells #[.int .i64 c.ta, .int .i64 c.ac, .int .i64 c.ke, .int .i64 c.de, .int .i64 c.ts, .int .i64 c.kl, .int .i64 c.vl, .int .i64 c.fa] 45)) = w1 at *
  go_wp2_with fail
  refine (works_any _).mono ?_
  rintro e w2 ⟨rfl, hb⟩
  replace HB := Lib.hid (stepB HB.out hb)
  replace KC := Lib.hid (KC.out.later hb)
  clear hb
  go_wp2_with fail
  refine (large_any A n cc L _ (HS.out _ HB.out)).mono ?_
  rintro e w3 ⟨rfl, hb⟩
  replace HB := Lib.hid (stepB HB.out hb)
  replace KC := Lib.hid (KC.out.later hb)
  clear hb
  obtain ⟨b, hlg⟩ : ∃ b, decide (12000 ≤ lgT L) = b := ⟨_, rfl⟩
  rw [hlg]
  cases b with
  | true =>
    go_wp2_with fail
    refine (works_any _).mono ?_
    rintro e w4 ⟨rfl, hb⟩
    replace HB := Lib.hid (stepB HB.out hb)
    replace KC := Lib.hid (KC.out.later hb)
    clear hb
    go_wp2
    go_ret
    exact ⟨rfl, HB.out⟩
  | false =>
    have HLG : Hid (L.length < 200) := Lib.hid (lg_len (by have := of_decide_eq_false hlg; omega))
    clear hlg
    go_wp2_with fail
    refine (large_any A2 n2 cc2 L2 _ (HS2.out _ HB.out)).mono ?_
    rintro e w3 ⟨rfl, hb⟩
    replace HB := Lib.hid (stepB HB.out hb)
    replace KC := Lib.hid (KC.out.later hb)
    clear hb
    obtain ⟨b, hlg⟩ : ∃ b, decide (12000 ≤ lgT L2) = b := ⟨_, rfl⟩
    rw [hlg]
    cases b with
    | true =>
      go_wp2_with fail
      refine (works_any _).mono ?_
      rintro e w4 ⟨rfl, hb⟩
      replace HB := Lib.hid (stepB HB.out hb)
      replace KC := Lib.hid (KC.out.later hb)
      clear hb
      go_wp2
      go_ret
      exact ⟨rfl, HB.out⟩
    | false =>
      have HLG2 : Hid (L2.length < 200) := Lib.hid (lg_len (by have := of_decide_eq_false hlg; omega))
      clear hlg
      have z0 := KC.out.cell 0
      have z1 := KC.out.cell 1
      have z2 := KC.out.cell 2
      have z3 := KC.out.cell 3
      have z4 := KC.out.cell 4
      have z5 := KC.out.cell 5
      have z6 := KC.out.cell 6
      have z7 := KC.out.cell 7
      simp only [List.getElem?_toArray, List.getElem?_cons_zero, List.getElem?_cons_succ] at z0 z1 z2 z3 z4 z5 z6 z7
      go_wp2_with fail
      refine (new_any c _).mono ?_
      rintro e w4 ⟨hb, hnew⟩
      have HBP := Lib.hid HB.out.size
      replace HB := Lib.hid (stepB HB.out hb)
      replace KC := Lib.hid (KC.out.later hb)
      have hnew2 := hnew.symm
      clear hnew z0 z1 z2 z3 z4 z5 z6 z7
      rcases hnew2 with ⟨hmay, rfl⟩ | ⟨hmay, p1, S1, rfl, hm1⟩
      · clear hb hmay
        go_wp2
        go_ret
        exact ⟨rfl, HB.out⟩
      have HQ1 : Hid (MQ_ w4 w.heap.size (ownT w3 (fun _ => 0) p1) p1 (newM c)) := Lib.hid (MQ_.new hm1 HBP.out)
      have HB4 := Lib.hid HB.out
      clear hb hmay hm1 HBP KC HB
      obtain ⟨own, hown⟩ : ∃ o, ownT w3 (fun _ => 0) p1 = o := ⟨_, rfl⟩
      rw [hown] at HQ1
      clear hown
      go_wp2
      go_loopw [9] (fun i W => ∃ (k : Nat) (own : Nat → Nat), k ≤ n ∧ i = .int .i64 k ∧ MQ_ W w.heap.size own p1 (runM (newM c) (L.take k)) ∧ Below w.heap.size w W) (fun i _ => n - (intOf i).toNat)
      case atStart => exact ⟨0, own, Nat.zero_le _, rfl, HQ1.out, HB4.out⟩
      case round =>
        obtain ⟨k, own, hk, rfl, hq1, hb⟩ := hrel
        have HN2 : Hid (n < 200) := Lib.hid (by rw [← HLN.out]; exact HLG.out)
        clear HQ1 HB4
        have HQ1 := Lib.hid hq1
        have HBW := Lib.hid hb
        clear hq1 hb
        have HT1 : Hid ((runM (newM c) (L.take k)).txns.length ≤ 1000) := Lib.hid (runM_tx c L k (by have := HLG.out; omega))
        by_cases hlt : k < n
        · have d2 : decide ((k : Int) < (n : Int)) = true := decide_eq_true (by omega)
          have wk : IntKind.i64.wrap ((k : Int) + 1) = (k : Int) + 1 := IntWalk.i64_in _ (by have := HN2.out; omega)
          have wk2 : wrap64 ((k : Int) + 1) = (k : Int) + 1 := by have := HN2.out; unfold wrap64; omega
          obtain ⟨g, off, rfl, hg, hc⟩ := (HS.out wr HBW.out).2 (by omega)
          have i1 := idx55 g off n cc k (k : Int) rfl hlt
          have hrk : L[k]? = some (L[k]'(by rw [HLN.out]; exact hlt)) := List.getElem?_eq_getElem _
          have hok := HZ.out _ (List.mem_of_getElem? hrk)
          generalize L[k]'(by rw [HLN.out]; exact hlt) = r at *
          obtain ⟨ta, kn, tx, ke, en, va, li, eg⟩ := r
          have HTK := Lib.hid (runM_take (newM c) L k _ hrk)
          have HRK := Lib.hid hrk
          have HCO := Lib.hid hok.2
          have hcell : ∀ W, Below w.heap.size w W → W.cell? ⟨g, off + k * 8, none⟩ = some (.int .i64 ta) ∧ W.cell? ⟨g, off + k * 8 + 1, none⟩ = some (.int .u8 kn) ∧ W.cell? ⟨g, off + k * 8 + 1 + 1, none⟩ = some (.int .i64 tx) ∧ W.cell? ⟨g, off + k * 8 + 1 + 2, none⟩ = some (.string ke) ∧ W.cell? ⟨g, off + k * 8 + 1 + 3, none⟩ = some (.string en) ∧ W.cell? ⟨g, off + k * 8 + 1 + 4, none⟩ = some (.string va) ∧ W.cell? ⟨g, off + k * 8 + 1 + 5, none⟩ = some (.int .i64 li) ∧ W.cell? ⟨g, off + k * 8 + 1 + 6, none⟩ = some (.int .u8 eg) := fun W hW => by
            obtain ⟨g2, off2, e, hg2, hc2⟩ := (HS.out W hW).2 (by omega)
            cases e
            exact ⟨hc2 k _ hrk 0 (by decide), hc2 k _ hrk 1 (by decide), hc2 k _ hrk 2 (by decide), hc2 k _ hrk 3 (by decide), hc2 k _ hrk 4 (by decide), hc2 k _ hrk 5 (by decide), hc2 k _ hrk 6 (by decide), hc2 k _ hrk 7 (by decide)⟩
          have HCE := Lib.hid hcell
          obtain ⟨y0, y1, y2, y3, y4, y5, y6, y7⟩ := hcell wr HBW.out
          clear hc hg hrk hok hcell
          have HDO := Lib.hid (mq_do (HQ1.out.later (Below.drew (Below.refl _ _))) ta tx li ke en va kn eg (by have := HT1.out; omega) HCO.out)
          have e1 : (doM (runM (newM c) (L.take k)) ta (kn, tx, ke, en, va, li, eg)).1 = runM (newM c) (L.take (k + 1)) := HTK.out.symm
          rw [e1] at HDO
          have HLT := Lib.hid hlt
          clear e1 hlt
          go_upto_region 9 with (fail)
          clear y0 y1 y2 y3 y4 y5 y6 y7
          refine wp_region_noPanic ?_
          obtain ⟨W0, rfl⟩ : ∃ W0 : World, W0 = wr := ⟨_, rfl⟩
          refine wp_region_held_drew (S := fun W => Below w.heap.size w W) (by kernel_rfl) (Below.drew HBW.out) (fun hHeld => ?_)
          replace HBW : Hid (Below w.heap.size w (World.drew W0)) := Lib.hid (Below.drew HBW.out)
          generalize World.drew W0 = Wd at *
          refine wpAnyH_take (i := 0) (oi := { dst := some 39, op := Op.move (Operand.tmp 7), type := 22, pos := "outright.go:405", after := #[], guard := none }) (v := ?_) rfl (by kernel_rfl) (by kernel_rfl) (by kernel_rfl) (fun _ _ _ h => h) (Or.inl ⟨by rfl, ?_⟩) (by assumption) ?_
          rotate_left
          · intro W hSw
            clear hSw
            go_simp
            try with_reducible rfl
          simp only [Act.put, List.setIfInBounds_toArray, List.set_cons_zero, List.set_cons_succ]
          refine wpAnyH_take (i := 1) (oi := { dst := some 40, op := Op.move (Operand.tmp 1), type := 55, pos := "outright.go:405", after := #[], guard := none }) (v := ?_) rfl (by kernel_rfl) (by kernel_rfl) (by kernel_rfl) (fun _ _ _ h => h) (Or.inl ⟨by rfl, ?_⟩) (by assumption) ?_
          rotate_left
          · intro W hSw
            clear hSw
            go_simp
            try with_reducible rfl
          simp only [Act.put, List.setIfInBounds_toArray, List.set_cons_zero, List.set_cons_succ]
          refine wpAnyH_take (i := 2) (oi := { dst := some 41, op := Op.move (Operand.tmp 9), type := 3, pos := "outright.go:405", after := #[], guard := none }) (v := ?_) rfl (by kernel_rfl) (by kernel_rfl) (by kernel_rfl) (fun _ _ _ h => h) (Or.inl ⟨by rfl, ?_⟩) (by assumption) ?_
          rotate_left
          · intro W hSw
            clear hSw
            go_simp
            try with_reducible rfl
          simp only [Act.put, List.setIfInBounds_toArray, List.set_cons_zero, List.set_cons_succ]
          refine wpAnyH_take (i := 3) (oi := { dst := some 42, op := Op.indexAddr 55 (Operand.tmp 40) (Operand.tmp 41), type := 0, pos := "outright.go:405", after := #[{ on := 1, ground := Ground.data }, { on := 2, ground := Ground.data }], guard := none }) (v := ?_) rfl (by kernel_rfl) (by kernel_rfl) (by kernel_rfl) (fun _ _ _ h => h) (Or.inl ⟨by rfl, ?_⟩) (by assumption) ?_
          rotate_left
          · intro W hSw
            clear hSw
            go_simp
            try with_reducible rfl
          simp only [Act.put, List.setIfInBounds_toArray, List.set_cons_zero, List.set_cons_succ]
          refine wpAnyH_take (i := 4) (oi := { dst := some 43, op := Op.fieldAddr 63 (Operand.tmp 42) 0, type := 0, pos := "outright.go:405", after := #[{ on := 3, ground := Ground.data }], guard := none }) (v := ?_) rfl (by kernel_rfl) (by kernel_rfl) (by kernel_rfl) (fun _ _ _ h => h) (Or.inl ⟨by rfl, ?_⟩) (by assumption) ?_
          rotate_left
          · intro W hSw
            clear hSw
            go_simp
            try with_reducible rfl
          simp only [Act.put, List.setIfInBounds_toArray, List.set_cons_zero, List.set_cons_succ]
          refine wpAnyH_take (i := 5) (oi := { dst := some 44, op := Op.load 3 (Operand.tmp 43), type := 3, pos := "outright.go:405", after := #[{ on := 4, ground := Ground.data }], guard := none }) (v := ?_) rfl (by kernel_rfl) (by kernel_rfl) (by kernel_rfl) (fun _ _ _ h => h) (Or.inl ⟨by rfl, ?_⟩) (by assumption) ?_
          rotate_left
          · intro W hSw
            obtain ⟨y0, y1, y2, y3, y4, y5, y6, y7⟩ := HCE.out _ hSw
            clear hSw
            go_simp
            try with_reducible rfl
          simp only [Act.put, List.setIfInBounds_toArray, List.set_cons_zero, List.set_cons_succ]
          refine wpAnyH_take (i := 6) (oi := { dst := some 45, op := Op.move (Operand.tmp 1), type := 55, pos := "outright.go:405", after := #[], guard := none }) (v := ?_) rfl (by kernel_rfl) (by kernel_rfl) (by kernel_rfl) (fun _ _ _ h => h) (Or.inl ⟨by rfl, ?_⟩) (by assumption) ?_
          rotate_left
          · intro W hSw
            clear hSw
            go_simp
            try with_reducible rfl
          simp only [Act.put, List.setIfInBounds_toArray, List.set_cons_zero, List.set_cons_succ]
          refine wpAnyH_take (i := 7) (oi := { dst := some 46, op := Op.move (Operand.tmp 9), type := 3, pos := "outright.go:405", after := #[], guard := none }) (v := ?_) rfl (by kernel_rfl) (by kernel_rfl) (by kernel_rfl) (fun _ _ _ h => h) (Or.inl ⟨by rfl, ?_⟩) (by assumption) ?_
          rotate_left
          · intro W hSw
            clear hSw
            go_simp
            try with_reducible rfl
          simp only [Act.put, List.setIfInBounds_toArray, List.set_cons_zero, List.set_cons_succ]
          refine wpAnyH_take (i := 8) (oi := { dst := some 47, op := Op.indexAddr 55 (Operand.tmp 45) (Operand.tmp 46), type := 0, pos := "outright.go:405", after := #[{ on := 6, ground := Ground.data }, { on := 7, ground := Ground.data }], guard := none }) (v := ?_) rfl (by kernel_rfl) (by kernel_rfl) (by kernel_rfl) (fun _ _ _ h => h) (Or.inl ⟨by rfl, ?_⟩) (by assumption) ?_
          rotate_left
          · intro W hSw
            clear hSw
            go_simp
            try with_reducible rfl
          simp only [Act.put, List.setIfInBounds_toArray, List.set_cons_zero, List.set_cons_succ]
          refine wpAnyH_take (i := 9) (oi := { dst := some 48, op := Op.fieldAddr 63 (Operand.tmp 47) 1, type := 0, pos := "outright.go:405", after := #[{ on := 8, ground := Ground.data }], guard := none }) (v := ?_) rfl (by kernel_rfl) (by kernel_rfl) (by kernel_rfl) (fun _ _ _ h => h) (Or.inl ⟨by rfl, ?_⟩) (by assumption) ?_
          rotate_left
          · intro W hSw
            clear hSw
            go_simp
            try with_reducible rfl
          simp only [Act.put, List.setIfInBounds_toArray, List.set_cons_zero, List.set_cons_succ]
          refine wpAnyH_take (i := 10) (oi := { dst := some 49, op := Op.load 36 (Operand.tmp 48), type := 36, pos := "outright.go:405", after := #[{ on := 9, ground := Ground.data }], guard := none }) (v := ?_) rfl (by kernel_rfl) (by kernel_rfl) (by kernel_rfl) (fun _ _ _ h => h) (Or.inl ⟨by rfl, ?_⟩) (by assumption) ?_
          rotate_left
          · intro W hSw
            obtain ⟨y0, y1, y2, y3, y4, y5, y6, y7⟩ := HCE.out _ hSw
            clear hSw
            go_simp
            try with_reducible rfl
          simp only [Act.put, List.setIfInBounds_toArray, List.set_cons_zero, List.set_cons_succ]
          refine wpAnyH_ready (rs := [11]) (by kernel_rfl) (by simp) (AllReadyH.cons (o := { dst := some 50, op := Op.call { callee := Callee.value (Operand.func 18), args := #[Operand.tmp 39, Operand.tmp 44, Operand.tmp 49], argTypes := #[22, 3, 36] }, type := 33, pos := "outright.go:405", after := #[{ on := 0, ground := Ground.data }, { on := 5, ground := Ground.data }, { on := 10, ground := Ground.data }], guard := none }) rfl (fun K hK => ?_) AllReadyH.nil)
          have HCL := Lib.hid HDO.out
          go_simp
          refine HCL.out.mono ?_
          rintro e w6 ⟨A6, c6, rfl, _, hm, _, _, hbl⟩
          have HQ6 := Lib.hid hm
          have HB6 := Lib.hid (hbl _ _ HBW.out (Nat.le_refl _))
          clear hm hbl HDO HCL hHeld
          refine hK.out _ _ (HB6.out) (fun hHeld => ?_)
          clear hK K
          refine wpAnyH_done (by kernel_rfl) (NoPanic.normal ?_) _
          clear hHeld
          go_wp2
          have hlt := HLT.out
          refine ⟨⟨k + 1, _, by omega, by go_num, HQ6.out, HB6.out⟩, ?_⟩
          simp [intOf]; omega
        · obtain rfl : k = n := by omega
          have d2 : decide ((k : Int) < (k : Int)) = false := decide_eq_false (by omega)
          have hq1 := HQ1.out
          rw [show L.take k = L from by rw [← HLN.out]; exact List.take_length] at hq1 HT1
          obtain ⟨m0, hm0⟩ : ∃ m0, runM (newM c) L = m0 := ⟨_, rfl⟩
          rw [hm0] at hq1 HT1
          replace HQ1 := Lib.hid hq1
          clear hq1 hm0
          go_wp2_with fail
          refine (mq_copy HQ1.out (by have := HT1.out; omega)).mono ?_
          rintro e w7 ⟨pd, own1, rfl, hqd, hall, hb⟩
          have HQD := Lib.hid hqd
          have HN1 := Lib.hid (hall _ _ HQ1.out).2
          replace HQ1 := Lib.hid (hall _ _ HQ1.out).1
          replace HBW := Lib.hid (stepB HBW.out hb)
          clear hqd hall hb
          go_wp2_with fail
          refine (mq_copy HQ1.out (by have := HT1.out; omega)).mono ?_
          rintro e w8 ⟨pk, own2, rfl, hqk, hall, hb⟩
          have HQK := Lib.hid hqk
          have HNK1 := Lib.hid (hall _ _ HQ1.out).2
          have HNKD := Lib.hid (hall _ _ HQD.out).2
          replace HQD := Lib.hid (hall _ _ HQD.out).1
          replace HQ1 := Lib.hid (hall _ _ HQ1.out).1
          replace HBW := Lib.hid (stepB HBW.out hb)
          clear hqk hall hb d2
          have HN3 : Hid (n2 < 200) := Lib.hid (by rw [← HLN2.out]; exact HLG2.out)
          have HTR : Hid (∀ k, (runM m0 (L2.take k)).txns.length ≤ 2000) := Lib.hid (fun k => by
            have h1 := runM_txns (L2.take k) m0
            have h2 : (L2.take k).length ≤ L2.length := by rw [List.length_take]; omega
            have := HLG2.out
            have := HT1.out
            omega)
          go_wp2
          go_loopw [12, 13] (fun sa i W => ∃ (k : Nat) (own : Nat → Nat) (Aa : Option Addr) (ca : Nat) (La : List AV), k ≤ n2 ∧ i = .int .i64 k ∧ sa = .slice Aa k ca ∧ ARow W w.heap.size Aa k ca La ∧ La.map (·.1) = (ansM m0 L2).take k ∧ MQ_ W w.heap.size own p1 m0 ∧ MQ_ W w.heap.size own pd (runM m0 (L2.take k)) ∧ MQ_ W w.heap.size own pk m0 ∧ Below w.heap.size w W) (fun _ i _ => n2 - (intOf i).toNat)
          case atStart => exact ⟨0, own2, none, 0, [], Nat.zero_le _, rfl, rfl, ARow.nil _ _, rfl, HQ1.out, HQD.out, HQK.out, HBW.out⟩
          case round =>
            obtain ⟨k, own, Aa, ca, La, hk, rfl, rfl, har, hmap, hq1, hqd, hqk, hb⟩ := hrel
            clear HQ1 HQD HQK HBW
            have HQ1 := Lib.hid hq1
            have HQD := Lib.hid hqd
            have HQK := Lib.hid hqk
            have HBW := Lib.hid hb
            have HAR := Lib.hid har
            have HMP := Lib.hid hmap
            clear hq1 hqd hqk hb har hmap
            by_cases hlt : k < n2
            · have d2 : decide ((k : Int) < (n2 : Int)) = true := decide_eq_true (by omega)
              have wk : IntKind.i64.wrap ((k : Int) + 1) = (k : Int) + 1 := IntWalk.i64_in _ (by have := HN3.out; omega)
              have wk2 : wrap64 ((k : Int) + 1) = (k : Int) + 1 := by have := HN3.out; unfold wrap64; omega
              obtain ⟨g, off, rfl, hg, hc⟩ := (HS2.out wr HBW.out).2 (by omega)
              have i1 := idx55 g off n2 cc2 k (k : Int) rfl hlt
              have hrk : L2[k]? = some (L2[k]'(by rw [HLN2.out]; exact hlt)) := List.getElem?_eq_getElem _
              have hok := HZ2.out _ (List.mem_of_getElem? hrk)
              generalize L2[k]'(by rw [HLN2.out]; exact hlt) = r at *
              obtain ⟨ta, kn, tx, ke, en, va, li, eg⟩ := r
              have HTK := Lib.hid (runM_take (m0) L2 k _ hrk)
              have HRK := Lib.hid hrk
              have HCO := Lib.hid hok.2
              have hcell : ∀ W, Below w.heap.size w W → W.cell? ⟨g, off + k * 8, none⟩ = some (.int .i64 ta) ∧ W.cell? ⟨g, off + k * 8 + 1, none⟩ = some (.int .u8 kn) ∧ W.cell? ⟨g, off + k * 8 + 1 + 1, none⟩ = some (.int .i64 tx) ∧ W.cell? ⟨g, off + k * 8 + 1 + 2, none⟩ = some (.string ke) ∧ W.cell? ⟨g, off + k * 8 + 1 + 3, none⟩ = some (.string en) ∧ W.cell? ⟨g, off + k * 8 + 1 + 4, none⟩ = some (.string va) ∧ W.cell? ⟨g, off + k * 8 + 1 + 5, none⟩ = some (.int .i64 li) ∧ W.cell? ⟨g, off + k * 8 + 1 + 6, none⟩ = some (.int .u8 eg) := fun W hW => by
                obtain ⟨g2, off2, e, hg2, hc2⟩ := (HS2.out W hW).2 (by omega)
                cases e
                exact ⟨hc2 k _ hrk 0 (by decide), hc2 k _ hrk 1 (by decide), hc2 k _ hrk 2 (by decide), hc2 k _ hrk 3 (by decide), hc2 k _ hrk 4 (by decide), hc2 k _ hrk 5 (by decide), hc2 k _ hrk 6 (by decide), hc2 k _ hrk 7 (by decide)⟩
              have HCE := Lib.hid hcell
              obtain ⟨y0, y1, y2, y3, y4, y5, y6, y7⟩ := hcell wr HBW.out
              clear hc hg hrk hok hcell
              obtain ⟨RA, hRA⟩ : ∃ RA, (doM (runM m0 (L2.take k)) ta (kn, tx, ke, en, va, li, eg)).2 = RA := ⟨_, rfl⟩
              have HAT : Hid ((ansM m0 L2).take (k + 1) = (ansM m0 L2).take k ++ [RA]) := Lib.hid (by rw [← hRA]; exact ansM_take m0 L2 k _ HRK.out)
              have e1 : (doM (runM m0 (L2.take k)) ta (kn, tx, ke, en, va, li, eg)).1 = runM m0 (L2.take (k + 1)) := HTK.out.symm
              have HDO : Hid (∀ W own, MQ_ W w.heap.size own pd (runM m0 (L2.take k)) → Calls Try.prog 18 #[.pointer (some ⟨pd, 0, none⟩), .int .i64 ta, .agg #[.int .u8 (kn : Int), .int .i64 tx, .string ke, .string en, .string va, .int .i64 li, .int .u8 (eg : Int)]] W (DoE w.heap.size own pd (runM m0 (L2.take (k + 1))) RA W)) := Lib.hid (fun W own h => by
                have := mq_do h ta tx li ke en va kn eg (by have := HTR.out k; omega) HCO.out
                rw [e1, hRA] at this; exact this)
              obtain ⟨er, fo, va', pr⟩ := RA
              have HLT := Lib.hid hlt
              have HKN := Lib.hid hk
              clear hRA e1 hlt hk
              go_upto_region 15 with (fail)
              clear y0 y1 y2 y3 y4 y5 y6 y7
              refine wp_region_noPanic ?_
              obtain ⟨W0, rfl⟩ : ∃ W0 : World, W0 = wr := ⟨_, rfl⟩
              refine wp_region_held_drew (S := fun W => Below w.heap.size w W) (by kernel_rfl) (Below.drew HBW.out) (fun hHeld => ?_)
              replace HBW : Hid (Below w.heap.size w (World.drew W0)) := Lib.hid (Below.drew HBW.out)
              replace HQ1 := Lib.hid (HQ1.out.later (Below.drew (Below.refl _ _)))
              replace HQD := Lib.hid (HQD.out.later (Below.drew (Below.refl _ _)))
              replace HQK := Lib.hid (HQK.out.later (Below.drew (Below.refl _ _)))
              replace HAR := Lib.hid (HAR.out.later (Below.drew (Below.refl _ _)))
              generalize World.drew W0 = Wd at *
              refine wpAnyH_take (i := 0) (oi := { dst := some 61, op := Op.move (Operand.tmp 12), type := 79, pos := "outright.go:410", after := #[], guard := none }) (v := ?_) rfl (by kernel_rfl) (by kernel_rfl) (by kernel_rfl) (fun _ _ _ h => h) (Or.inl ⟨by rfl, ?_⟩) (by assumption) ?_
              rotate_left
              · intro W hSw
                clear hSw
                go_simp
                try with_reducible rfl
              simp only [Act.put, List.setIfInBounds_toArray, List.set_cons_zero, List.set_cons_succ]
              refine wpAnyH_take (i := 1) (oi := { dst := some 62, op := Op.move (Operand.tmp 10), type := 22, pos := "outright.go:410", after := #[], guard := none }) (v := ?_) rfl (by kernel_rfl) (by kernel_rfl) (by kernel_rfl) (fun _ _ _ h => h) (Or.inl ⟨by rfl, ?_⟩) (by assumption) ?_
              rotate_left
              · intro W hSw
                clear hSw
                go_simp
                try with_reducible rfl
              simp only [Act.put, List.setIfInBounds_toArray, List.set_cons_zero, List.set_cons_succ]
              refine wpAnyH_take (i := 2) (oi := { dst := some 63, op := Op.move (Operand.tmp 2), type := 55, pos := "outright.go:410", after := #[], guard := none }) (v := ?_) rfl (by kernel_rfl) (by kernel_rfl) (by kernel_rfl) (fun _ _ _ h => h) (Or.inl ⟨by rfl, ?_⟩) (by assumption) ?_
              rotate_left
              · intro W hSw
                clear hSw
                go_simp
                try with_reducible rfl
              simp only [Act.put, List.setIfInBounds_toArray, List.set_cons_zero, List.set_cons_succ]
              refine wpAnyH_take (i := 3) (oi := { dst := some 64, op := Op.move (Operand.tmp 13), type := 3, pos := "outright.go:410", after := #[], guard := none }) (v := ?_) rfl (by kernel_rfl) (by kernel_rfl) (by kernel_rfl) (fun _ _ _ h => h) (Or.inl ⟨by rfl, ?_⟩) (by assumption) ?_
              rotate_left
              · intro W hSw
                clear hSw
                go_simp
                try with_reducible rfl
              simp only [Act.put, List.setIfInBounds_toArray, List.set_cons_zero, List.set_cons_succ]
              refine wpAnyH_take (i := 4) (oi := { dst := some 65, op := Op.indexAddr 55 (Operand.tmp 63) (Operand.tmp 64), type := 0, pos := "outright.go:410", after := #[{ on := 2, ground := Ground.data }, { on := 3, ground := Ground.data }], guard := none }) (v := ?_) rfl (by kernel_rfl) (by kernel_rfl) (by kernel_rfl) (fun _ _ _ h => h) (Or.inl ⟨by rfl, ?_⟩) (by assumption) ?_
              rotate_left
              · intro W hSw
                clear hSw
                go_simp
                try with_reducible rfl
              simp only [Act.put, List.setIfInBounds_toArray, List.set_cons_zero, List.set_cons_succ]
              refine wpAnyH_take (i := 5) (oi := { dst := some 66, op := Op.fieldAddr 63 (Operand.tmp 65) 0, type := 0, pos := "outright.go:410", after := #[{ on := 4, ground := Ground.data }], guard := none }) (v := ?_) rfl (by kernel_rfl) (by kernel_rfl) (by kernel_rfl) (fun _ _ _ h => h) (Or.inl ⟨by rfl, ?_⟩) (by assumption) ?_
              rotate_left
              · intro W hSw
                clear hSw
                go_simp
                try with_reducible rfl
              simp only [Act.put, List.setIfInBounds_toArray, List.set_cons_zero, List.set_cons_succ]
              refine wpAnyH_take (i := 6) (oi := { dst := some 67, op := Op.load 3 (Operand.tmp 66), type := 3, pos := "outright.go:410", after := #[{ on := 5, ground := Ground.data }], guard := none }) (v := ?_) rfl (by kernel_rfl) (by kernel_rfl) (by kernel_rfl) (fun _ _ _ h => h) (Or.inl ⟨by rfl, ?_⟩) (by assumption) ?_
              rotate_left
              · intro W hSw
                obtain ⟨y0, y1, y2, y3, y4, y5, y6, y7⟩ := HCE.out _ hSw
                clear hSw
                go_simp
                try with_reducible rfl
              simp only [Act.put, List.setIfInBounds_toArray, List.set_cons_zero, List.set_cons_succ]
              refine wpAnyH_take (i := 7) (oi := { dst := some 68, op := Op.move (Operand.tmp 2), type := 55, pos := "outright.go:410", after := #[], guard := none }) (v := ?_) rfl (by kernel_rfl) (by kernel_rfl) (by kernel_rfl) (fun _ _ _ h => h) (Or.inl ⟨by rfl, ?_⟩) (by assumption) ?_
              rotate_left
              · intro W hSw
                clear hSw
                go_simp
                try with_reducible rfl
              simp only [Act.put, List.setIfInBounds_toArray, List.set_cons_zero, List.set_cons_succ]
              refine wpAnyH_take (i := 8) (oi := { dst := some 69, op := Op.move (Operand.tmp 13), type := 3, pos := "outright.go:410", after := #[], guard := none }) (v := ?_) rfl (by kernel_rfl) (by kernel_rfl) (by kernel_rfl) (fun _ _ _ h => h) (Or.inl ⟨by rfl, ?_⟩) (by assumption) ?_
              rotate_left
              · intro W hSw
                clear hSw
                go_simp
                try with_reducible rfl
              simp only [Act.put, List.setIfInBounds_toArray, List.set_cons_zero, List.set_cons_succ]
              refine wpAnyH_take (i := 9) (oi := { dst := some 70, op := Op.indexAddr 55 (Operand.tmp 68) (Operand.tmp 69), type := 0, pos := "outright.go:410", after := #[{ on := 7, ground := Ground.data }, { on := 8, ground := Ground.data }], guard := none }) (v := ?_) rfl (by kernel_rfl) (by kernel_rfl) (by kernel_rfl) (fun _ _ _ h => h) (Or.inl ⟨by rfl, ?_⟩) (by assumption) ?_
              rotate_left
              · intro W hSw
                clear hSw
                go_simp
                try with_reducible rfl
              simp only [Act.put, List.setIfInBounds_toArray, List.set_cons_zero, List.set_cons_succ]
              refine wpAnyH_take (i := 10) (oi := { dst := some 71, op := Op.fieldAddr 63 (Operand.tmp 70) 1, type := 0, pos := "outright.go:410", after := #[{ on := 9, ground := Ground.data }], guard := none }) (v := ?_) rfl (by kernel_rfl) (by kernel_rfl) (by kernel_rfl) (fun _ _ _ h => h) (Or.inl ⟨by rfl, ?_⟩) (by assumption) ?_
              rotate_left
              · intro W hSw
                clear hSw
                go_simp
                try with_reducible rfl
              simp only [Act.put, List.setIfInBounds_toArray, List.set_cons_zero, List.set_cons_succ]
              refine wpAnyH_take (i := 11) (oi := { dst := some 72, op := Op.load 36 (Operand.tmp 71), type := 36, pos := "outright.go:410", after := #[{ on := 10, ground := Ground.data }], guard := none }) (v := ?_) rfl (by kernel_rfl) (by kernel_rfl) (by kernel_rfl) (fun _ _ _ h => h) (Or.inl ⟨by rfl, ?_⟩) (by assumption) ?_
              rotate_left
              · intro W hSw
                obtain ⟨y0, y1, y2, y3, y4, y5, y6, y7⟩ := HCE.out _ hSw
                clear hSw
                go_simp
                try with_reducible rfl
              simp only [Act.put, List.setIfInBounds_toArray, List.set_cons_zero, List.set_cons_succ]
              refine wpAnyH_ready (rs := [12]) (by kernel_rfl) (by simp) (AllReadyH.cons (o := { dst := some 73, op := Op.call { callee := Callee.value (Operand.func 18), args := #[Operand.tmp 62, Operand.tmp 67, Operand.tmp 72], argTypes := #[22, 3, 36] }, type := 33, pos := "outright.go:410", after := #[{ on := 1, ground := Ground.data }, { on := 6, ground := Ground.data }, { on := 11, ground := Ground.data }], guard := none }) rfl (fun K hK => ?_) AllReadyH.nil)
              have HCL := Lib.hid (HDO.out Wd _ HQD.out)
              go_simp
              refine HCL.out.mono ?_
              rintro e We ⟨A6, c6, rfl, hro, hm, hoth, hkp, hbl⟩
              have HRO := Lib.hid (hro.base HBW.out.size)
              have HQDn := Lib.hid hm
              replace HQ1 := Lib.hid (hoth _ _ HN1.out HQ1.out)
              replace HQK := Lib.hid (hoth _ _ HNKD.out.symm HQK.out)
              replace HAR := Lib.hid (HAR.out.kp hkp)
              replace HBW := Lib.hid (hbl _ _ HBW.out (Nat.le_refl _))
              clear hro hm hoth hkp hbl hHeld HCL HDO HQD
              refine hK.out _ _ (HBW.out) (fun hHeld => ?_)
              clear hK K
              refine wpAnyH_ready (rs := [13]) (by kernel_rfl) (by simp) (AllReadyH.cons (o := { dst := some 74, op := Op.buildSlice 79 1 #[(0, Operand.tmp 73)], type := 79, pos := "outright.go:410", after := #[{ on := 12, ground := Ground.data }], guard := none }) rfl (fun K hK => ?_) AllReadyH.nil)
              go_simp
              have hb : Below We.heap.size We (We.alloc (.cells #[.int .i64 er, .bool fo, .string va', .slice A6 pr.length c6] 33)) := (Below.refl _ _).alloc (Nat.le_refl _) _
              have KV : Hid (Blk (We.alloc (.cells #[.int .i64 er, .bool fo, .string va', .slice A6 pr.length c6] 33)) We.heap.size (anE ((er, fo, va', pr), A6, c6)).toArray 33) := Lib.hid (Blk.new We _ 33)
              replace HBW := Lib.hid (stepB HBW.out hb)
              replace HQ1 := Lib.hid (HQ1.out.later hb)
              replace HQDn := Lib.hid (HQDn.out.later hb)
              replace HQK := Lib.hid (HQK.out.later hb)
              replace HAR := Lib.hid (HAR.out.later hb)
              replace HRO := Lib.hid (HRO.out.later hb)
              clear hb hHeld
              refine hK.out _ _ (HBW.out) (fun hHeld => ?_)
              clear hK K
              generalize We.alloc (.cells #[.int .i64 er, .bool fo, .string va', .slice A6 pr.length c6] 33) = Wf at *
              obtain ⟨qv, hqv⟩ : ∃ x, We.heap.size = x := ⟨_, rfl⟩
              rw [hqv] at KV ⊢
              clear hqv
              refine wpAnyH_ready (rs := [14]) (by kernel_rfl) (by simp) (AllReadyH.cons (o := { dst := some 75, op := Op.call { callee := Callee.builtin Builtin.append, args := #[Operand.tmp 61, Operand.tmp 74], argTypes := #[79, 79] }, type := 79, pos := "outright.go:410", after := #[{ on := 0, ground := Ground.data }, { on := 13, ground := Ground.data }, { on := 12, ground := Ground.chain }], guard := none }) rfl (fun K hK => ?_) AllReadyH.nil)
              refine wp_append_row1 elemA (.tmp 61) (.tmp 74) rfl w.heap.size (.slice Aa k ca) k La rfl HAR.out.row qv 1 ((er, fo, va', pr), A6, c6) rfl KV.out.rslA (by have := HLT.out; have := HN3.out; omega) (by decide) HBW.out.size ?_
              intro A7 c7 w7 ho7 hg7 hn7 _
              have HR7 := Lib.hid (ARow.grow HAR.out HRO.out ho7 hg7)
              have hbx := grown_lift HBW.out HBW.out.size HAR.out.row hg7
              replace HQ1 := Lib.hid (HQ1.out.grownT HAR.out.row hg7 (by decide) (by decide) (by decide) (by decide) (by decide))
              replace HQDn := Lib.hid (HQDn.out.grownT HAR.out.row hg7 (by decide) (by decide) (by decide) (by decide) (by decide))
              replace HQK := Lib.hid (HQK.out.grownT HAR.out.row hg7 (by decide) (by decide) (by decide) (by decide) (by decide))
              replace HBW := Lib.hid hbx
              clear ho7 hg7 hn7 hbx HAR HRO KV hHeld
              refine hK.out _ _ (HBW.out) (fun hHeld => ?_)
              clear hK K
              refine wpAnyH_take (i := 15) (oi := { dst := some 12, op := Op.assign (Operand.tmp 75), type := 79, pos := "outright.go:410", after := #[{ on := 14, ground := Ground.data }, { on := 14, ground := Ground.chain }, { on := 0, ground := Ground.phase }, { on := 1, ground := Ground.phase }, { on := 2, ground := Ground.phase }, { on := 3, ground := Ground.phase }, { on := 4, ground := Ground.phase }, { on := 5, ground := Ground.phase }, { on := 6, ground := Ground.phase }, { on := 7, ground := Ground.phase }, { on := 8, ground := Ground.phase }, { on := 9, ground := Ground.phase }, { on := 10, ground := Ground.phase }, { on := 11, ground := Ground.phase }, { on := 12, ground := Ground.phase }, { on := 13, ground := Ground.phase }, { on := 14, ground := Ground.phase }], guard := none }) (v := ?_) rfl (by kernel_rfl) (by kernel_rfl) (by kernel_rfl) (fun _ _ _ h => h) (Or.inl ⟨by rfl, ?_⟩) (by assumption) ?_
              rotate_left
              · intro W hSw
                clear hSw
                go_simp
                try with_reducible rfl
              simp only [Act.put, List.setIfInBounds_toArray, List.set_cons_zero, List.set_cons_succ]
              refine wpAnyH_done (by kernel_rfl) (NoPanic.normal ?_) _
              clear hHeld
              go_wp2
              have hlt := HLT.out
              refine ⟨⟨k + 1, _, A7, c7, La ++ [((er, fo, va', pr), A6, c6)], by omega, by go_num, rfl, HR7.out, by rw [List.map_append, HMP.out, HAT.out]; rfl, HQ1.out, HQDn.out, HQK.out, HBW.out⟩, ?_⟩
              simp [intOf]; omega
            · obtain rfl : k = n2 := by omega
              have d2 : decide ((k : Int) < (k : Int)) = false := decide_eq_false (by omega)
              have hta : L2.take k = L2 := by rw [← HLN2.out]; exact List.take_length
              have hqd := HQD.out
              have hmp := HMP.out
              have htr := HTR.out k
              rw [hta] at hqd htr
              rw [show (ansM m0 L2).take k = ansM m0 L2 from by rw [← HLN2.out, ← ansM_len L2 m0]; exact List.take_length] at hmp
              replace HQD := Lib.hid hqd
              replace HMP := Lib.hid hmp
              have HTE := Lib.hid htr
              clear hqd hmp hta htr hk
              go_wp2_with fail
              refine (same_models w.heap.size p1 pk own m0 m0 _ HQ1.out HQK.out rfl rfl rfl rfl (by have := HT1.out; omega) (by have := HT1.out; omega)).mono ?_
              rintro e w9 ⟨rfl, hb⟩
              replace HQ1 := Lib.hid (HQ1.out.later hb)
              replace HQD := Lib.hid (HQD.out.later hb)
              replace HAR := Lib.hid (HAR.out.later hb)
              replace HBW := Lib.hid (stepB HBW.out hb)
              clear hb d2 HQK
              obtain ⟨n2, hn2⟩ : ∃ n2, k = n2 := ⟨_, rfl⟩
              rw [hn2] at HAR HLN2 HN3 HS2 hlt ⊢
              clear hn2 hlt
              go_wp2
              go_loopw [14] (fun i W => ∃ (k : Nat) (own : Nat → Nat), k ≤ n2 ∧ i = .int .i64 k ∧ ARow W w.heap.size Aa n2 ca La ∧ MQ_ W w.heap.size own p1 (runM m0 (L2.take k)) ∧ MQ_ W w.heap.size own pd (runM m0 L2) ∧ Below w.heap.size w W) (fun i _ => n2 - (intOf i).toNat)
              case atStart => exact ⟨0, own, Nat.zero_le _, rfl, HAR.out, HQ1.out, HQD.out, HBW.out⟩
              case round =>
                obtain ⟨k, own, hk, rfl, har, hq1, hqd, hb⟩ := hrel
                clear HAR HQ1 HQD HBW
                have HAR := Lib.hid har
                have HQ1 := Lib.hid hq1
                have HQD := Lib.hid hqd
                have HBW := Lib.hid hb
                clear har hq1 hqd hb
                by_cases hlt : k < n2
                · have d2 : decide ((k : Int) < (n2 : Int)) = true := decide_eq_true (by omega)
                  have wk : IntKind.i64.wrap ((k : Int) + 1) = (k : Int) + 1 := IntWalk.i64_in _ (by have := HN3.out; omega)
                  have wk2 : wrap64 ((k : Int) + 1) = (k : Int) + 1 := by have := HN3.out; unfold wrap64; omega
                  obtain ⟨g, off, rfl, hg, hc⟩ := (HS2.out wr HBW.out).2 (by omega)
                  have i1 := idx55 g off n2 cc2 k (k : Int) rfl hlt
                  have hrk : L2[k]? = some (L2[k]'(by rw [HLN2.out]; exact hlt)) := List.getElem?_eq_getElem _
                  have hok := HZ2.out _ (List.mem_of_getElem? hrk)
                  generalize L2[k]'(by rw [HLN2.out]; exact hlt) = r at *
                  obtain ⟨ta, kn, tx, ke, en, va, li, eg⟩ := r
                  have HTK := Lib.hid (runM_take (m0) L2 k _ hrk)
                  have HRK := Lib.hid hrk
                  have HCO := Lib.hid hok.2
                  have hcell : ∀ W, Below w.heap.size w W → W.cell? ⟨g, off + k * 8, none⟩ = some (.int .i64 ta) ∧ W.cell? ⟨g, off + k * 8 + 1, none⟩ = some (.int .u8 kn) ∧ W.cell? ⟨g, off + k * 8 + 1 + 1, none⟩ = some (.int .i64 tx) ∧ W.cell? ⟨g, off + k * 8 + 1 + 2, none⟩ = some (.string ke) ∧ W.cell? ⟨g, off + k * 8 + 1 + 3, none⟩ = some (.string en) ∧ W.cell? ⟨g, off + k * 8 + 1 + 4, none⟩ = some (.string va) ∧ W.cell? ⟨g, off + k * 8 + 1 + 5, none⟩ = some (.int .i64 li) ∧ W.cell? ⟨g, off + k * 8 + 1 + 6, none⟩ = some (.int .u8 eg) := fun W hW => by
                    obtain ⟨g2, off2, e, hg2, hc2⟩ := (HS2.out W hW).2 (by omega)
                    cases e
                    exact ⟨hc2 k _ hrk 0 (by decide), hc2 k _ hrk 1 (by decide), hc2 k _ hrk 2 (by decide), hc2 k _ hrk 3 (by decide), hc2 k _ hrk 4 (by decide), hc2 k _ hrk 5 (by decide), hc2 k _ hrk 6 (by decide), hc2 k _ hrk 7 (by decide)⟩
                  have HCE := Lib.hid hcell
                  obtain ⟨y0, y1, y2, y3, y4, y5, y6, y7⟩ := hcell wr HBW.out
                  clear hc hg hrk hok hcell
                  obtain ⟨RA, hRA⟩ : ∃ RA, (doM (runM m0 (L2.take k)) ta (kn, tx, ke, en, va, li, eg)).2 = RA := ⟨_, rfl⟩
                  have hat : (ansM m0 L2)[k]? = some RA := by rw [← hRA]; exact ansM_at L2 m0 k _ HRK.out
                  have hla : ∃ y, La[k]? = some y ∧ y.1 = RA := by
                    rw [← HMP.out, List.getElem?_map] at hat
                    cases e : La[k]? with
                    | none => rw [e] at hat; cases hat
                    | some y => rw [e] at hat; exact ⟨y, rfl, by simpa using hat⟩
                  obtain ⟨⟨ya, A6, c6⟩, hly, hye⟩ := hla
                  simp only at hye
                  subst hye
                  have e1 : (doM (runM m0 (L2.take k)) ta (kn, tx, ke, en, va, li, eg)).1 = runM m0 (L2.take (k + 1)) := HTK.out.symm
                  have hpl := pairs_le (runM m0 (L2.take k)) ta (kn, tx, ke, en, va, li, eg)
                  have HDO : Hid (∀ W own, MQ_ W w.heap.size own p1 (runM m0 (L2.take k)) → Calls Try.prog 18 #[.pointer (some ⟨p1, 0, none⟩), .int .i64 ta, .agg #[.int .u8 (kn : Int), .int .i64 tx, .string ke, .string en, .string va, .int .i64 li, .int .u8 (eg : Int)]] W (DoE w.heap.size own p1 (runM m0 (L2.take (k + 1))) ya W)) := Lib.hid (fun W own h => by
                    have := mq_do h ta tx li ke en va kn eg (by have := HTR.out k; omega) HCO.out
                    rw [e1, hRA] at this; exact this)
                  rw [hRA] at hpl
                  obtain ⟨er, fo, va', pr⟩ := ya
                  have HPL := Lib.hid (show pr.length ≤ 100000 by simp only at hpl; omega)
                  have HPR := Lib.hid (HAR.out.prs _ (List.mem_of_getElem? hly))
                  have hrs := HAR.out.row.rsl anE_len
                  obtain ⟨g3, off3, rfl, hg3, hc3⟩ := hrs.2 (by omega)
                  have i3 := idx79 g3 off3 n2 ca k (k : Int) rfl hlt
                  have HC3 : Hid (∀ W, ARow W w.heap.size (some ⟨g3, off3, none⟩) n2 ca La → W.cell? ⟨g3, off3 + k * 4, none⟩ = some (.int .i64 er) ∧ W.cell? ⟨g3, off3 + k * 4 + 1, none⟩ = some (.bool fo) ∧ W.cell? ⟨g3, off3 + k * 4 + 2, none⟩ = some (.string va') ∧ W.cell? ⟨g3, off3 + k * 4 + 3, none⟩ = some (.slice A6 pr.length c6)) := Lib.hid (fun W h => by
                    obtain ⟨g4, off4, e4, _, hc4⟩ := (h.row.rsl anE_len).2 (by omega)
                    cases e4
                    exact ⟨hc4 k _ hly 0 (by decide), hc4 k _ hly 1 (by decide), hc4 k _ hly 2 (by decide), hc4 k _ hly 3 (by decide)⟩)
                  have HLT := Lib.hid hlt
                  have HKN := Lib.hid hk
                  clear hRA e1 hlt hk hat hly hpl hrs hg3 hc3
                  go_upto_region 21 with (fail)
                  clear y0 y1 y2 y3 y4 y5 y6 y7
                  refine wp_region_noPanic ?_
                  obtain ⟨W0, rfl⟩ : ∃ W0 : World, W0 = wr := ⟨_, rfl⟩
                  refine wp_region_held_drew (S := fun W => Below w.heap.size w W ∧ ARow W w.heap.size (some ⟨g3, off3, none⟩) n2 ca La) (by kernel_rfl) (⟨Below.drew HBW.out, HAR.out.later (Below.drew (Below.refl _ _))⟩) (fun hHeld => ?_)
                  replace HBW : Hid (Below w.heap.size w (World.drew W0)) := Lib.hid (Below.drew HBW.out)
                  replace HQ1 := Lib.hid (HQ1.out.later (Below.drew (Below.refl _ _)))
                  replace HQD := Lib.hid (HQD.out.later (Below.drew (Below.refl _ _)))
                  replace HAR := Lib.hid (HAR.out.later (Below.drew (Below.refl _ _)))
                  replace HPR := Lib.hid (HPR.out.later (Below.drew (Below.refl _ _)))
                  generalize World.drew W0 = Wd at *
                  refine wpAnyH_take (i := 0) (oi := { dst := some 86, op := Op.move (Operand.tmp 7), type := 22, pos := "outright.go:416", after := #[], guard := none }) (v := ?_) rfl (by kernel_rfl) (by kernel_rfl) (by kernel_rfl) (fun _ _ _ h => h) (Or.inl ⟨by rfl, ?_⟩) (by assumption) ?_
                  rotate_left
                  · intro W hSw
                    clear hSw
                    go_simp
                    try with_reducible rfl
                  simp only [Act.put, List.setIfInBounds_toArray, List.set_cons_zero, List.set_cons_succ]
                  refine wpAnyH_take (i := 1) (oi := { dst := some 87, op := Op.move (Operand.tmp 2), type := 55, pos := "outright.go:416", after := #[], guard := none }) (v := ?_) rfl (by kernel_rfl) (by kernel_rfl) (by kernel_rfl) (fun _ _ _ h => h) (Or.inl ⟨by rfl, ?_⟩) (by assumption) ?_
                  rotate_left
                  · intro W hSw
                    clear hSw
                    go_simp
                    try with_reducible rfl
                  simp only [Act.put, List.setIfInBounds_toArray, List.set_cons_zero, List.set_cons_succ]
                  refine wpAnyH_take (i := 2) (oi := { dst := some 88, op := Op.move (Operand.tmp 14), type := 3, pos := "outright.go:416", after := #[], guard := none }) (v := ?_) rfl (by kernel_rfl) (by kernel_rfl) (by kernel_rfl) (fun _ _ _ h => h) (Or.inl ⟨by rfl, ?_⟩) (by assumption) ?_
                  rotate_left
                  · intro W hSw
                    clear hSw
                    go_simp
                    try with_reducible rfl
                  simp only [Act.put, List.setIfInBounds_toArray, List.set_cons_zero, List.set_cons_succ]
                  refine wpAnyH_take (i := 3) (oi := { dst := some 89, op := Op.indexAddr 55 (Operand.tmp 87) (Operand.tmp 88), type := 0, pos := "outright.go:416", after := #[{ on := 1, ground := Ground.data }, { on := 2, ground := Ground.data }], guard := none }) (v := ?_) rfl (by kernel_rfl) (by kernel_rfl) (by kernel_rfl) (fun _ _ _ h => h) (Or.inl ⟨by rfl, ?_⟩) (by assumption) ?_
                  rotate_left
                  · intro W hSw
                    clear hSw
                    go_simp
                    try with_reducible rfl
                  simp only [Act.put, List.setIfInBounds_toArray, List.set_cons_zero, List.set_cons_succ]
                  refine wpAnyH_take (i := 4) (oi := { dst := some 90, op := Op.fieldAddr 63 (Operand.tmp 89) 0, type := 0, pos := "outright.go:416", after := #[{ on := 3, ground := Ground.data }], guard := none }) (v := ?_) rfl (by kernel_rfl) (by kernel_rfl) (by kernel_rfl) (fun _ _ _ h => h) (Or.inl ⟨by rfl, ?_⟩) (by assumption) ?_
                  rotate_left
                  · intro W hSw
                    clear hSw
                    go_simp
                    try with_reducible rfl
                  simp only [Act.put, List.setIfInBounds_toArray, List.set_cons_zero, List.set_cons_succ]
                  refine wpAnyH_take (i := 5) (oi := { dst := some 91, op := Op.load 3 (Operand.tmp 90), type := 3, pos := "outright.go:416", after := #[{ on := 4, ground := Ground.data }], guard := none }) (v := ?_) rfl (by kernel_rfl) (by kernel_rfl) (by kernel_rfl) (fun _ _ _ h => h) (Or.inl ⟨by rfl, ?_⟩) (by assumption) ?_
                  rotate_left
                  · intro W hSw
                    obtain ⟨y0, y1, y2, y3, y4, y5, y6, y7⟩ := HCE.out _ hSw.1
                    clear hSw
                    go_simp
                    try with_reducible rfl
                  simp only [Act.put, List.setIfInBounds_toArray, List.set_cons_zero, List.set_cons_succ]
                  refine wpAnyH_take (i := 6) (oi := { dst := some 92, op := Op.move (Operand.tmp 2), type := 55, pos := "outright.go:416", after := #[], guard := none }) (v := ?_) rfl (by kernel_rfl) (by kernel_rfl) (by kernel_rfl) (fun _ _ _ h => h) (Or.inl ⟨by rfl, ?_⟩) (by assumption) ?_
                  rotate_left
                  · intro W hSw
                    clear hSw
                    go_simp
                    try with_reducible rfl
                  simp only [Act.put, List.setIfInBounds_toArray, List.set_cons_zero, List.set_cons_succ]
                  refine wpAnyH_take (i := 7) (oi := { dst := some 93, op := Op.move (Operand.tmp 14), type := 3, pos := "outright.go:416", after := #[], guard := none }) (v := ?_) rfl (by kernel_rfl) (by kernel_rfl) (by kernel_rfl) (fun _ _ _ h => h) (Or.inl ⟨by rfl, ?_⟩) (by assumption) ?_
                  rotate_left
                  · intro W hSw
                    clear hSw
                    go_simp
                    try with_reducible rfl
                  simp only [Act.put, List.setIfInBounds_toArray, List.set_cons_zero, List.set_cons_succ]
                  refine wpAnyH_take (i := 8) (oi := { dst := some 94, op := Op.indexAddr 55 (Operand.tmp 92) (Operand.tmp 93), type := 0, pos := "outright.go:416", after := #[{ on := 6, ground := Ground.data }, { on := 7, ground := Ground.data }], guard := none }) (v := ?_) rfl (by kernel_rfl) (by kernel_rfl) (by kernel_rfl) (fun _ _ _ h => h) (Or.inl ⟨by rfl, ?_⟩) (by assumption) ?_
                  rotate_left
                  · intro W hSw
                    clear hSw
                    go_simp
                    try with_reducible rfl
                  simp only [Act.put, List.setIfInBounds_toArray, List.set_cons_zero, List.set_cons_succ]
                  refine wpAnyH_take (i := 9) (oi := { dst := some 95, op := Op.fieldAddr 63 (Operand.tmp 94) 1, type := 0, pos := "outright.go:416", after := #[{ on := 8, ground := Ground.data }], guard := none }) (v := ?_) rfl (by kernel_rfl) (by kernel_rfl) (by kernel_rfl) (fun _ _ _ h => h) (Or.inl ⟨by rfl, ?_⟩) (by assumption) ?_
                  rotate_left
                  · intro W hSw
                    clear hSw
                    go_simp
                    try with_reducible rfl
                  simp only [Act.put, List.setIfInBounds_toArray, List.set_cons_zero, List.set_cons_succ]
                  refine wpAnyH_take (i := 10) (oi := { dst := some 96, op := Op.load 36 (Operand.tmp 95), type := 36, pos := "outright.go:416", after := #[{ on := 9, ground := Ground.data }], guard := none }) (v := ?_) rfl (by kernel_rfl) (by kernel_rfl) (by kernel_rfl) (fun _ _ _ h => h) (Or.inl ⟨by rfl, ?_⟩) (by assumption) ?_
                  rotate_left
                  · intro W hSw
                    obtain ⟨y0, y1, y2, y3, y4, y5, y6, y7⟩ := HCE.out _ hSw.1
                    clear hSw
                    go_simp
                    try with_reducible rfl
                  simp only [Act.put, List.setIfInBounds_toArray, List.set_cons_zero, List.set_cons_succ]
                  refine wpAnyH_take (i := 12) (oi := { dst := some 98, op := Op.move (Operand.tmp 12), type := 79, pos := "outright.go:416", after := #[], guard := none }) (v := ?_) rfl (by kernel_rfl) (by kernel_rfl) (by kernel_rfl) (fun _ _ _ h => h) (Or.inl ⟨by rfl, ?_⟩) (by assumption) ?_
                  rotate_left
                  · intro W hSw
                    clear hSw
                    go_simp
                    try with_reducible rfl
                  simp only [Act.put, List.setIfInBounds_toArray, List.set_cons_zero, List.set_cons_succ]
                  refine wpAnyH_take (i := 13) (oi := { dst := some 99, op := Op.move (Operand.tmp 14), type := 3, pos := "outright.go:416", after := #[], guard := none }) (v := ?_) rfl (by kernel_rfl) (by kernel_rfl) (by kernel_rfl) (fun _ _ _ h => h) (Or.inl ⟨by rfl, ?_⟩) (by assumption) ?_
                  rotate_left
                  · intro W hSw
                    clear hSw
                    go_simp
                    try with_reducible rfl
                  simp only [Act.put, List.setIfInBounds_toArray, List.set_cons_zero, List.set_cons_succ]
                  refine wpAnyH_take (i := 14) (oi := { dst := some 100, op := Op.indexAddr 79 (Operand.tmp 98) (Operand.tmp 99), type := 0, pos := "outright.go:416", after := #[{ on := 12, ground := Ground.data }, { on := 13, ground := Ground.data }], guard := none }) (v := ?_) rfl (by kernel_rfl) (by kernel_rfl) (by kernel_rfl) (fun _ _ _ h => h) (Or.inl ⟨by rfl, ?_⟩) (by assumption) ?_
                  rotate_left
                  · intro W hSw
                    clear hSw
                    go_simp
                    try with_reducible rfl
                  simp only [Act.put, List.setIfInBounds_toArray, List.set_cons_zero, List.set_cons_succ]
                  refine wpAnyH_take (i := 15) (oi := { dst := some 101, op := Op.load 33 (Operand.tmp 100), type := 33, pos := "outright.go:416", after := #[{ on := 14, ground := Ground.data }], guard := none }) (v := ?_) rfl (by kernel_rfl) (by kernel_rfl) (by kernel_rfl) (fun _ _ _ h => h) (Or.inl ⟨by rfl, ?_⟩) (by assumption) ?_
                  rotate_left
                  · intro W hSw
                    obtain ⟨a0, a1, a2, a3⟩ := HC3.out _ hSw.2
                    clear hSw
                    go_simp
                    try with_reducible rfl
                  simp only [Act.put, List.setIfInBounds_toArray, List.set_cons_zero, List.set_cons_succ]
                  refine wpAnyH_ready (rs := [11]) (by kernel_rfl) (by simp) (AllReadyH.cons (o := { dst := some 97, op := Op.call { callee := Callee.value (Operand.func 18), args := #[Operand.tmp 86, Operand.tmp 91, Operand.tmp 96], argTypes := #[22, 3, 36] }, type := 33, pos := "outright.go:416", after := #[{ on := 0, ground := Ground.data }, { on := 5, ground := Ground.data }, { on := 10, ground := Ground.data }], guard := none }) rfl (fun K hK => ?_) AllReadyH.nil)
                  have HCL := Lib.hid (HDO.out Wd _ HQ1.out)
                  go_simp
                  refine HCL.out.mono ?_
                  rintro e We ⟨A7, c7, rfl, hro, hm, hoth, hkp, hbl⟩
                  have HRO := Lib.hid (hro.base HBW.out.size)
                  have HQ1n := Lib.hid hm
                  replace HQD := Lib.hid (hoth _ _ HN1.out.symm HQD.out)
                  replace HAR := Lib.hid (HAR.out.kp hkp)
                  replace HPR := Lib.hid (HPR.out.kp hkp (by decide) (by decide) (by decide) (by decide))
                  replace HBW := Lib.hid (hbl _ _ HBW.out (Nat.le_refl _))
                  clear hro hm hoth hkp hbl hHeld HCL HDO HQ1
                  refine hK.out _ _ (⟨HBW.out, HAR.out⟩) (fun hHeld => ?_)
                  clear hK K
                  refine wpAnyH_ready (rs := [16]) (by kernel_rfl) (by simp) (AllReadyH.cons (o := { dst := some 102, op := Op.call { callee := Callee.value (Operand.func 37), args := #[Operand.tmp 97, Operand.tmp 101], argTypes := #[33, 33] }, type := 4, pos := "outright.go:416", after := #[{ on := 11, ground := Ground.data }, { on := 15, ground := Ground.data }, { on := 11, ground := Ground.chain }], guard := none }) rfl (fun K hK => ?_) AllReadyH.nil)
                  have HCL : Hid (Calls Try.prog 37 #[.agg #[.int .i64 er, .bool fo, .string va', .slice A7 pr.length c7], .agg #[.int .i64 er, .bool fo, .string va', .slice A6 pr.length c6]] We fun e w' => e = .returned (.bool true) ∧ Below We.heap.size We w') := Lib.hid (by
                    have := answers_any A7 A6 pr.length c7 pr.length c6 (er, fo, va', pr) (er, fo, va', pr) We HPL.out (HRO.out.rsl pvc_len) (HPR.out.rsl pvc_len)
                    rw [decide_eq_true rfl] at this
                    exact this)
                  go_simp
                  refine HCL.out.mono ?_
                  rintro e Wf ⟨rfl, hb⟩
                  replace HQ1n := Lib.hid (HQ1n.out.later hb)
                  replace HQD := Lib.hid (HQD.out.later hb)
                  replace HAR := Lib.hid (HAR.out.later hb)
                  replace HBW := Lib.hid (stepB HBW.out hb)
                  clear hb hHeld HCL HRO HPR
                  refine hK.out _ _ (⟨HBW.out, HAR.out⟩) (fun hHeld => ?_)
                  clear hK K
                  refine wpAnyH_take (i := 17) (oi := { dst := some 103, op := Op.unOp UnOp.not 4 (Operand.tmp 102), type := 4, pos := "outright.go:416", after := #[{ on := 16, ground := Ground.data }], guard := none }) (v := ?_) rfl (by kernel_rfl) (by kernel_rfl) (by kernel_rfl) (fun _ _ _ h => h) (Or.inl ⟨by rfl, ?_⟩) (by assumption) ?_
                  rotate_left
                  · intro W hSw
                    clear hSw
                    go_simp
                    try with_reducible rfl
                  simp only [Act.put, List.setIfInBounds_toArray, List.set_cons_zero, List.set_cons_succ]
                  refine wpAnyH_done (by kernel_rfl) (NoPanic.normal ?_) _
                  clear hHeld
                  go_wp2
                  have hlt := HLT.out
                  refine ⟨⟨k + 1, _, by omega, by go_num, HAR.out, HQ1n.out, HQD.out, HBW.out⟩, ?_⟩
                  simp [intOf]; omega
                · obtain rfl : n2 = k := by omega
                  have d2 : decide ((n2 : Int) < (n2 : Int)) = false := decide_eq_false (by omega)
                  have hq1 := HQ1.out
                  rw [show L2.take n2 = L2 from by rw [← HLN2.out]; exact List.take_length] at hq1
                  replace HQ1 := Lib.hid hq1
                  clear hq1
                  go_wp2_with fail
                  refine (same_models w.heap.size p1 pd own _ _ _ HQ1.out HQD.out rfl rfl rfl rfl (by have := HTE.out; omega) (by have := HTE.out; omega)).mono ?_
                  rintro e w9 ⟨rfl, hb⟩
                  replace HBW := Lib.hid (stepB HBW.out hb)
                  clear hb
                  go_wp2
                  go_ret
                  exact ⟨rfl, HBW.out⟩
end Go.Proofs.Ytoinjnocopejjaa.modelCopies
