/- CallAnswers: its walk. -/
import Derived.Test.YtkgdmdcnhbaidaaDoorR5
import Derived.Test.YtkgdmdcnhbaidaaDoorDJ
namespace Go.Proofs.YtkgdmdcnhbaidaaDoor
open Go.ChangeShapes Go.WideShapes Go.ChangeAt Go.RowKit
set_option linter.unusedVariables false
set_option linter.unusedSimpArgs false

theorem row_blk {W : World} {B n c : Nat} {A : Option Addr} {L : List Pr} (h : ROwn pvc 2 W B 42 (.slice A n c) n L) : ∃ g, B ≤ g ∧ (0 < n → A = some ⟨g, 0, none⟩ ∧ ∃ cur, Blk W g cur 42 ∧ 2 * n ≤ cur.size) := by
  rcases h.2.2 with ⟨_, h2⟩ | ⟨g, cap, cur, e, hB, hg, hn, hm, hs, ht⟩
  · exact ⟨B, Nat.le_refl _, fun h => by omega⟩
  · cases e
    exact ⟨g, hB, fun _ => ⟨rfl, cur, hg, by omega⟩⟩
theorem asP_len {s : ByteArray} (hs : s.size ≤ 9000) : (asP s).2.2.2.length ≤ 100000 := by
  cases h : okA s with
  | true => exact (asP_ok h hs).2.2.2.1
  | false => unfold asP; rw [h]; exact Nat.zero_le _
set_option maxRecDepth 100000 in
set_option maxHeartbeats 16000000 in
theorem answers_walk (er : Int) (fo : Bool) (av : ByteArray) (ps : List Pr) (A : Option Addr) (n c : Nat) (s : ByteArray) (W : World) (ha : inI er) (hr : RSl pvc 2 W A n ps ∧ n ≤ maxLen) (hs : s.size ≤ maxLen) (hg : Gl W) :
    Calls Tryd.prog 4 #[.agg #[.int .i64 er, .bool fo, .string av, .slice A n c], .string s] W fun e w' => e = .returned (.bool true) ∧ Below W.heap.size W w' := by
  have b1 : Below W.heap.size W (W.alloc (.cells #[.int .i64 er, .bool fo, .string av, .slice A n c] 37)) := (Below.refl _ _).alloc (Nat.le_refl _) _
  have HA : Hid (Blk (W.alloc (.cells #[.int .i64 er, .bool fo, .string av, .slice A n c] 37)) W.heap.size #[.int .i64 er, .bool fo, .string av, .slice A n c] 37) := Blk.new _ _ _
  have HB := Lib.hid b1
  have HG := Lib.hid (hg.later HB.out)
  have HR := Lib.hid (hr.1.later HB.out)
  have HN := Lib.hid hr.2
  have HLN : Hid (ps.length = n) := Lib.hid hr.1.1
  have HER := Lib.hid ha
  have HSS := Lib.hid hs
  clear hg b1 hr ha hs
  go_enter Tryd.func4, Tryd.ntmps4
  go_upto_region 1 with (fail)
  generalize (W.alloc (.cells #[.int .i64 er, .bool fo, .string av, .slice A n c] 37)) = w2 at *
  obtain ⟨p3, hp3⟩ : ∃ x, W.heap.size = x := ⟨_, rfl⟩
  have HP3 := Lib.hid hp3
  rw [hp3] at HA
  rw [hp3]
  clear hp3
  have y0 := HA.out.cell 0
  have y1 := HA.out.cell 1
  have y2 := HA.out.cell 2
  have y3 := HA.out.cell 3
  simp only [List.getElem?_toArray, List.getElem?_cons_zero, List.getElem?_cons_succ] at y0 y1 y2 y3
  have hby : Below w2.heap.size w2 (w2.alloc (.cells #[.int .i64 er, .bool fo, .string av, .slice A n c] 37)) := (Below.refl _ _).alloc (Nat.le_refl _) _
  have hbs : Blk (w2.alloc (.cells #[.int .i64 er, .bool fo, .string av, .slice A n c] 37)) w2.heap.size #[.int .i64 er, .bool fo, .string av, .slice A n c] 37 := Blk.new _ _ _
  have HL := Lib.hid (wide_any (some ⟨w2.heap.size, 0, none⟩) 1 1 [((er, fo, av, ps), A, n, c)] (w2.alloc (.cells #[.int .i64 er, .bool fo, .string av, .slice A n c] 37)) (Blk.rsl (enc := asE) (x := ((er, fo, av, ps), A, n, c)) hbs) (fun x hx => by
    obtain rfl := List.mem_singleton.1 hx
    exact ⟨HR.out.later hby, HN.out⟩) (by decide))
  replace HA := Lib.hid (HA.out.later hby)
  replace HG := Lib.hid (HG.out.later hby)
  replace HR := Lib.hid (HR.out.later hby)
  replace HB := Lib.hid (stepB HB.out hby)
  clear hby hbs
  go_wp2_with fail
  clear y0 y1 y2 y3
  refine HL.out.mono ?_
  rintro e w6 ⟨rfl, hb⟩
  replace HA := Lib.hid (HA.out.later hb)
  replace HG := Lib.hid (HG.out.later hb)
  replace HR := Lib.hid (HR.out.later hb)
  replace HB := Lib.hid (stepB HB.out hb)
  clear hb HL
  obtain ⟨bl_, hbl⟩ : ∃ b, decide (9000 ≤ wdS 0 [((er, fo, av, ps), A, n, c)]) = b := ⟨_, rfl⟩
  rw [hbl]
  have HWD := Lib.hid hbl
  clear hbl
  cases bl_ with
  | true =>
    go_wp2_with fail
    refine (works_any w6 HG.out).mono ?_
    rintro e w7 ⟨rfl, hb⟩
    replace HB := Lib.hid (stepB HB.out hb)
    clear hb
    go_wp2
    go_ret
    exact ⟨rfl, HB.out⟩
  | false =>
    by_cases hsz : 9000 < s.size
    · have d9 : decide (9000 < (s.size : Int)) = true := decide_eq_true (by omega)
      clear hsz
      go_wp2_with fail
      refine (works_any w6 HG.out).mono ?_
      rintro e w7 ⟨rfl, hb⟩
      replace HB := Lib.hid (stepB HB.out hb)
      clear hb
      go_wp2
      go_ret
      exact ⟨rfl, HB.out⟩
    · have d9 : decide (9000 < (s.size : Int)) = false := decide_eq_false (by omega)
      have HSZ : Hid (s.size ≤ 9000) := Lib.hid (by omega)
      clear hsz
      have HAO := Lib.hid (ao_of HER.out HWD.out)
      have HTZ : Hid (n ≤ 100000) := Lib.hid (by have h1 := HAO.out.2.2.2.1; have h2 := HLN.out; simp only at h1; omega)
      have HTS : Hid ((joinW (tellL er fo av ps)).size ≤ 100000) := HAO.out.2.2.2.2
      clear HWD HSS
      go_wp2
      clear d9
      go_loopw [5] (fun ri V => ∃ k : Nat, k ≤ 2 ∧ ri = .int .i64 k ∧ Below w6.heap.size w6 V) (fun ri _ => 2 - (intOf ri).toNat)
      case atStart => exact ⟨0, by omega, rfl, Below.refl _ _⟩
      case round =>
        obtain ⟨k, hk, rfl, hb⟩ := hrel
        have HV := Lib.hid hb
        replace HA := Lib.hid (HA.out.later hb)
        replace HG := Lib.hid (HG.out.later hb)
        replace HR := Lib.hid (HR.out.later hb)
        replace HB := Lib.hid (stepB HB.out hb)
        clear hb
        obtain ⟨V0, hV0⟩ : ∃ V, V = wr := ⟨_, rfl⟩
        rw [← hV0]
        rw [← hV0] at HV HA HG HR HB
        clear hV0
        have HV0 := Lib.hid HV.out.size
        by_cases hlt : k < 2
        · have d1 : decide ((k : Int) < 2) = true := decide_eq_true (by omega)
          have wk : IntKind.i64.wrap ((k : Int) + 1) = (k : Int) + 1 := IntWalk.i64_in _ (by omega)
          have HRE := Lib.hid (read_any s V0 (by have := HSZ.out; omega) HG.out)
          go_wp2_with fail
          refine HRE.out.mono ?_
          rintro e w7 ⟨v, rfl, hrow, hb⟩
          replace HA := Lib.hid (HA.out.later hb)
          replace HG := Lib.hid (HG.out.later hb)
          replace HR := Lib.hid (HR.out.later hb)
          replace HB := Lib.hid (stepB HB.out hb)
          replace HV := Lib.hid (stepB HV.out hb)
          clear hb HRE
          obtain ⟨d, hd⟩ : ∃ y, asP s = y := ⟨_, rfl⟩
          obtain ⟨he_, hhe⟩ : ∃ y, rdE s = y := ⟨_, rfl⟩
          have HD := Lib.hid hd
          have HHE := Lib.hid hhe
          have HLN3 : Hid (d.2.2.2.length ≤ 100000) := Lib.hid (hd ▸ asP_len HSZ.out)
          rw [show (if okA s = true then (0 : Int) else 4) = he_ from hhe]
          rw [hd] at hrow ⊢
          clear hd hhe
          obtain ⟨er3, fo3, av3, ps3⟩ := d
          unfold asV
          simp only at hrow HLN3 ⊢
          obtain ⟨n3, hn3⟩ : ∃ z, ps3.length = z := ⟨_, rfl⟩
          have HN3 := Lib.hid hn3
          clear hn3
          rw [HN3.out] at HLN3
          obtain ⟨A3, c3, hv, _, _⟩ := hrow.sl
          subst hv
          have HRSp6 := Lib.hid (hrow.rsl pvc_len)
          have HROp6 := Lib.hid hrow
          clear hrow
          rw [HN3.out] at HRSp6 HROp6
          try rw [HN3.out]
          have hby : Below w7.heap.size w7 (w7.alloc (.cells #[.int .i64 er3, .bool fo3, .string av3, .slice A3 n3 c3] 37)) := (Below.refl _ _).alloc (Nat.le_refl _) _
          have HBKp6 : Hid (Blk (w7.alloc (.cells #[.int .i64 er3, .bool fo3, .string av3, .slice A3 n3 c3] 37)) w7.heap.size #[.int .i64 er3, .bool fo3, .string av3, .slice A3 n3 c3] 37) := Blk.new _ _ _
          replace HA := Lib.hid (HA.out.later hby)
          replace HG := Lib.hid (HG.out.later hby)
          replace HR := Lib.hid (HR.out.later hby)
          replace HB := Lib.hid (stepB HB.out hby)
          replace HV := Lib.hid (stepB HV.out hby)
          replace HRSp6 := Lib.hid (HRSp6.out.later hby)
          replace HROp6 := Lib.hid (HROp6.out.later hby)
          clear hby
          go_upto_region 7 with (fail)
          generalize w7.alloc (.cells #[.int .i64 er3, .bool fo3, .string av3, .slice A3 n3 c3] 37) = w8 at *
          obtain ⟨p6, hp_⟩ : ∃ x, w7.heap.size = x := ⟨_, rfl⟩
          rw [hp_] at HBKp6 ⊢
          clear hp_
          have HRE := Lib.hid (rread_same s w8 (by have := HSZ.out; omega))
          go_wp2_with fail
          refine HRE.out.mono ?_
          rintro e w9 ⟨v, rfl, hrow, hb⟩
          replace HA := Lib.hid (HA.out.later hb)
          replace HG := Lib.hid (HG.out.later hb)
          replace HR := Lib.hid (HR.out.later hb)
          replace HB := Lib.hid (stepB HB.out hb)
          replace HV := Lib.hid (stepB HV.out hb)
          replace HRSp6 := Lib.hid (HRSp6.out.later hb)
          replace HROp6 := Lib.hid (HROp6.out.later hb)
          replace HBKp6 := Lib.hid (HBKp6.out.later hb)
          clear hb HRE
          rw [show (if okA s = true then (0 : Int) else 4) = he_ from HHE.out]
          rw [HD.out] at hrow ⊢
          unfold asV
          simp only at hrow ⊢
          obtain ⟨A4, c4, hv, _, _⟩ := hrow.sl
          subst hv
          have HRSp8 := Lib.hid (hrow.rsl pvc_len)
          have HROp8 := Lib.hid hrow
          clear hrow
          rw [HN3.out] at HRSp8 HROp8
          try rw [HN3.out]
          have hby : Below w9.heap.size w9 (w9.alloc (.cells #[.int .i64 er3, .bool fo3, .string av3, .slice A4 n3 c4] 37)) := (Below.refl _ _).alloc (Nat.le_refl _) _
          have HBKp8 : Hid (Blk (w9.alloc (.cells #[.int .i64 er3, .bool fo3, .string av3, .slice A4 n3 c4] 37)) w9.heap.size #[.int .i64 er3, .bool fo3, .string av3, .slice A4 n3 c4] 37) := Blk.new _ _ _
          replace HA := Lib.hid (HA.out.later hby)
          replace HG := Lib.hid (HG.out.later hby)
          replace HR := Lib.hid (HR.out.later hby)
          replace HB := Lib.hid (stepB HB.out hby)
          replace HV := Lib.hid (stepB HV.out hby)
          replace HRSp6 := Lib.hid (HRSp6.out.later hby)
          replace HROp6 := Lib.hid (HROp6.out.later hby)
          replace HBKp6 := Lib.hid (HBKp6.out.later hby)
          replace HRSp8 := Lib.hid (HRSp8.out.later hby)
          replace HROp8 := Lib.hid (HROp8.out.later hby)
          clear hby
          go_upto_region 8 with (fail)
          generalize w9.alloc (.cells #[.int .i64 er3, .bool fo3, .string av3, .slice A4 n3 c4] 37) = w10 at *
          obtain ⟨p8, hp_⟩ : ∃ x, w9.heap.size = x := ⟨_, rfl⟩
          rw [hp_] at HBKp8 ⊢
          clear hp_
          clear HHE HD
          refine wp_region_noPanic ?_
          obtain ⟨W0, rfl⟩ : ∃ W0 : World, W0 = w10 := ⟨_, rfl⟩
          refine wp_region_held_drew (S := fun W => Below W0.heap.size W0 W) (by kernel_rfl) (Below.drew (Below.refl _ _)) (fun hHeld => ?_)
          have HH := Lib.hid hHeld
          have HCA : Hid (∀ V, Below W0.heap.size W0 V → Calls Tryd.prog 18 #[.agg #[.int .i64 er3, .bool fo3, .string av3, .slice A3 n3 c3], .agg #[.int .i64 er3, .bool fo3, .string av3, .slice A4 n3 c4]] V fun e w' => e = .returned (.bool true) ∧ Below V.heap.size V w') := Lib.hid (fun V hV => by
            have h := answers_any er3 er3 fo3 fo3 av3 av3 A3 A4 n3 n3 c3 c4 ps3 ps3 V (HRSp6.out.later hV) (HRSp8.out.later hV) HLN3.out
            unfold Bl at h
            rw [decide_eq_true rfl] at h
            exact h)
          obtain ⟨R, hR⟩ : ∃ z, joinW (tellL er fo av ps) = z := ⟨_, rfl⟩
          have HTE : Hid (∀ V, Below W0.heap.size W0 V → Calls Tryd.prog 22 #[.agg #[.int .i64 er, .bool fo, .string av, .slice A n c]] V fun e w' => e = .returned (.string R) ∧ Below V.heap.size V w') := Lib.hid (fun V hV => by
            have h := tell_any er fo av A n c ps V HER.out HAO.out.2.1 HAO.out.2.2.1 (HR.out.later hV) HTZ.out (HG.out.later hV) (by have := HTS.out; omega)
            rw [hR] at h
            exact h)
          have HTR : Hid (∀ V, Below W0.heap.size W0 V → Calls Tryd.prog 23 #[.agg #[.int .i64 er, .bool fo, .string av, .slice A n c]] V fun e w' => e = .returned (.string R) ∧ Below V.heap.size V w') := Lib.hid (fun V hV => by
            have h := rtell_any er fo av A n c ps V HER.out HAO.out.2.1 HAO.out.2.2.1 (HR.out.later hV) HTZ.out
            rw [show telT (er, fo, av, ps) = R from hR] at h
            exact h)
          have qs : (R.toList == R.toList) = true := by simp
          have qe : (he_ == he_) = true := by simp
          clear hR
          refine wpAnyH_take (i := 0) (oi := { dst := some 34, op := Op.move (Operand.tmp 7), type := 26, pos := "law.go:56", after := #[], guard := none }) (v := ?_) rfl (by kernel_rfl) (by kernel_rfl) (by kernel_rfl) (fun _ _ _ h => h) (Or.inl ⟨by rfl, ?_⟩) (by assumption) ?_
          rotate_left
          · intro W hSw
            clear hSw
            go_simp
            try with_reducible rfl
          simp only [Act.put, List.setIfInBounds_toArray, List.set_cons_zero, List.set_cons_succ]
          refine wpAnyH_take (i := 1) (oi := { dst := some 35, op := Op.move (Operand.tmp 9), type := 26, pos := "law.go:56", after := #[], guard := none }) (v := ?_) rfl (by kernel_rfl) (by kernel_rfl) (by kernel_rfl) (fun _ _ _ h => h) (Or.inl ⟨by rfl, ?_⟩) (by assumption) ?_
          rotate_left
          · intro W hSw
            clear hSw
            go_simp
            try with_reducible rfl
          simp only [Act.put, List.setIfInBounds_toArray, List.set_cons_zero, List.set_cons_succ]
          refine wpAnyH_take (i := 2) (oi := { dst := some 36, op := Op.binOp BinOp.neq 26 (Operand.tmp 34) (Operand.tmp 35) 26, type := 4, pos := "law.go:56", after := #[{ on := 0, ground := Ground.data }, { on := 1, ground := Ground.data }], guard := none }) (v := ?_) rfl (by kernel_rfl) (by kernel_rfl) (by kernel_rfl) (fun _ _ _ h => h) (Or.inl ⟨by rfl, ?_⟩) (by assumption) ?_
          rotate_left
          · intro W hSw
            clear hSw
            have qe2 := qe
            go_simp
            try with_reducible rfl
          simp only [Act.put, List.setIfInBounds_toArray, List.set_cons_zero, List.set_cons_succ]
          refine wpAnyH_take (i := 3) (oi := { dst := some 37, op := Op.move (Operand.tmp 36), type := 4, pos := "law.go:56", after := #[{ on := 2, ground := Ground.data }], guard := none }) (v := ?_) rfl (by kernel_rfl) (by kernel_rfl) (by kernel_rfl) (fun _ _ _ h => h) (Or.inl ⟨by rfl, ?_⟩) (by assumption) ?_
          rotate_left
          · intro W hSw
            clear hSw
            go_simp
            try with_reducible rfl
          simp only [Act.put, List.setIfInBounds_toArray, List.set_cons_zero, List.set_cons_succ]
          refine wpAnyH_take (i := 4) (oi := { dst := some 38, op := Op.load 37 (Operand.tmp 6), type := 37, pos := "law.go:56", after := #[{ on := 3, ground := Ground.guard }], guard := some (3, false) }) (v := ?_) rfl (by kernel_rfl) (by kernel_rfl) (by kernel_rfl) (fun _ _ _ h => h) (Or.inl ⟨by rfl, ?_⟩) (by assumption) ?_
          rotate_left
          · intro W hSw
            have k0 := (HBKp6.out.later hSw).cell 0
            have k1 := (HBKp6.out.later hSw).cell 1
            have k2 := (HBKp6.out.later hSw).cell 2
            have k3 := (HBKp6.out.later hSw).cell 3
            simp only [List.getElem?_toArray, List.getElem?_cons_zero, List.getElem?_cons_succ] at k0 k1 k2 k3
            go_simp
            try with_reducible rfl
          simp only [Act.put, List.setIfInBounds_toArray, List.set_cons_zero, List.set_cons_succ]
          refine wpAnyH_take (i := 5) (oi := { dst := some 39, op := Op.load 37 (Operand.tmp 8), type := 37, pos := "law.go:56", after := #[{ on := 3, ground := Ground.guard }], guard := some (3, false) }) (v := ?_) rfl (by kernel_rfl) (by kernel_rfl) (by kernel_rfl) (fun _ _ _ h => h) (Or.inl ⟨by rfl, ?_⟩) (by assumption) ?_
          rotate_left
          · intro W hSw
            have k0 := (HBKp8.out.later hSw).cell 0
            have k1 := (HBKp8.out.later hSw).cell 1
            have k2 := (HBKp8.out.later hSw).cell 2
            have k3 := (HBKp8.out.later hSw).cell 3
            simp only [List.getElem?_toArray, List.getElem?_cons_zero, List.getElem?_cons_succ] at k0 k1 k2 k3
            go_simp
            try with_reducible rfl
          simp only [Act.put, List.setIfInBounds_toArray, List.set_cons_zero, List.set_cons_succ]
          refine wpAnyH_ready (rs := [6]) (by kernel_rfl) (by simp) (AllReadyH.cons (o := { dst := some 40, op := Op.call { callee := Callee.value (Operand.func 18), args := #[Operand.tmp 38, Operand.tmp 39], argTypes := #[37, 37] }, type := 4, pos := "law.go:56", after := #[{ on := 4, ground := Ground.data }, { on := 5, ground := Ground.data }, { on := 3, ground := Ground.chain }, { on := 3, ground := Ground.guard }], guard := some (3, false) }) rfl (fun K hK => ?_) AllReadyH.nil)
          have HCL := Lib.hid (HCA.out _ HH.out)
          go_simp
          refine HCL.out.mono ?_
          rintro e Wa ⟨rfl, hb⟩
          replace HH := Lib.hid (stepB HH.out hb)
          clear hb HCL hHeld
          refine hK.out _ _ HH.out (fun hHeld => ?_)
          clear hK K
          refine wpAnyH_take (i := 7) (oi := { dst := some 41, op := Op.unOp UnOp.not 4 (Operand.tmp 40), type := 4, pos := "law.go:56", after := #[{ on := 6, ground := Ground.data }, { on := 3, ground := Ground.guard }], guard := some (3, false) }) (v := ?_) rfl (by kernel_rfl) (by kernel_rfl) (by kernel_rfl) (fun _ _ _ h => h) (Or.inl ⟨by rfl, ?_⟩) (by assumption) ?_
          rotate_left
          · intro W hSw
            clear hSw
            go_simp
            try with_reducible rfl
          simp only [Act.put, List.setIfInBounds_toArray, List.set_cons_zero, List.set_cons_succ]
          refine wpAnyH_take (i := 8) (oi := { dst := some 42, op := Op.pick (Operand.tmp 37) (Operand.const (Value.bool true)) (Operand.tmp 41), type := 4, pos := "law.go:56", after := #[{ on := 3, ground := Ground.data }, { on := 7, ground := Ground.data }], guard := none }) (v := ?_) rfl (by kernel_rfl) (by kernel_rfl) (by kernel_rfl) (fun _ _ _ h => h) (Or.inl ⟨by rfl, ?_⟩) (by assumption) ?_
          rotate_left
          · intro W hSw
            clear hSw
            go_simp
            try with_reducible rfl
          simp only [Act.put, List.setIfInBounds_toArray, List.set_cons_zero, List.set_cons_succ]
          refine wpAnyH_take (i := 9) (oi := { dst := some 43, op := Op.move (Operand.tmp 42), type := 4, pos := "law.go:56", after := #[{ on := 8, ground := Ground.data }, { on := 6, ground := Ground.chain }], guard := none }) (v := ?_) rfl (by kernel_rfl) (by kernel_rfl) (by kernel_rfl) (fun _ _ _ h => h) (Or.inl ⟨by rfl, ?_⟩) (by assumption) ?_
          rotate_left
          · intro W hSw
            clear hSw
            go_simp
            try with_reducible rfl
          simp only [Act.put, List.setIfInBounds_toArray, List.set_cons_zero, List.set_cons_succ]
          refine wpAnyH_take (i := 10) (oi := { dst := some 44, op := Op.load 37 (Operand.tmp 2), type := 37, pos := "law.go:56", after := #[{ on := 9, ground := Ground.guard }], guard := some (9, false) }) (v := ?_) rfl (by kernel_rfl) (by kernel_rfl) (by kernel_rfl) (fun _ _ _ h => h) (Or.inl ⟨by rfl, ?_⟩) (by assumption) ?_
          rotate_left
          · intro W hSw
            have k0 := (HA.out.later hSw).cell 0
            have k1 := (HA.out.later hSw).cell 1
            have k2 := (HA.out.later hSw).cell 2
            have k3 := (HA.out.later hSw).cell 3
            simp only [List.getElem?_toArray, List.getElem?_cons_zero, List.getElem?_cons_succ] at k0 k1 k2 k3
            go_simp
            try with_reducible rfl
          simp only [Act.put, List.setIfInBounds_toArray, List.set_cons_zero, List.set_cons_succ]
          refine wpAnyH_take (i := 12) (oi := { dst := some 46, op := Op.load 37 (Operand.tmp 2), type := 37, pos := "law.go:56", after := #[{ on := 9, ground := Ground.guard }], guard := some (9, false) }) (v := ?_) rfl (by kernel_rfl) (by kernel_rfl) (by kernel_rfl) (fun _ _ _ h => h) (Or.inl ⟨by rfl, ?_⟩) (by assumption) ?_
          rotate_left
          · intro W hSw
            have k0 := (HA.out.later hSw).cell 0
            have k1 := (HA.out.later hSw).cell 1
            have k2 := (HA.out.later hSw).cell 2
            have k3 := (HA.out.later hSw).cell 3
            simp only [List.getElem?_toArray, List.getElem?_cons_zero, List.getElem?_cons_succ] at k0 k1 k2 k3
            go_simp
            try with_reducible rfl
          simp only [Act.put, List.setIfInBounds_toArray, List.set_cons_zero, List.set_cons_succ]
          refine wpAnyH_ready (rs := [11]) (by kernel_rfl) (by simp) (AllReadyH.cons (o := { dst := some 45, op := Op.call { callee := Callee.value (Operand.func 22), args := #[Operand.tmp 44], argTypes := #[37] }, type := 9, pos := "law.go:56", after := #[{ on := 10, ground := Ground.data }, { on := 9, ground := Ground.chain }, { on := 9, ground := Ground.guard }], guard := some (9, false) }) rfl (fun K hK => ?_) AllReadyH.nil)
          have HCL := Lib.hid (HTE.out _ HH.out)
          go_simp
          refine HCL.out.mono ?_
          rintro e Wb ⟨rfl, hb⟩
          replace HH := Lib.hid (stepB HH.out hb)
          clear hb HCL hHeld
          refine hK.out _ _ HH.out (fun hHeld => ?_)
          clear hK K
          refine wpAnyH_ready (rs := [13]) (by kernel_rfl) (by simp) (AllReadyH.cons (o := { dst := some 47, op := Op.call { callee := Callee.value (Operand.func 23), args := #[Operand.tmp 46], argTypes := #[37] }, type := 9, pos := "law.go:56", after := #[{ on := 12, ground := Ground.data }, { on := 11, ground := Ground.chain }, { on := 9, ground := Ground.guard }], guard := some (9, false) }) rfl (fun K hK => ?_) AllReadyH.nil)
          have HCL := Lib.hid (HTR.out _ HH.out)
          go_simp
          refine HCL.out.mono ?_
          rintro e Wc ⟨rfl, hb⟩
          replace HH := Lib.hid (stepB HH.out hb)
          clear hb HCL hHeld
          refine hK.out _ _ HH.out (fun hHeld => ?_)
          clear hK K
          refine wpAnyH_take (i := 14) (oi := { dst := some 48, op := Op.binOp BinOp.neq 9 (Operand.tmp 45) (Operand.tmp 47) 9, type := 4, pos := "law.go:56", after := #[{ on := 11, ground := Ground.data }, { on := 13, ground := Ground.data }, { on := 9, ground := Ground.guard }], guard := some (9, false) }) (v := ?_) rfl (by kernel_rfl) (by kernel_rfl) (by kernel_rfl) (fun _ _ _ h => h) (Or.inl ⟨by rfl, ?_⟩) (by assumption) ?_
          rotate_left
          · intro W hSw
            clear hSw
            have qs2 := qs
            go_simp
            try with_reducible rfl
          simp only [Act.put, List.setIfInBounds_toArray, List.set_cons_zero, List.set_cons_succ]
          refine wpAnyH_take (i := 15) (oi := { dst := some 49, op := Op.pick (Operand.tmp 43) (Operand.const (Value.bool true)) (Operand.tmp 48), type := 4, pos := "law.go:56", after := #[{ on := 9, ground := Ground.data }, { on := 14, ground := Ground.data }], guard := none }) (v := ?_) rfl (by kernel_rfl) (by kernel_rfl) (by kernel_rfl) (fun _ _ _ h => h) (Or.inl ⟨by rfl, ?_⟩) (by assumption) ?_
          rotate_left
          · intro W hSw
            clear hSw
            go_simp
            try with_reducible rfl
          simp only [Act.put, List.setIfInBounds_toArray, List.set_cons_zero, List.set_cons_succ]
          refine wpAnyH_done (by kernel_rfl) (NoPanic.normal ?_) _
          have HBX := Lib.hid (HBKp6.out.later HH.out)
          have HRX := Lib.hid (HROp6.out.later HH.out)
          have HVX := Lib.hid (stepB HV.out HH.out)
          clear hHeld HH HCA HTE HTR qs qe HA HG HR HB HV HBKp6 HBKp8 HRSp6 HRSp8 HROp6 HROp8
          obtain ⟨gg, hgg, hrb⟩ := row_blk HRX.out
          clear HRX
          go_wp2
          go_loopw [10] (fun ix V => ∃ j : Nat, j ≤ n3 ∧ ix = .int .i64 j ∧ Blk V p6 #[.int .i64 er3, .bool fo3, .string av3, .slice A3 n3 c3] 37 ∧ (0 < n3 → A3 = some ⟨gg, 0, none⟩ ∧ ∃ cur, Blk V gg cur 42 ∧ 2 * n3 ≤ cur.size) ∧ Below w6.heap.size w6 V) (fun ix _ => n3 - (intOf ix).toNat)
          case atStart => exact ⟨0, Nat.zero_le _, rfl, HBX.out, hrb, HVX.out⟩
          case round =>
            clear HBX HVX hrb
            obtain ⟨j, hj, rfl, hbx, hrb, hb⟩ := hrel
            have HBX := Lib.hid hbx
            have HVX := Lib.hid hb
            clear hbx hb
            have x3 := HBX.out.cell 3
            simp only [List.getElem?_toArray, List.getElem?_cons_zero, List.getElem?_cons_succ] at x3
            by_cases hjl : j < n3
            · have d2 : decide ((j : Int) < (n3 : Int)) = true := decide_eq_true (by omega)
              have wj : IntKind.i64.wrap ((j : Int) + 1) = (j : Int) + 1 := IntWalk.i64_in _ (by have := HLN3.out; omega)
              obtain ⟨hA3, cur, hcu, hcs⟩ := hrb (by omega)
              subst hA3
              have HCU := Lib.hid hcu
              have HCS := Lib.hid hcs
              have i1 := idx35 gg 0 n3 c3 j (j : Int) rfl hjl
              rw [Nat.zero_add] at i1
              have c0 := hcu.cell (j * 2)
              obtain ⟨x0, hx0⟩ : ∃ x, cur[j * 2]? = some x := ⟨_, Array.getElem?_eq_getElem (show j * 2 < cur.size by omega)⟩
              rw [hx0] at c0
              clear hx0
              have f0 := hcu.frozen (j * 2)
              have HNE : Hid (p6 ≠ gg) := Lib.hid (HBX.out.ne hcu (by decide))
              have HLE : Hid (w6.heap.size ≤ gg) := Lib.hid (by have := HV0.out; omega)
              clear hcu hcs hrb
              go_wp2
              go_roundw
              case rel => exact ⟨j + 1, by omega, by go_num, HBX.out.other HNE.out _, fun _ => ⟨by first | rfl | trivial, _, HCU.out.set _, by rw [Array.size_setIfInBounds]; exact HCS.out⟩, HVX.out.setCell (p := ⟨gg, j * 2, none⟩) HLE.out _⟩
              case measure => simp [intOf]; omega
            · have d2 : decide ((j : Int) < (n3 : Int)) = false := decide_eq_false (by omega)
              clear hrb
              go_wp2
              go_roundw
              case rel => exact ⟨k + 1, by omega, by go_num, HVX.out⟩
              case measure => simp [intOf]; omega
        · have d1 : decide ((k : Int) < 2) = false := decide_eq_false (by omega)
          go_wp2_with fail
          refine (works_any V0 HG.out).mono ?_
          rintro e w7 ⟨rfl, hb⟩
          replace HB := Lib.hid (stepB HB.out hb)
          clear hb
          go_wp2
          go_ret
          exact ⟨rfl, HB.out⟩
end Go.Proofs.YtkgdmdcnhbaidaaDoor
