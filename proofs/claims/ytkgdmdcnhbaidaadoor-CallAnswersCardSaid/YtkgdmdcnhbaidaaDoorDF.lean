/- The document's told: what a text's word says. -/
import Derived.Test.YtkgdmdcnhbaidaaDoorDD
namespace Go.Proofs.YtkgdmdcnhbaidaaDoor
open Go.ChangeShapes Go.WideShapes Go.ChangeAt Go.RowKit
set_option linter.unusedVariables false
set_option linter.unusedSimpArgs false

def tolB (a b : UInt8) : UInt8 := UInt8.ofNat ((16 * dgN a.toNat % 256 + dgN b.toNat) % 256)
def tolL : List UInt8 → List UInt8
  | a :: b :: l => tolB a b :: tolL l
  | _ => []
theorem tolL_step : ∀ (k : Nat) (l : List UInt8) (a b : UInt8), l[2 * k]? = some a → l[2 * k + 1]? = some b → tolL (l.take (2 * (k + 1))) = tolL (l.take (2 * k)) ++ [tolB a b]
  | 0, x :: y :: l, a, b, h1, h2 => by
    simp at h1 h2
    subst h1 h2
    rfl
  | 0, [x], a, b, h1, h2 => by simp at h2
  | 0, [], a, b, h1, h2 => by simp at h1
  | k + 1, x :: y :: l, a, b, h1, h2 => by
    have ih := tolL_step k l a b (by rw [show 2 * (k + 1) = 2 * k + 1 + 1 by omega] at h1; simpa using h1) (by rw [show 2 * (k + 1) + 1 = 2 * k + 1 + 1 + 1 by omega] at h2; simpa using h2)
    rw [show 2 * (k + 1 + 1) = 2 * (k + 1) + 1 + 1 by omega, show 2 * (k + 1) = 2 * k + 1 + 1 by omega, List.take_succ_cons, List.take_succ_cons, List.take_succ_cons, List.take_succ_cons, tolL, tolL, ← show 2 * (k + 1) = 2 * k + 1 + 1 by omega, ih]
    rfl
  | k + 1, [x], a, b, h1, h2 => by
    rw [show 2 * (k + 1) = 2 * k + 1 + 1 by omega] at h1
    simp at h1
  | k + 1, [], a, b, h1, h2 => by simp at h1
theorem tolL_end : ∀ (k : Nat) (l : List UInt8), l.length ≤ 2 * k + 1 → tolL (l.take (2 * k)) = tolL l
  | 0, [], _ => rfl
  | 0, [x], _ => rfl
  | 0, x :: y :: l, h => by simp at h
  | k + 1, [], _ => by simp [tolL]
  | k + 1, [x], _ => by
    rw [show 2 * (k + 1) = 2 * k + 1 + 1 by omega, List.take_succ_cons]
    simp [tolL]
  | k + 1, x :: y :: l, h => by
    have ih := tolL_end k l (by simp at h; omega)
    rw [show 2 * (k + 1) = 2 * k + 1 + 1 by omega, List.take_succ_cons, List.take_succ_cons, tolL, tolL, ih]
theorem dg_lt (c : Nat) : dgN c < 256 := by unfold dgN; split <;> exact Nat.mod_lt _ (by decide)
set_option maxRecDepth 100000 in
set_option maxHeartbeats 16000000 in
theorem rtold_any (s : ByteArray) (w : World) (hs : s.size ≤ 100000) : Calls Tryd.prog 45 #[.string s] w fun e w' => e = .returned (.string (ofL (tolL s.data.toList))) ∧ Below w.heap.size w w' := by
  obtain ⟨n, hn⟩ : ∃ n, s.size = n := ⟨_, rfl⟩
  have HLN : Hid (s.data.toList.length = n) := Lib.hid hn
  have HNS : Hid (n ≤ 100000) := Lib.hid (by omega)
  have HB : Hid (Below w.heap.size w w) := Lib.hid (Below.refl _ _)
  obtain ⟨R, hR⟩ : ∃ R, ofL (tolL s.data.toList) = R := ⟨_, rfl⟩
  have HR := Lib.hid hR
  rw [hR]
  clear hs hR
  go_enter Tryd.func45, Tryd.ntmps45
  go_wp2
  go_loopw [3, 4] (fun o i W => ∃ (k : Nat) (t : ByteArray), 2 * k ≤ n + 1 ∧ i = .int .i64 ((2 * k : Nat) : Int) ∧ o = .string t ∧ t.data.toList = tolL (s.data.toList.take (2 * k)) ∧ t.size ≤ k ∧ Below w.heap.size w W) (fun _ i _ => n + 1 - (intOf i).toNat)
  case atStart => exact ⟨0, _, Nat.zero_le _, rfl, rfl, rfl, Nat.le_refl _, HB.out⟩
  case round =>
    obtain ⟨k, t, hk, rfl, rfl, ht, hts, hb⟩ := hrel
    have HT := Lib.hid ht
    have HTS := Lib.hid hts
    have HB1 := Lib.hid hb
    clear ht hts hb HB
    obtain ⟨m, hm⟩ : ∃ m, 2 * k = m := ⟨_, rfl⟩
    have HM := Lib.hid hm
    rw [hm] at hk HT ⊢
    clear hm
    have wk : IntKind.i64.wrap ((m : Int) + 1) = (m : Int) + 1 := IntWalk.i64_in _ (by have := HNS.out; omega)
    have wk2 : IntKind.i64.wrap ((m : Int) + 2) = (m : Int) + 2 := IntWalk.i64_in _ (by have := HNS.out; omega)
    by_cases hlt : m + 1 < n
    · have d2 : decide ((m : Int) + 1 < (n : Int)) = true := decide_eq_true (by omega)
      have d2' : decide (m + 1 < n) = true := decide_eq_true hlt
      have HI1 := Lib.hid (sindex_ s m (m : Int) rfl (by rw [hn]; omega))
      have HI2 := Lib.hid (sindex_ s (m + 1) ((m : Int) + 1) (by omega) (by rw [hn]; omega))
      have hr1 : s.data.toList[m]? = some (s.data.toList.getD m 0) := by rw [List.getD_eq_getElem?_getD, List.getElem?_eq_getElem (by have := HLN.out; omega)]; rfl
      have hr2 : s.data.toList[m + 1]? = some (s.data.toList.getD (m + 1) 0) := by rw [List.getD_eq_getElem?_getD, List.getElem?_eq_getElem (by have := HLN.out; omega)]; rfl
      obtain ⟨c1, hc1⟩ : ∃ c, s.data.toList.getD m 0 = c := ⟨_, rfl⟩
      obtain ⟨c2, hc2⟩ : ∃ c, s.data.toList.getD (m + 1) 0 = c := ⟨_, rfl⟩
      rw [hc1] at HI1 hr1
      rw [hc2] at HI2 hr2
      obtain ⟨ch, hch⟩ : ∃ c, tolB c1 c2 = c := ⟨_, rfl⟩
      have HTK : Hid (tolL (s.data.toList.take (m + 2)) = t.data.toList ++ [ch]) := Lib.hid (by
        have h := tolL_step k s.data.toList c1 c2 (by rw [HM.out]; exact hr1) (by rw [HM.out]; exact hr2)
        rw [show 2 * (k + 1) = m + 2 by have := HM.out; omega, HM.out, hch, ← HT.out] at h
        exact h)
      obtain ⟨e1, he1⟩ : ∃ d, dgN c1.toNat = d := ⟨_, rfl⟩
      obtain ⟨e2, he2⟩ : ∃ d, dgN c2.toNat = d := ⟨_, rfl⟩
      have hl1 : e1 < 256 := by rw [← he1]; exact dg_lt _
      have hl2 : e2 < 256 := by rw [← he2]; exact dg_lt _
      have HG1 : Hid (∀ V : World, Calls Tryd.prog 57 #[.int .u8 (c1.toNat : Int)] V fun e w' => e = .returned (.int .u8 (e1 : Int)) ∧ Below V.heap.size V w') := Lib.hid (fun V => (he1 ▸ rdigit_any c1.toNat c1.toNat_lt V).mono (fun e w' h => ⟨h.1, by rw [h.2]; exact Below.refl _ _⟩))
      have HG2 : Hid (∀ V : World, Calls Tryd.prog 57 #[.int .u8 (c2.toNat : Int)] V fun e w' => e = .returned (.int .u8 (e2 : Int)) ∧ Below V.heap.size V w') := Lib.hid (fun V => (he2 ▸ rdigit_any c2.toNat c2.toNat_lt V).mono (fun e w' h => ⟨h.1, by rw [h.2]; exact Below.refl _ _⟩))
      obtain ⟨m1, hm1⟩ : ∃ x, 16 * e1 % 256 = x := ⟨_, rfl⟩
      have HX1 : Hid (IntKind.u8.wrap (16 * (e1 : Int)) = (m1 : Int)) := Lib.hid (by rw [IntKind.wrap_u8]; omega)
      have HX2 : Hid (IntKind.u8.wrap ((m1 : Int) + (e2 : Int)) = (ch.toNat : Int)) := Lib.hid (by
        rw [← hch]
        unfold tolB
        rw [he1, he2, hm1, UInt8.toNat_ofNat', IntKind.wrap_u8]
        omega)
      clear hc1 hc2 hr1 hr2 hch he1 he2 hl1 hl2 hm1
      obtain ⟨sc, hsc⟩ : ∃ z, ofL [ch] = z := ⟨_, rfl⟩
      have HSC : Hid (sc.size = 1) := Lib.hid (by rw [← hsc]; rfl)
      have HSD := Lib.hid hsc
      clear hsc
      have HG3 : Hid (¬ 9223372036854775807 < t.size + sc.size) := Lib.hid (by have h1 := HSC.out; have h2 := HTS.out; have h3 := HNS.out; have h4 := HM.out; omega)
      have hmn : m + 1 < n := hlt
      go_upto_region 5 with (fail)
      refine wp_region_noPanic ?_
      obtain ⟨W0, rfl⟩ : ∃ W0 : World, W0 = wr := ⟨_, rfl⟩
      refine wp_region_held_drew (S := fun W => Below W0.heap.size W0 W) (by kernel_rfl) (Below.drew (Below.refl _ _)) (fun hHeld => ?_)
      have HH := Lib.hid hHeld
      obtain ⟨Wd, hWd⟩ : ∃ Wd, W0.drew = Wd := ⟨_, rfl⟩
      rw [hWd] at HH hHeld ⊢
      clear hWd
      refine wpAnyH_take (i := 0) (oi := { dst := some 12, op := Op.move (Operand.tmp 3), type := 9, pos := "ref.go:176", after := #[], guard := none }) (v := ?_) rfl (by kernel_rfl) (by kernel_rfl) (by kernel_rfl) (fun _ _ _ h => h) (Or.inl ⟨by rfl, ?_⟩) (by assumption) ?_
      rotate_left
      · intro W hSw
        clear hSw
        go_simp
        try with_reducible rfl
      simp only [Act.put, List.setIfInBounds_toArray, List.set_cons_zero, List.set_cons_succ]
      refine wpAnyH_take (i := 1) (oi := { dst := some 13, op := Op.move (Operand.tmp 0), type := 9, pos := "ref.go:176", after := #[], guard := none }) (v := ?_) rfl (by kernel_rfl) (by kernel_rfl) (by kernel_rfl) (fun _ _ _ h => h) (Or.inl ⟨by rfl, ?_⟩) (by assumption) ?_
      rotate_left
      · intro W hSw
        clear hSw
        go_simp
        try with_reducible rfl
      simp only [Act.put, List.setIfInBounds_toArray, List.set_cons_zero, List.set_cons_succ]
      refine wpAnyH_take (i := 2) (oi := { dst := some 14, op := Op.move (Operand.tmp 4), type := 3, pos := "ref.go:176", after := #[], guard := none }) (v := ?_) rfl (by kernel_rfl) (by kernel_rfl) (by kernel_rfl) (fun _ _ _ h => h) (Or.inl ⟨by rfl, ?_⟩) (by assumption) ?_
      rotate_left
      · intro W hSw
        clear hSw
        go_simp
        try with_reducible rfl
      simp only [Act.put, List.setIfInBounds_toArray, List.set_cons_zero, List.set_cons_succ]
      refine wpAnyH_take (i := 3) (oi := { dst := some 15, op := Op.index 9 (Operand.tmp 13) (Operand.tmp 14), type := 5, pos := "ref.go:176", after := #[{ on := 1, ground := Ground.data }, { on := 2, ground := Ground.data }], guard := none }) (v := ?_) rfl (by kernel_rfl) (by kernel_rfl) (by kernel_rfl) (fun _ _ _ h => h) (Or.inl ⟨by rfl, ?_⟩) (by assumption) ?_
      rotate_left
      · intro W hSw
        clear hSw
        have i1 := HI1.out
        go_simp
        try with_reducible rfl
      simp only [Act.put, List.setIfInBounds_toArray, List.set_cons_zero, List.set_cons_succ]
      refine wpAnyH_take (i := 6) (oi := { dst := some 18, op := Op.move (Operand.tmp 0), type := 9, pos := "ref.go:176", after := #[], guard := none }) (v := ?_) rfl (by kernel_rfl) (by kernel_rfl) (by kernel_rfl) (fun _ _ _ h => h) (Or.inl ⟨by rfl, ?_⟩) (by assumption) ?_
      rotate_left
      · intro W hSw
        clear hSw
        go_simp
        try with_reducible rfl
      simp only [Act.put, List.setIfInBounds_toArray, List.set_cons_zero, List.set_cons_succ]
      refine wpAnyH_take (i := 7) (oi := { dst := some 19, op := Op.move (Operand.tmp 4), type := 3, pos := "ref.go:176", after := #[], guard := none }) (v := ?_) rfl (by kernel_rfl) (by kernel_rfl) (by kernel_rfl) (fun _ _ _ h => h) (Or.inl ⟨by rfl, ?_⟩) (by assumption) ?_
      rotate_left
      · intro W hSw
        clear hSw
        go_simp
        try with_reducible rfl
      simp only [Act.put, List.setIfInBounds_toArray, List.set_cons_zero, List.set_cons_succ]
      refine wpAnyH_take (i := 8) (oi := { dst := some 20, op := Op.binOp BinOp.add 3 (Operand.tmp 19) (Operand.const (Value.int IntKind.i64 1)) 3, type := 3, pos := "ref.go:176", after := #[{ on := 7, ground := Ground.data }], guard := none }) (v := ?_) rfl (by kernel_rfl) (by kernel_rfl) (by kernel_rfl) (fun _ _ _ h => h) (Or.inl ⟨by rfl, ?_⟩) (by assumption) ?_
      rotate_left
      · intro W hSw
        clear hSw
        go_simp
        try with_reducible rfl
      simp only [Act.put, List.setIfInBounds_toArray, List.set_cons_zero, List.set_cons_succ]
      refine wpAnyH_take (i := 9) (oi := { dst := some 21, op := Op.index 9 (Operand.tmp 18) (Operand.tmp 20), type := 5, pos := "ref.go:176", after := #[{ on := 6, ground := Ground.data }, { on := 8, ground := Ground.data }], guard := none }) (v := ?_) rfl (by kernel_rfl) (by kernel_rfl) (by kernel_rfl) (fun _ _ _ h => h) (Or.inl ⟨by rfl, ?_⟩) (by assumption) ?_
      rotate_left
      · intro W hSw
        clear hSw
        have i1 := HI2.out
        go_simp
        try with_reducible rfl
      simp only [Act.put, List.setIfInBounds_toArray, List.set_cons_zero, List.set_cons_succ]
      refine wpAnyH_ready (rs := [4]) (by kernel_rfl) (by simp) (AllReadyH.cons (o := { dst := some 16, op := Op.call { callee := Callee.value (Operand.func 57), args := #[Operand.tmp 15], argTypes := #[5] }, type := 5, pos := "ref.go:176", after := #[{ on := 3, ground := Ground.data }], guard := none }) rfl (fun K hK => ?_) AllReadyH.nil)
      have HCL := Lib.hid (HG1.out Wd)
      go_simp
      refine HCL.out.mono ?_
      rintro e Wa ⟨rfl, hb⟩
      replace HH := Lib.hid (stepB HH.out hb)
      clear hb HCL hHeld
      refine hK.out _ _ HH.out (fun hHeld => ?_)
      clear hK K
      refine wpAnyH_take (i := 5) (oi := { dst := some 17, op := Op.binOp BinOp.mul 5 (Operand.const (Value.int IntKind.u8 16)) (Operand.tmp 16) 5, type := 5, pos := "ref.go:176", after := #[{ on := 4, ground := Ground.data }], guard := none }) (v := ?_) rfl (by kernel_rfl) (by kernel_rfl) (by kernel_rfl) (fun _ _ _ h => h) (Or.inl ⟨by rfl, ?_⟩) (by assumption) ?_
      rotate_left
      · intro W hSw
        clear hSw
        have x1 := HX1.out
        go_simp
        try with_reducible rfl
      simp only [Act.put, List.setIfInBounds_toArray, List.set_cons_zero, List.set_cons_succ]
      refine wpAnyH_ready (rs := [10]) (by kernel_rfl) (by simp) (AllReadyH.cons (o := { dst := some 22, op := Op.call { callee := Callee.value (Operand.func 57), args := #[Operand.tmp 21], argTypes := #[5] }, type := 5, pos := "ref.go:176", after := #[{ on := 9, ground := Ground.data }, { on := 4, ground := Ground.chain }], guard := none }) rfl (fun K hK => ?_) AllReadyH.nil)
      have HCL := Lib.hid (HG2.out Wa)
      go_simp
      refine HCL.out.mono ?_
      rintro e Wb ⟨rfl, hb⟩
      replace HH := Lib.hid (stepB HH.out hb)
      clear hb HCL hHeld
      refine hK.out _ _ HH.out (fun hHeld => ?_)
      clear hK K
      refine wpAnyH_take (i := 11) (oi := { dst := some 23, op := Op.binOp BinOp.add 5 (Operand.tmp 17) (Operand.tmp 22) 5, type := 5, pos := "ref.go:176", after := #[{ on := 5, ground := Ground.data }, { on := 10, ground := Ground.data }], guard := none }) (v := ?_) rfl (by kernel_rfl) (by kernel_rfl) (by kernel_rfl) (fun _ _ _ h => h) (Or.inl ⟨by rfl, ?_⟩) (by assumption) ?_
      rotate_left
      · intro W hSw
        clear hSw
        have x1 := HX2.out
        go_simp
        try with_reducible rfl
      simp only [Act.put, List.setIfInBounds_toArray, List.set_cons_zero, List.set_cons_succ]
      refine wpAnyH_ready (rs := [12]) (by kernel_rfl) (by simp) (AllReadyH.cons (o := { dst := some 24, op := Op.buildSlice 34 1 #[(0, Operand.tmp 23)], type := 34, pos := "ref.go:176", after := #[{ on := 11, ground := Ground.data }], guard := none }) rfl (fun K hK => ?_) AllReadyH.nil)
      go_simp
      have hby : Below Wb.heap.size Wb (Wb.alloc (.cells #[.int .u8 (ch.toNat : Int)] 5)) := (Below.refl _ _).alloc (Nat.le_refl _) _
      have hcv := conv_one Wb ch
      rw [HSD.out] at hcv
      replace HH := Lib.hid (stepB HH.out hby)
      clear hby hHeld
      refine hK.out _ _ HH.out (fun hHeld => ?_)
      clear hK K
      refine wpAnyH_ready (rs := [13]) (by kernel_rfl) (by simp) (AllReadyH.cons (o := { dst := some 25, op := Op.convert 34 9 (Operand.tmp 24), type := 9, pos := "ref.go:176", after := #[{ on := 12, ground := Ground.data }], guard := none }) rfl (fun K hK => ?_) AllReadyH.nil)
      go_simp
      refine hK.out _ _ HH.out (fun hHeld => ?_)
      clear hK K hcv
      refine wpAnyH_take (i := 14) (oi := { dst := some 26, op := Op.binOp BinOp.add 9 (Operand.tmp 12) (Operand.tmp 25) 9, type := 9, pos := "ref.go:176", after := #[{ on := 0, ground := Ground.data }, { on := 13, ground := Ground.data }], guard := none }) (v := ?_) rfl (by kernel_rfl) (by kernel_rfl) (by kernel_rfl) (fun _ _ _ h => h) (Or.inl ⟨by rfl, ?_⟩) (by assumption) ?_
      rotate_left
      · intro W hSw
        clear hSw
        have g1 := HG3.out
        go_simp
        try with_reducible rfl
      simp only [Act.put, List.setIfInBounds_toArray, List.set_cons_zero, List.set_cons_succ]
      refine wpAnyH_take (i := 15) (oi := { dst := some 3, op := Op.assign (Operand.tmp 26), type := 9, pos := "ref.go:176", after := #[{ on := 14, ground := Ground.data }, { on := 10, ground := Ground.chain }, { on := 0, ground := Ground.phase }, { on := 1, ground := Ground.phase }, { on := 2, ground := Ground.phase }, { on := 3, ground := Ground.phase }, { on := 4, ground := Ground.phase }, { on := 5, ground := Ground.phase }, { on := 6, ground := Ground.phase }, { on := 7, ground := Ground.phase }, { on := 8, ground := Ground.phase }, { on := 9, ground := Ground.phase }, { on := 10, ground := Ground.phase }, { on := 11, ground := Ground.phase }, { on := 12, ground := Ground.phase }, { on := 13, ground := Ground.phase }, { on := 14, ground := Ground.phase }], guard := none }) (v := ?_) rfl (by kernel_rfl) (by kernel_rfl) (by kernel_rfl) (fun _ _ _ h => h) (Or.inl ⟨by rfl, ?_⟩) (by assumption) ?_
      rotate_left
      · intro W hSw
        clear hSw
        go_simp
        try with_reducible rfl
      simp only [Act.put, List.setIfInBounds_toArray, List.set_cons_zero, List.set_cons_succ]
      refine wpAnyH_done (by kernel_rfl) (NoPanic.normal ?_) _
      have HF := Lib.hid (stepB HB1.out HH.out)
      have HTT : Hid ((t ++ sc).data.toList = tolL (s.data.toList.take (m + 2)) ∧ (t ++ sc).size ≤ k + 1) := Lib.hid ⟨by rw [HTK.out, Go.Joins.data_append, ← HSD.out]; rfl, by rw [ByteArray.size_append]; have h1 := HSC.out; have h2 := HTS.out; omega⟩
      clear hHeld HH HG1 HG2 HX1 HX2 HG3 HI1 HI2
      go_wp2
      go_roundw
      case rel => exact ⟨k + 1, t ++ sc, by have := HM.out; omega, by have := HM.out; go_num, rfl, by rw [show 2 * (k + 1) = m + 2 by have := HM.out; omega]; exact HTT.out.1, HTT.out.2, HF.out⟩
      case measure => simp [intOf]; omega
    · have d2 : decide ((m : Int) + 1 < (n : Int)) = false := decide_eq_false (by omega)
      have d2' : decide (m + 1 < n) = false := decide_eq_false hlt
      have HRT : Hid (R = t) := Lib.hid (by
        rw [← HR.out]
        refine data_inj ?_
        rw [HT.out, ← HM.out]
        exact (tolL_end k _ (by have h1 := HLN.out; have h2 := HM.out; omega)).symm)
      go_wp2
      go_ret
      exact ⟨by rw [HRT.out]; rfl, HB1.out⟩
end Go.Proofs.YtkgdmdcnhbaidaaDoor
