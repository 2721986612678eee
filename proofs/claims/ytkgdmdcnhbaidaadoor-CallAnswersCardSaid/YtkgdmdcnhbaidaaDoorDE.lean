/- The document's hex, told: a text's word, and back. -/
import Derived.Test.YtkgdmdcnhbaidaaDoorDD
namespace Go.Proofs.YtkgdmdcnhbaidaaDoor
open Go.ChangeShapes Go.WideShapes Go.ChangeAt Go.RowKit
set_option linter.unusedVariables false
set_option linter.unusedSimpArgs false

theorem hex_hi : ∀ d : Fin 16, ¬ d.1 < 10 → IntKind.u8.wrap (97 + (d.1 : Int)) = ((97 + d.1 : Nat) : Int) ∧ IntKind.u8.wrap (((97 + d.1 : Nat) : Int) - 10) = ((digB.getD d.1 0).toNat : Int) := by decide +kernel
theorem hex_lo : ∀ d : Fin 16, d.1 < 10 → IntKind.u8.wrap (48 + (d.1 : Int)) = ((digB.getD d.1 0).toNat : Int) := by decide +kernel
theorem idx34z (g m c k : Nat) (i : Int) (hi : i = (k : Int)) (h : k < m) (W : World) : (Instr.indexAt 34 (.slice (some ⟨g, 0, none⟩) m c) (.int .i64 i)).run Tryd.prog W = .ok (.pointer (some ⟨g, k, none⟩)) W := idx34 g m c k i hi h W
/-- the first j letters of a byte's word -/
def hx1 (c : UInt8) : List UInt8 := [digB.getD (c.toNat / 16) 0, digB.getD (c.toNat % 16) 0]
set_option maxRecDepth 100000 in
set_option maxHeartbeats 16000000 in
theorem rhex_any (s : ByteArray) (w : World) (hs : s.size ≤ 100000) : Calls Tryd.prog 47 #[.string s] w fun e w' => e = .returned (.string (hexP s)) ∧ Below w.heap.size w w' := by
  obtain ⟨n, hn⟩ : ∃ n, s.size = n := ⟨_, rfl⟩
  have HLN : Hid (s.data.toList.length = n) := Lib.hid hn
  have HNS : Hid (n ≤ 100000) := Lib.hid (by omega)
  have HB : Hid (Below w.heap.size w w) := Lib.hid (Below.refl _ _)
  obtain ⟨R, hR⟩ : ∃ R, hexP s = R := ⟨_, rfl⟩
  have HR := Lib.hid hR
  rw [hR]
  clear hs hR
  go_enter Tryd.func47, Tryd.ntmps47
  go_wp2
  go_loopw [3, 4] (fun o i W => ∃ (k : Nat) (t : ByteArray), k ≤ n ∧ i = .int .i64 k ∧ o = .string t ∧ t.data.toList = hexL (s.data.toList.take k) ∧ Below w.heap.size w W) (fun _ i _ => n - (intOf i).toNat)
  case atStart => exact ⟨0, _, Nat.zero_le _, rfl, rfl, rfl, HB.out⟩
  case round =>
    obtain ⟨k, t, hk, rfl, rfl, ht, hb⟩ := hrel
    have HT := Lib.hid ht
    have HB1 := Lib.hid hb
    have HTZ : Hid (t.size ≤ 200000) := Lib.hid (by
      have h1 := congrArg List.length ht
      rw [hexL_len, List.length_take] at h1
      have h3 : t.data.toList.length = t.size := rfl
      have := HNS.out
      omega)
    clear ht hb HB
    by_cases hlt : k < n
    · have d2 : decide ((k : Int) < (n : Int)) = true := decide_eq_true (by omega)
      have d2' : decide (k < n) = true := decide_eq_true hlt
      have wk : IntKind.i64.wrap ((k : Int) + 1) = (k : Int) + 1 := IntWalk.i64_in _ (by have := HNS.out; omega)
      have HI := Lib.hid (sindex_ s k (k : Int) rfl (by rw [hn]; exact hlt))
      have hrk : s.data.toList[k]? = some (s.data.toList.getD k 0) := by rw [List.getD_eq_getElem?_getD, List.getElem?_eq_getElem (by have := HLN.out; omega)]; rfl
      obtain ⟨c, hc⟩ : ∃ c, s.data.toList.getD k 0 = c := ⟨_, rfl⟩
      rw [hc] at HI hrk
      have HTK : Hid (hexL (s.data.toList.take (k + 1)) = t.data.toList ++ hx1 c) := Lib.hid (by
        rw [List.take_add_one, hrk, hexL_app, HT.out]; rfl)
      clear hc hrk
      have hc256 : c.toNat < 256 := c.toNat_lt
      obtain ⟨dh, hdh⟩ : ∃ d, c.toNat / 16 = d := ⟨_, rfl⟩
      obtain ⟨dl, hdl⟩ : ∃ d, c.toNat % 16 = d := ⟨_, rfl⟩
      have HDH : Hid (dh < 16 ∧ dl < 16) := Lib.hid (by omega)
      have HX1 : Hid (hx1 c = [digB.getD dh 0, digB.getD dl 0]) := Lib.hid (by unfold hx1; rw [hdh, hdl])
      have HQ : Hid (Int.tdiv (c.toNat : Int) 16 = (dh : Int) ∧ Int.tmod (c.toNat : Int) 16 = (dl : Int) ∧ (c.toNat : Int) / 16 = (dh : Int) ∧ (c.toNat : Int) % 16 = (dl : Int)) := Lib.hid ⟨by rw [← hdh]; exact (Int.ofNat_tdiv _ 16).symm, by rw [← hdl]; exact (Int.ofNat_tmod _ 16).symm, by omega, by omega⟩
      have HQW : Hid (IntKind.u8.wrap (dh : Int) = (dh : Int) ∧ IntKind.u8.wrap (dl : Int) = (dl : Int)) := Lib.hid ⟨by rw [IntKind.wrap_u8]; omega, by rw [IntKind.wrap_u8]; omega⟩
      clear hc256 hdh hdl
      go_upto_region 5 with (fail)
      refine wp_region_noPanic ?_
      obtain ⟨W0, rfl⟩ : ∃ W0 : World, W0 = wr := ⟨_, rfl⟩
      refine wp_region_held_drew (S := fun W => Below W0.heap.size W0 W) (by kernel_rfl) (Below.drew (Below.refl _ _)) (fun hHeld => ?_)
      have HH := Lib.hid hHeld
      refine wpAnyH_take (i := 0) (oi := { dst := some 13, op := Op.move (Operand.tmp 0), type := 9, pos := "ref.go:87", after := #[], guard := none }) (v := ?_) rfl (by kernel_rfl) (by kernel_rfl) (by kernel_rfl) (fun _ _ _ h => h) (Or.inl ⟨by rfl, ?_⟩) (by assumption) ?_
      rotate_left
      · intro W hSw
        clear hSw
        have i1 := HI.out
        have q1 := HQ.out.1
        have q2 := HQ.out.2.1
        have q3 := HQ.out.2.2.1
        have q4 := HQ.out.2.2.2
        have q5 := HQW.out.1
        have q6 := HQW.out.2
        go_simp
        try with_reducible rfl
      simp only [Act.put, List.setIfInBounds_toArray, List.set_cons_zero, List.set_cons_succ]
      refine wpAnyH_take (i := 1) (oi := { dst := some 14, op := Op.move (Operand.tmp 4), type := 3, pos := "ref.go:87", after := #[], guard := none }) (v := ?_) rfl (by kernel_rfl) (by kernel_rfl) (by kernel_rfl) (fun _ _ _ h => h) (Or.inl ⟨by rfl, ?_⟩) (by assumption) ?_
      rotate_left
      · intro W hSw
        clear hSw
        have i1 := HI.out
        have q1 := HQ.out.1
        have q2 := HQ.out.2.1
        have q3 := HQ.out.2.2.1
        have q4 := HQ.out.2.2.2
        have q5 := HQW.out.1
        have q6 := HQW.out.2
        go_simp
        try with_reducible rfl
      simp only [Act.put, List.setIfInBounds_toArray, List.set_cons_zero, List.set_cons_succ]
      refine wpAnyH_take (i := 2) (oi := { dst := some 15, op := Op.index 9 (Operand.tmp 13) (Operand.tmp 14), type := 5, pos := "ref.go:87", after := #[{ on := 0, ground := Ground.data }, { on := 1, ground := Ground.data }], guard := none }) (v := ?_) rfl (by kernel_rfl) (by kernel_rfl) (by kernel_rfl) (fun _ _ _ h => h) (Or.inl ⟨by rfl, ?_⟩) (by assumption) ?_
      rotate_left
      · intro W hSw
        clear hSw
        have i1 := HI.out
        have q1 := HQ.out.1
        have q2 := HQ.out.2.1
        have q3 := HQ.out.2.2.1
        have q4 := HQ.out.2.2.2
        have q5 := HQW.out.1
        have q6 := HQW.out.2
        go_simp
        try with_reducible rfl
      simp only [Act.put, List.setIfInBounds_toArray, List.set_cons_zero, List.set_cons_succ]
      refine wpAnyH_take (i := 3) (oi := { dst := some 16, op := Op.binOp BinOp.quo 5 (Operand.tmp 15) (Operand.const (Value.int IntKind.u8 16)) 5, type := 5, pos := "ref.go:87", after := #[{ on := 2, ground := Ground.data }], guard := none }) (v := ?_) rfl (by kernel_rfl) (by kernel_rfl) (by kernel_rfl) (fun _ _ _ h => h) (Or.inl ⟨by rfl, ?_⟩) (by assumption) ?_
      rotate_left
      · intro W hSw
        clear hSw
        have i1 := HI.out
        have q1 := HQ.out.1
        have q2 := HQ.out.2.1
        have q3 := HQ.out.2.2.1
        have q4 := HQ.out.2.2.2
        have q5 := HQW.out.1
        have q6 := HQW.out.2
        go_simp
        try with_reducible rfl
      simp only [Act.put, List.setIfInBounds_toArray, List.set_cons_zero, List.set_cons_succ]
      refine wpAnyH_take (i := 4) (oi := { dst := some 17, op := Op.move (Operand.tmp 0), type := 9, pos := "ref.go:87", after := #[], guard := none }) (v := ?_) rfl (by kernel_rfl) (by kernel_rfl) (by kernel_rfl) (fun _ _ _ h => h) (Or.inl ⟨by rfl, ?_⟩) (by assumption) ?_
      rotate_left
      · intro W hSw
        clear hSw
        have i1 := HI.out
        have q1 := HQ.out.1
        have q2 := HQ.out.2.1
        have q3 := HQ.out.2.2.1
        have q4 := HQ.out.2.2.2
        have q5 := HQW.out.1
        have q6 := HQW.out.2
        go_simp
        try with_reducible rfl
      simp only [Act.put, List.setIfInBounds_toArray, List.set_cons_zero, List.set_cons_succ]
      refine wpAnyH_take (i := 5) (oi := { dst := some 18, op := Op.move (Operand.tmp 4), type := 3, pos := "ref.go:87", after := #[], guard := none }) (v := ?_) rfl (by kernel_rfl) (by kernel_rfl) (by kernel_rfl) (fun _ _ _ h => h) (Or.inl ⟨by rfl, ?_⟩) (by assumption) ?_
      rotate_left
      · intro W hSw
        clear hSw
        have i1 := HI.out
        have q1 := HQ.out.1
        have q2 := HQ.out.2.1
        have q3 := HQ.out.2.2.1
        have q4 := HQ.out.2.2.2
        have q5 := HQW.out.1
        have q6 := HQW.out.2
        go_simp
        try with_reducible rfl
      simp only [Act.put, List.setIfInBounds_toArray, List.set_cons_zero, List.set_cons_succ]
      refine wpAnyH_take (i := 6) (oi := { dst := some 19, op := Op.index 9 (Operand.tmp 17) (Operand.tmp 18), type := 5, pos := "ref.go:87", after := #[{ on := 4, ground := Ground.data }, { on := 5, ground := Ground.data }], guard := none }) (v := ?_) rfl (by kernel_rfl) (by kernel_rfl) (by kernel_rfl) (fun _ _ _ h => h) (Or.inl ⟨by rfl, ?_⟩) (by assumption) ?_
      rotate_left
      · intro W hSw
        clear hSw
        have i1 := HI.out
        have q1 := HQ.out.1
        have q2 := HQ.out.2.1
        have q3 := HQ.out.2.2.1
        have q4 := HQ.out.2.2.2
        have q5 := HQW.out.1
        have q6 := HQW.out.2
        go_simp
        try with_reducible rfl
      simp only [Act.put, List.setIfInBounds_toArray, List.set_cons_zero, List.set_cons_succ]
      refine wpAnyH_take (i := 7) (oi := { dst := some 20, op := Op.binOp BinOp.rem 5 (Operand.tmp 19) (Operand.const (Value.int IntKind.u8 16)) 5, type := 5, pos := "ref.go:87", after := #[{ on := 6, ground := Ground.data }], guard := none }) (v := ?_) rfl (by kernel_rfl) (by kernel_rfl) (by kernel_rfl) (fun _ _ _ h => h) (Or.inl ⟨by rfl, ?_⟩) (by assumption) ?_
      rotate_left
      · intro W hSw
        clear hSw
        have i1 := HI.out
        have q1 := HQ.out.1
        have q2 := HQ.out.2.1
        have q3 := HQ.out.2.2.1
        have q4 := HQ.out.2.2.2
        have q5 := HQW.out.1
        have q6 := HQW.out.2
        go_simp
        try with_reducible rfl
      simp only [Act.put, List.setIfInBounds_toArray, List.set_cons_zero, List.set_cons_succ]
      refine wpAnyH_take (i := 10) (oi := { dst := some 23, op := Op.move (Operand.const (Value.int IntKind.i64 0)), type := 3, pos := "ref.go:87", after := #[], guard := none }) (v := ?_) rfl (by kernel_rfl) (by kernel_rfl) (by kernel_rfl) (fun _ _ _ h => h) (Or.inl ⟨by rfl, ?_⟩) (by assumption) ?_
      rotate_left
      · intro W hSw
        clear hSw
        have i1 := HI.out
        have q1 := HQ.out.1
        have q2 := HQ.out.2.1
        have q3 := HQ.out.2.2.1
        have q4 := HQ.out.2.2.2
        have q5 := HQW.out.1
        have q6 := HQW.out.2
        go_simp
        try with_reducible rfl
      simp only [Act.put, List.setIfInBounds_toArray, List.set_cons_zero, List.set_cons_succ]
      refine wpAnyH_ready (rs := [8]) (by kernel_rfl) (by simp) (AllReadyH.cons (o := { dst := some 21, op := Op.buildSlice 34 2 #[(0, Operand.tmp 16), (1, Operand.tmp 20)], type := 34, pos := "ref.go:87", after := #[{ on := 3, ground := Ground.data }, { on := 7, ground := Ground.data }], guard := none }) rfl (fun K hK => ?_) AllReadyH.nil)
      go_simp
      obtain ⟨Wd, hWd⟩ : ∃ Wd, W0.drew = Wd := ⟨_, rfl⟩
      have hsz : W0.heap.size = Wd.heap.size := by rw [← hWd]; rfl
      have hby : Below Wd.heap.size Wd (Wd.alloc (.cells #[.int .u8 (dh : Int), .int .u8 (dl : Int)] 5)) := (Below.refl _ _).alloc (Nat.le_refl _) _
      have HQB : Hid (Blk (Wd.alloc (.cells #[.int .u8 (dh : Int), .int .u8 (dl : Int)] 5)) Wd.heap.size #[.int .u8 (dh : Int), .int .u8 (dl : Int)] 5) := Blk.new _ _ _
      rw [hWd] at HH
      replace HH := Lib.hid (stepB HH.out hby)
      have e1 : (W0.alloc (.cells #[.int .u8 (dh : Int), .int .u8 (dl : Int)] 5)).drew = Wd.alloc (.cells #[.int .u8 (dh : Int), .int .u8 (dl : Int)] 5) := by rw [← hWd]; rfl
      try rw [e1]
      try rw [hsz]
      clear e1 hby hHeld hWd
      refine hK.out _ _ HH.out (fun hHeld => ?_)
      clear hK K
      generalize Wd.alloc (.cells #[.int .u8 (dh : Int), .int .u8 (dl : Int)] 5) = Wq at *
      obtain ⟨q, hq⟩ : ∃ x, Wd.heap.size = x := ⟨_, rfl⟩
      rw [hq] at HQB ⊢
      clear hq hsz
      refine wpAnyH_take (i := 9) (oi := { dst := some 22, op := Op.call { callee := Callee.builtin Builtin.len, args := #[Operand.tmp 21], argTypes := #[34] }, type := 3, pos := "ref.go:87", after := #[{ on := 8, ground := Ground.data }], guard := none }) (v := ?_) rfl (by kernel_rfl) (by kernel_rfl) (by kernel_rfl) (fun _ _ _ h => h) (Or.inl ⟨by rfl, ?_⟩) (by assumption) ?_
      rotate_left
      · intro W hSw
        clear hSw
        go_simp
        try with_reducible rfl
      simp only [Act.put, List.setIfInBounds_toArray, List.set_cons_zero, List.set_cons_succ]
      refine wpAnyH_done (by kernel_rfl) (NoPanic.normal ?_) _
      have HF := Lib.hid (stepB HB1.out HH.out)
      clear hHeld HH HB1
      go_wp2
      go_loopw [3, 23] (fun o i W => ∃ (j : Nat) (t' : ByteArray), j ≤ 2 ∧ i = .int .i64 j ∧ o = .string t' ∧ t'.data.toList = t.data.toList ++ (hx1 c).take j ∧ Blk W q #[.int .u8 (dh : Int), .int .u8 (dl : Int)] 5 ∧ Below w.heap.size w W) (fun _ i _ => 2 - (intOf i).toNat)
      case atStart => exact ⟨0, t, Nat.zero_le _, rfl, rfl, by simp, HQB.out, HF.out⟩
      case round =>
        obtain ⟨j, t', hj, rfl, rfl, ht, hq, hb⟩ := hrel
        have HT2 := Lib.hid ht
        have HQ2 := Lib.hid hq
        have HB2 := Lib.hid hb
        have HTZ2 : Hid (t'.size ≤ 200002) := Lib.hid (by
          have h1 := congrArg List.length ht
          rw [List.length_append, List.length_take] at h1
          have h3 : t'.data.toList.length = t'.size := rfl
          have h4 : t.data.toList.length = t.size := rfl
          have := HTZ.out
          omega)
        clear ht hq hb HQB HF
        by_cases hjl : j < 2
        · have d3 : decide ((j : Int) < 2) = true := decide_eq_true (by omega)
          have wj : IntKind.i64.wrap ((j : Int) + 1) = (j : Int) + 1 := IntWalk.i64_in _ (by omega)
          have i3 := idx34 q 2 2 j (j : Int) rfl hjl
          obtain ⟨d, hd, hd16, hdx⟩ : ∃ d : Nat, (#[.int .u8 (dh : Int), .int .u8 (dl : Int)] : Array Value)[j]? = some (.int .u8 (d : Int)) ∧ d < 16 ∧ (hx1 c).take (j + 1) = (hx1 c).take j ++ [digB.getD d 0] := by
            match j, hjl with
            | 0, _ => exact ⟨dh, rfl, HDH.out.1, by rw [HX1.out]; rfl⟩
            | 1, _ => exact ⟨dl, rfl, HDH.out.2, by rw [HX1.out]; rfl⟩
          have z0 := HQ2.out.cell j
          rw [hd] at z0
          obtain ⟨ch, hch⟩ : ∃ ch, digB.getD d 0 = ch := ⟨_, rfl⟩
          rw [hch] at hdx
          have HTT : Hid (∀ sc : ByteArray, sc = ofL [ch] → (t' ++ sc).data.toList = t.data.toList ++ (hx1 c).take (j + 1)) := Lib.hid (fun sc hsc => by
            rw [Go.Joins.data_append, HT2.out, hdx, List.append_assoc, hsc]; rfl)
          have hcv := conv_one wr ch
          obtain ⟨sc, hsc⟩ : ∃ z, ofL [ch] = z := ⟨_, rfl⟩
          have HSC : Hid (sc.size = 1) := Lib.hid (by rw [← hsc]; rfl)
          rw [hsc] at hcv
          have HT3 := Lib.hid (HTT.out sc hsc.symm)
          have g1 : ¬ 9223372036854775807 < t'.size + sc.size := by have := HSC.out; have := HTZ2.out; omega
          have hby : Below wr.heap.size wr (wr.alloc (.cells #[.int .u8 (ch.toNat : Int)] 5)) := (Below.refl _ _).alloc (Nat.le_refl _) _
          have HQ3 := Lib.hid (HQ2.out.later hby)
          have HB3 := Lib.hid (stepB HB2.out hby)
          clear hby hd hdx hsc HTT
          by_cases h10 : d < 10
          · have q1 : decide ((d : Int) < 10) = true := decide_eq_true (by omega)
            have q1' : decide (d < 10) = true := decide_eq_true h10
            have x1 := hex_lo ⟨d, hd16⟩ h10
            simp only at x1
            rw [hch] at x1
            clear h10 hd16 hch
            go_wp2
            go_roundw
            case rel => exact ⟨j + 1, t' ++ sc, by omega, by go_num, rfl, HT3.out, HQ3.out, HB3.out⟩
            case measure => simp [intOf]; omega
          · have q1 : decide ((d : Int) < 10) = false := decide_eq_false (by omega)
            have q1' : decide (d < 10) = false := decide_eq_false h10
            obtain ⟨x1, x2⟩ := hex_hi ⟨d, hd16⟩ h10
            simp only at x1 x2
            rw [hch] at x2
            obtain ⟨m, hm⟩ : ∃ m, 97 + d = m := ⟨_, rfl⟩
            rw [hm] at x1 x2
            clear h10 hd16 hch hm
            go_wp2
            go_roundw
            case rel => exact ⟨j + 1, t' ++ sc, by omega, by go_num, rfl, HT3.out, HQ3.out, HB3.out⟩
            case measure => simp [intOf]; omega
        · obtain rfl : 2 = j := by omega
          have d3 : decide (((2 : Nat) : Int) < 2) = false := by decide
          have HT4 : Hid (t'.data.toList = hexL (s.data.toList.take (k + 1))) := Lib.hid (by rw [HTK.out, HT2.out]; rfl)
          go_wp2
          go_roundw
          case rel => exact ⟨k + 1, t', by omega, by go_num, rfl, HT4.out, HB2.out⟩
          case measure => simp [intOf]; omega
    · obtain rfl : n = k := by omega
      have d2 : decide ((n : Int) < (n : Int)) = false := decide_eq_false (by omega)
      have hta : t.data.toList = hexL s.data.toList := by rw [HT.out, List.take_of_length_le (by rw [HLN.out]; exact Nat.le_refl _)]
      have HRR : Hid (R = if n = 0 then { data := #[45] } else t) := Lib.hid (by
        rw [← HR.out]
        unfold hexP
        rw [hn]
        split
        · rfl
        · exact data_inj (by rw [hta]; rfl))
      by_cases h0 : n = 0
      · have e0 : t.toList.isEmpty = true := by
          rw [ByteArray.toList_eq, List.isEmpty_iff, hta]
          have hl : s.data.toList = [] := List.length_eq_zero_iff.1 (by rw [HLN.out]; exact h0)
          rw [hl]; rfl
        have HRF : Hid (R = { data := #[45] }) := Lib.hid (by rw [HRR.out, if_pos h0])
        clear hta h0 HRR
        go_wp2
        go_ret
        exact ⟨by rw [HRF.out]; rfl, HB1.out⟩
      · have e0 : t.toList.isEmpty = false := by
          rw [ByteArray.toList_eq, Bool.eq_false_iff]
          intro e
          rw [List.isEmpty_iff, hta] at e
          have h1 := congrArg List.length e
          rw [hexL_len, HLN.out] at h1
          simp at h1
          omega
        have HRF : Hid (R = t) := Lib.hid (by rw [HRR.out, if_neg h0])
        clear hta h0 HRR
        go_wp2
        go_ret
        exact ⟨by rw [HRF.out]; rfl, HB1.out⟩
end Go.Proofs.YtkgdmdcnhbaidaaDoor
