/- t -/
import Derived.Test.YtiojjpmkiljngaaHW
import Derived.Test.YtiojjpmkiljngaaL
import Derived.Test.YtiojjpmkiljngaaO
import Derived.Test.YtiojjpmkiljngaaM
namespace Go.Proofs.Ytiojjpmkiljngaa
open Go.ChangeShapes Go.WideShapes Go.ChangeAt Go.RowKit
set_option linter.unusedVariables false
set_option linter.unusedSimpArgs false
def l_lop (i : Nat) : Nat := if i = 0 then 0 else if i = 1 then 3 else if i = 2 then 6 else if i = 3 then 10 else if i = 4 then 13 else 14
def l_loq (i : Nat) : Nat := 7
def l_lor (i : Nat) : Nat := 0
def l_lot (i : Nat) : Nat := 15
def l_loO (i j k l : Nat) : Bool := decide (i ≤ 3 ∨ 1 ≤ j)
def l_loQ : List Nat := [1, 2, 4, 5, 8, 9, 11, 12]
def l_loL (i j k l : Nat) : Array Bool := (Array.range 17).map fun o => l_loQ.contains o || (o == 0 && decide (1 ≤ i)) || (o == 3 && decide (2 ≤ i)) || (o == 6 && decide (3 ≤ i)) || (o == 10 && decide (4 ≤ i)) || (o == 13 && decide (5 ≤ i)) || (o == 14 && decide (6 ≤ i)) || (o == 7 && decide (1 ≤ j)) || (o == 15 && decide (1 ≤ l))
set_option maxRecDepth 100000 in
set_option maxHeartbeats 4000000 in
theorem l_lo (A B C : Option Addr) (n c d e : Nat) (xs : List ByteArray) (rs : List Int) (key up : ByteArray) (w : World) (hI : NdIn w A B C n c 0 d n e xs [] rs) (hL : largeB xs 0 n = false) (hk : ¬ 3000 < key.size) (hM : mayB true xs 0 n = true) (h3 : 3 ≤ n) (hup : xs[(n + 1) / 2]? = some up) (hc : co key up < 0) : Calls Try.prog 7 #[.agg #[.bool true, .slice A n c, .slice B 0 d, .slice C n e], .string key] w (fun x w' => x = .returned (.bool true) ∧ Below w.heap.size w w') := by
  have hN : Nd w A B C n c 0 d n e xs [] rs := ⟨hI.K, hI.D, hI.R, by have h1 := large_no hL; have h2 := wide_len xs; have h3 := hI.K.len; omega⟩
  have hz : n < 3000 := by have h1 := large_no hL; have h2 := wide_len xs; have h3 := hI.K.len; omega
  have hxl := hN.K.len
  have hrl := hN.R.len
  have hb0 : Below w.heap.size w (w.alloc (.cells #[.bool true, .slice A n c, .slice B 0 d, .slice C n e] 28)) := (Below.refl _ _).alloc (Nat.le_refl _) _
  have HB0 := Lib.hid hb0
  have N0 := Lib.hid (VarAt.new (lf := true) hN)
  have HI := Lib.hid hI
  have HL := Lib.hid hL
  have HM := Lib.hid hM
  have hu := may_up hM
  have HU := Lib.hid hu
  obtain ⟨h, hh⟩ : ∃ h, (n + 1) / 2 = h := ⟨_, rfl⟩
  rw [hh] at hup
  obtain ⟨t, ht⟩ : ∃ t, n = h + t := ⟨n - h, by omega⟩
  obtain ⟨h1, hh1⟩ : ∃ h1, h = h1 + 1 := ⟨h - 1, by omega⟩
  obtain ⟨X1, g1⟩ : ∃ X1, xs.take h = X1 := ⟨_, rfl⟩
  obtain ⟨X2, g3⟩ : ∃ X2, xs.drop h = X2 := ⟨_, rfl⟩
  obtain ⟨R1, g2⟩ : ∃ R1, rs.take h = R1 := ⟨_, rfl⟩
  obtain ⟨R2, g4⟩ : ∃ R2, rs.drop h = R2 := ⟨_, rfl⟩
  have e1 : X1.length = h := by rw [← g1, List.length_take]; omega
  have e3 : X2.length = t := by rw [← g3, List.length_drop]; omega
  have e2 : R1.length = h := by rw [← g2, List.length_take]; omega
  have e4 : R2.length = t := by rw [← g4, List.length_drop]; omega
  have M1 : Hid (mayB true X1 0 h = true) := may_leaf (g1 ▸ up_take hu h) e1
  have M2 : Hid (mayB true X2 0 t = true) := may_leaf (g3 ▸ up_drop hu _) e3
  have dl : decide ((3000 : Int) < (key.size : Int)) = false := decide_eq_false (by omega)
  have d3 : decide ((n : Int) < 3) = false := decide_eq_false (by omega)
  have dh0 : ((h : Int) == 0) = false := by rw [beq_eq_false_iff_ne]; omega
  have dt0 : ((t : Int) == 0) = false := by rw [beq_eq_false_iff_ne]; omega
  have u0 : Hid (X2[0]? = some up) := by show _ = _; rw [← g3, List.getElem?_drop]; simpa using hup
  obtain ⟨y, hy⟩ : ∃ y, xs.getD h1 e0 = y := ⟨_, rfl⟩
  have u1 : Hid (X1[h1]? = some y) := by show _ = _; rw [← g1, List.getElem?_take_of_lt (by omega), ← hy, List.getD_eq_getElem?_getD, List.getElem?_eq_getElem (by omega)]; rfl
  have dy : Op.bytesLess y.toList up.toList = true := less_yes (by have := rise hu h1 h (by omega) (by omega); rwa [hy, at_getD hup] at this)
  have wd : IntKind.i64.wrap ((h : Int) - (t : Int)) = (h : Int) - (t : Int) := IntWalk.i64_in _ (by omega)
  have wh : IntKind.i64.wrap ((h : Int) - 1) = (h1 : Int) := (IntWalk.i64_in _ (by omega)).trans (by omega)
  have d5 : decide ((h : Int) - (t : Int) ≤ 1) = true := decide_eq_true (by omega)
  have d6 : decide ((t : Int) ≤ (h : Int)) = true := decide_eq_true (by omega)
  have d7 : decide (t ≤ h) = true := decide_eq_true (by omega)
  have HA1 : X1 ++ X2 = xs := by rw [← g1, ← g3]; exact List.take_append_drop _ _
  have HA2 : R1 ++ R2 = rs := by rw [← g2, ← g4]; exact List.take_append_drop _ _
  have HX := Lib.hid HA1
  have HRR := Lib.hid HA2
  have hll := low_le_h hup hc
  have HLF : lowN X1 key = lowN xs key := g1 ▸ low_take hup hc
  have HHF : hasB X1 key = hasB xs key := g1 ▸ has_take hup hc
  have HROW : hasB xs key = true → lowN xs key < h := fun hb => by have e := has_lt (HHF ▸ hb); rw [HLF] at e; omega
  have HR : Hid (∀ l y, hasB xs key = true → lowN xs key = l → rs[l]? = some y → R1[l]? = some y) := fun l y hb hl hy => by have := HROW hb; rw [← g2, List.getElem?_take_of_lt (by omega)]; exact hy
  have hln := low_le xs key
  obtain ⟨l, hl⟩ : ∃ l, lowN xs key = l := ⟨_, rfl⟩
  obtain ⟨bq, hbq⟩ : ∃ b, hasB xs key = b := ⟨_, rfl⟩
  rw [hl] at hll hln HLF HROW
  rw [hbq] at HHF HROW
  have HLO := Lib.hid hl
  have HHO := Lib.hid hbq
  have HLF := Lib.hid HLF
  have HHF := Lib.hid HHF
  have HROW := Lib.hid HROW
  rw [hxl] at hln
  have hlt : Hid (bq = true → l < n) := fun e => by have := has_lt (hbq.trans e); omega
  have dk : Op.bytesLess key.toList up.toList = true := less_yes hc
  have G1 := Lib.hid g1
  have G2 := Lib.hid g2
  have G3 := Lib.hid g3
  have G4 := Lib.hid g4
  have E1 := Lib.hid e1
  have E2 := Lib.hid e2
  have E3 := Lib.hid e3
  have E4 := Lib.hid e4
  have HUP := Lib.hid hup
  have HH3 := Lib.hid h3
  have HHH := Lib.hid hh
  have HT := Lib.hid ht
  have HH1 := Lib.hid hh1
  have HZ := Lib.hid hz
  clear hb0 hI hL hk hM hN hu g1 g2 g3 g4 e1 e2 e3 e4 hup h3 hh ht hh1 hxl hrl hl hc hln hll HA1 HA2 hz hbq hy
  go_enter Try.func7, Try.ntmps7
  have cN0 := N0.out.1
  go_wp2_with fail
  refine (large_any true A B C n c 0 d n e xs _ N0.out.2.K.rd (by have := HZ.out; omega) (by have := HZ.out; omega) (by have := HZ.out; omega) (fun s hs => by have := HI.out.hs s hs; omega)).mono ?_
  rintro x w1 ⟨rfl, hb⟩
  rw [HL.out]
  have HB1 := Lib.hid (stepB HB0.out hb)
  have N1 := Lib.hid (N0.out.later hb)
  clear hb HB0 N0 cN0
  have cN1 := N1.out.1
  go_wp2_with fail
  refine (awake_any _).mono ?_
  rintro x w2 ⟨rfl, hb⟩
  have HB2 := Lib.hid (stepB HB1.out hb)
  have N2 := Lib.hid (N1.out.later hb)
  clear hb HB1 N1 cN1
  have cN2 := N2.out.1
  go_wp2_with fail
  refine (may_c true N2.out.2 HM.out).mono ?_
  rintro x w3 ⟨rfl, hb⟩
  have HB3 := Lib.hid (stepB HB2.out hb)
  have N3 := Lib.hid (N2.out.later hb)
  clear hb HB2 N2 cN2
  have cN3 := N3.out.1
  clear HI HL
  go_wp2_with fail
  refine (split_leaf_c h up (X1 := X1) (X2 := X2) (R1 := R1) (R2 := R2) (n1 := h) (k1 := h) (n2 := t) (k2 := t) N3.out.2 HM.out HH3.out HHH.out HUP.out G1.out G2.out G3.out G4.out E1.out E2.out E3.out E4.out (by have := HZ.out; have := HT.out; omega) (by have := HZ.out; have := HT.out; omega)).mono ?_
  rintro x w4 ⟨A1, B1, C1, c1, d1, e1, A2, B2, C2, c2, d2, e2, rfl, hl1, hl2, hb⟩
  have HB4 := Lib.hid (stepB HB3.out hb)
  have N4 := Lib.hid (N3.out.later hb)
  clear hb HB3 N3 cN3
  have cN4 := N4.out.1
  go_upto_region 4 with (fail)
  have hbw : Below w4.heap.size w4 ((w4.alloc (.cells #[.bool true, .slice A1 h c1, .slice B1 0 d1, .slice C1 h e1] 28)).alloc (.cells #[.bool true, .slice A2 t c2, .slice B2 0 d2, .slice C2 t e2] 28)) := ((Below.refl _ _).alloc (Nat.le_refl _) _).alloc (by simp) _
  have L5 := Lib.hid ((VarAt.new (lf := true) hl1).alloc (.cells #[.bool true, .slice A2 t c2, .slice B2 0 d2, .slice C2 t e2] 28))
  have H5 := Lib.hid (VarAt.new (lf := true) (hl2.later (W' := w4.alloc (.cells #[.bool true, .slice A1 h c1, .slice B1 0 d1, .slice C1 h e1] 28)) ((Below.refl _ _).alloc (Nat.le_refl _) _)))
  have HB5 := Lib.hid (stepB HB4.out hbw)
  have N5 := Lib.hid (N4.out.later hbw)
  clear hbw HB4 N4 cN4
  have cN5 := N5.out.1
  generalize ((w4.alloc (.cells #[.bool true, .slice A1 h c1, .slice B1 0 d1, .slice C1 h e1] 28)).alloc (.cells #[.bool true, .slice A2 t c2, .slice B2 0 d2, .slice C2 t e2] 28)) = w5 at *
  clear hl1 hl2
  simp only [World.size_alloc] at H5
  generalize w4.heap.size + 1 = bH at H5 ⊢
  generalize w4.heap.size = bL at L5 ⊢
  have cL5 := L5.out.1
  have cH5 := H5.out.1
  go_wp2_with fail
  refine (may_c true L5.out.2 M1.out).mono ?_
  rintro x w6 ⟨rfl, hb⟩
  have HB6 := Lib.hid (stepB HB5.out hb)
  have N6 := Lib.hid (N5.out.later hb)
  have L6 := Lib.hid (L5.out.later hb)
  have H6 := Lib.hid (H5.out.later hb)
  clear hb HB5 N5 L5 H5 cN5 cL5 cH5
  have cN6 := N6.out.1
  have cL6 := L6.out.1
  have cH6 := H6.out.1
  go_wp2_with fail
  refine (may_c true H6.out.2 M2.out).mono ?_
  rintro x w7 ⟨rfl, hb⟩
  have HB7 := Lib.hid (stepB HB6.out hb)
  have N7 := Lib.hid (N6.out.later hb)
  have L7 := Lib.hid (L6.out.later hb)
  have H7 := Lib.hid (H6.out.later hb)
  clear hb HB6 N6 L6 H6 cN6 cL6 cH6
  have cN7 := N7.out.1
  have cL7 := L7.out.1
  have cH7 := H7.out.1
  go_upto_region 7 with (fail)
  have hbw : Below w7.heap.size w7 (w7.alloc (.cells #[.bool true, .slice A2 t c2, .slice B2 0 d2, .slice C2 t e2] 28)) := (Below.refl _ _).alloc (Nat.le_refl _) _
  have FB8 := Lib.hid (Blk.new w7 #[.bool true, .slice A2 t c2, .slice B2 0 d2, .slice C2 t e2] 28)
  have qN := lt_of_cell N7.out.1.1
  have qL := lt_of_cell L7.out.1.1
  have qH := lt_of_cell H7.out.1.1
  have HB8 := Lib.hid (stepB HB7.out hbw)
  have N8 := Lib.hid (N7.out.later hbw)
  have L8 := Lib.hid (L7.out.later hbw)
  have H8 := Lib.hid (H7.out.later hbw)
  clear hbw HB7 N7 L7 H7 cN7 cL7 cH7
  have cN8 := N8.out.1
  have cL8 := L8.out.1
  have cH8 := H8.out.1
  generalize (w7.alloc (.cells #[.bool true, .slice A2 t c2, .slice B2 0 d2, .slice C2 t e2] 28)) = w8 at *
  generalize w7.heap.size = bF at FB8 qN qL qH ⊢
  have cF := FB8.out.c4
  have lF := FB8.out.f4
  go_upto_region 9 with (fail)
  clear cF lF
  have FB9 := Lib.hid (blk_set4 (a := .bool true) (b := .slice A1 h c1) (c := .slice B1 0 d1) (d := .slice C1 h e1) FB8.out)
  have N9 := Lib.hid (N8.out.set4 FB8.out rfl rfl rfl rfl (by omega) (.bool true) (.slice A1 h c1) (.slice B1 0 d1) (.slice C1 h e1))
  have L9 := Lib.hid (L8.out.set4 FB8.out rfl rfl rfl rfl (by omega) (.bool true) (.slice A1 h c1) (.slice B1 0 d1) (.slice C1 h e1))
  have H9 := Lib.hid (H8.out.set4 FB8.out rfl rfl rfl rfl (by omega) (.bool true) (.slice A1 h c1) (.slice B1 0 d1) (.slice C1 h e1))
  have HB9 : Hid (Below w.heap.size w ((((w8.setCell ⟨bF, 0, none⟩ (.bool true)).setCell ⟨bF, 1, none⟩ (.slice A1 h c1)).setCell ⟨bF, 2, none⟩ (.slice B1 0 d1)).setCell ⟨bF, 3, none⟩ (.slice C1 h e1))) := set4 HB8.out (by omega)
  clear FB8 N8 L8 H8 cN8 cL8 cH8 HB8
  generalize ((((w8.setCell ⟨bF, 0, none⟩ (.bool true)).setCell ⟨bF, 1, none⟩ (.slice A1 h c1)).setCell ⟨bF, 2, none⟩ (.slice B1 0 d1)).setCell ⟨bF, 3, none⟩ (.slice C1 h e1)) = w9 at *
  have F9 : Hid (VarAt w9 bF true A1 B1 C1 h c1 0 d1 h e1 X1 [] R1) := ⟨FB9.out.c4, L9.out.2⟩
  clear FB9
  have cN9 := N9.out.1
  have cL9 := L9.out.1
  have cH9 := H9.out.1
  have cF9 := F9.out.1
  go_wp2_with fail
  refine wp_region_noPanic ?_
  have CL := Lib.hid cL9
  have CH := Lib.hid cH9
  clear cN9 cL9 cH9 cF9
  refine wp_region_held_drew (S := Aft w9) (by kernel_rfl) (Aft.drew0 w9) (fun hHeld => ?_)
  refine wpAnyH_take (i := 1) (oi := { dst := some 96, op := Op.fieldAddr 28 (Operand.tmp 5) 1, type := 0, pos := "outright.go:145", after := #[], guard := none }) (v := ?_) rfl (by kernel_rfl) (by kernel_rfl) (by kernel_rfl) (fun _ _ _ h => h) (Or.inl ⟨by rfl, ?_⟩) (by assumption) ?_
  rotate_left
  · intro W hSw
    obtain ⟨k0, k1, k2, k3⟩ := CL.out.later hSw
    go_simp
    try with_reducible rfl
  simp only [Act.put, List.setIfInBounds_toArray, List.set_cons_zero, List.set_cons_succ]
  refine wpAnyH_take (i := 2) (oi := { dst := some 97, op := Op.load 22 (Operand.tmp 96), type := 22, pos := "outright.go:145", after := #[{ on := 1, ground := Ground.data }], guard := none }) (v := ?_) rfl (by kernel_rfl) (by kernel_rfl) (by kernel_rfl) (fun _ _ _ h => h) (Or.inl ⟨by rfl, ?_⟩) (by assumption) ?_
  rotate_left
  · intro W hSw
    obtain ⟨k0, k1, k2, k3⟩ := CL.out.later hSw
    go_simp
    try with_reducible rfl
  simp only [Act.put, List.setIfInBounds_toArray, List.set_cons_zero, List.set_cons_succ]
  refine wpAnyH_take (i := 4) (oi := { dst := some 99, op := Op.fieldAddr 28 (Operand.tmp 6) 1, type := 0, pos := "outright.go:145", after := #[], guard := none }) (v := ?_) rfl (by kernel_rfl) (by kernel_rfl) (by kernel_rfl) (fun _ _ _ h => h) (Or.inl ⟨by rfl, ?_⟩) (by assumption) ?_
  rotate_left
  · intro W hSw
    obtain ⟨k0, k1, k2, k3⟩ := CH.out.later hSw
    go_simp
    try with_reducible rfl
  simp only [Act.put, List.setIfInBounds_toArray, List.set_cons_zero, List.set_cons_succ]
  refine wpAnyH_take (i := 5) (oi := { dst := some 100, op := Op.load 22 (Operand.tmp 99), type := 22, pos := "outright.go:145", after := #[{ on := 4, ground := Ground.data }], guard := none }) (v := ?_) rfl (by kernel_rfl) (by kernel_rfl) (by kernel_rfl) (fun _ _ _ h => h) (Or.inl ⟨by rfl, ?_⟩) (by assumption) ?_
  rotate_left
  · intro W hSw
    obtain ⟨k0, k1, k2, k3⟩ := CH.out.later hSw
    go_simp
    try with_reducible rfl
  simp only [Act.put, List.setIfInBounds_toArray, List.set_cons_zero, List.set_cons_succ]
  refine wpAnyH_take (i := 8) (oi := { dst := some 103, op := Op.fieldAddr 28 (Operand.tmp 5) 3, type := 0, pos := "outright.go:145", after := #[], guard := none }) (v := ?_) rfl (by kernel_rfl) (by kernel_rfl) (by kernel_rfl) (fun _ _ _ h => h) (Or.inl ⟨by rfl, ?_⟩) (by assumption) ?_
  rotate_left
  · intro W hSw
    obtain ⟨k0, k1, k2, k3⟩ := CL.out.later hSw
    go_simp
    try with_reducible rfl
  simp only [Act.put, List.setIfInBounds_toArray, List.set_cons_zero, List.set_cons_succ]
  refine wpAnyH_take (i := 9) (oi := { dst := some 104, op := Op.load 25 (Operand.tmp 103), type := 25, pos := "outright.go:145", after := #[{ on := 8, ground := Ground.data }], guard := none }) (v := ?_) rfl (by kernel_rfl) (by kernel_rfl) (by kernel_rfl) (fun _ _ _ h => h) (Or.inl ⟨by rfl, ?_⟩) (by assumption) ?_
  rotate_left
  · intro W hSw
    obtain ⟨k0, k1, k2, k3⟩ := CL.out.later hSw
    go_simp
    try with_reducible rfl
  simp only [Act.put, List.setIfInBounds_toArray, List.set_cons_zero, List.set_cons_succ]
  refine wpAnyH_take (i := 11) (oi := { dst := some 106, op := Op.fieldAddr 28 (Operand.tmp 6) 3, type := 0, pos := "outright.go:145", after := #[], guard := none }) (v := ?_) rfl (by kernel_rfl) (by kernel_rfl) (by kernel_rfl) (fun _ _ _ h => h) (Or.inl ⟨by rfl, ?_⟩) (by assumption) ?_
  rotate_left
  · intro W hSw
    obtain ⟨k0, k1, k2, k3⟩ := CH.out.later hSw
    go_simp
    try with_reducible rfl
  simp only [Act.put, List.setIfInBounds_toArray, List.set_cons_zero, List.set_cons_succ]
  refine wpAnyH_take (i := 12) (oi := { dst := some 107, op := Op.load 25 (Operand.tmp 106), type := 25, pos := "outright.go:145", after := #[{ on := 11, ground := Ground.data }], guard := none }) (v := ?_) rfl (by kernel_rfl) (by kernel_rfl) (by kernel_rfl) (fun _ _ _ h => h) (Or.inl ⟨by rfl, ?_⟩) (by assumption) ?_
  rotate_left
  · intro W hSw
    obtain ⟨k0, k1, k2, k3⟩ := CH.out.later hSw
    go_simp
    try with_reducible rfl
  simp only [Act.put, List.setIfInBounds_toArray, List.set_cons_zero, List.set_cons_succ]
  refine wpAnyH_cast (f := 9) (l := l_loL 0 0 0 0) (by kernel_rfl) (by kernel_rfl) ?_
  have hht : h + t + 2 ≤ 3002 := by have := HZ.out; have := HT.out; omega
  refine chains4 6 1 0 1 1 l_lop l_loq l_lor l_lot l_loO l_loL (fun i j kk l x W => ∃ va vb vc vp vq vr vy vz : Value, x = ({ tmps := #[Value.agg #[Value.bool true, Value.slice A n c, Value.slice B 0 d, Value.slice C n e], Value.string key, Value.pointer (some { block := w.heap.size, off := 0 }), undef, Value.bool false, Value.pointer (some { block := bL, off := 0 }), Value.pointer (some { block := bH, off := 0 }), Value.string up, Value.int IntKind.i64 0, Value.pointer (some { block := bF, off := 0 }), vz, undef, undef, undef, undef, undef, Value.agg #[Value.bool true, Value.slice A n c, Value.slice B 0 d, Value.slice C n e], Value.bool false, Value.bool false, Value.string key, Value.int IntKind.i64 ↑key.size, Value.bool false, Value.bool false, Value.bool false, Value.bool true, Value.bool false, Value.bool false, Value.bool false, Value.agg #[Value.bool true, Value.slice A n c, Value.slice B 0 d, Value.slice C n e], Value.bool true, Value.bool false, Value.bool false, Value.bool false, Value.pointer (some { block := w.heap.size, off := 1 }), Value.slice A n c, Value.int IntKind.i64 ↑n, Value.bool false, Value.bool false, undef, Value.tuple #[Value.agg #[Value.bool true, Value.slice A1 h c1, Value.slice B1 0 d1, Value.slice C1 h e1], Value.agg #[Value.bool true, Value.slice A2 t c2, Value.slice B2 0 d2, Value.slice C2 t e2], Value.string up, Value.int IntKind.i64 0], Value.agg #[Value.bool true, Value.slice A n c, Value.slice B 0 d, Value.slice C n e], Value.tuple #[Value.agg #[Value.bool true, Value.slice A1 h c1, Value.slice B1 0 d1, Value.slice C1 h e1], Value.agg #[Value.bool true, Value.slice A2 t c2, Value.slice B2 0 d2, Value.slice C2 t e2], Value.string up, Value.int IntKind.i64 0], Value.agg #[Value.bool true, Value.slice A1 h c1, Value.slice B1 0 d1, Value.slice C1 h e1], Value.agg #[Value.bool true, Value.slice A2 t c2, Value.slice B2 0 d2, Value.slice C2 t e2], Value.string up, Value.int IntKind.i64 0, Value.int IntKind.i64 0, Value.bool false, Value.bool false, Value.agg #[Value.bool true, Value.slice A1 h c1, Value.slice B1 0 d1, Value.slice C1 h e1], Value.bool true, Value.bool false, Value.bool false, Value.bool false, Value.agg #[Value.bool true, Value.slice A2 t c2, Value.slice B2 0 d2, Value.slice C2 t e2], Value.bool true, Value.bool false, Value.bool false, Value.bool false, Value.pointer (some { block := bL, off := 0 }), Value.bool true, Value.pointer (some { block := w.heap.size, off := 0 }), Value.bool true, Value.bool false, Value.bool false, Value.bool false, Value.pointer (some { block := bH, off := 0 }), Value.bool true, Value.pointer (some { block := w.heap.size, off := 0 }), Value.bool true, Value.bool false, Value.bool false, Value.bool false, Value.pointer (some { block := bL, off := 1 }), Value.slice A1 h c1, Value.int IntKind.i64 ↑h, Value.bool false, Value.bool false, Value.bool false, Value.pointer (some { block := w.heap.size, off := 0 }), Value.bool true, Value.bool true, Value.pointer (some { block := bH, off := 1 }), Value.slice A2 t c2, Value.int IntKind.i64 ↑t, Value.bool false, Value.bool false, Value.bool false, Value.agg #[Value.bool true, Value.slice A2 t c2, Value.slice B2 0 d2, Value.slice C2 t e2], Value.string key, Value.string up, Value.bool true, Value.agg #[Value.bool true, Value.slice A1 h c1, Value.slice B1 0 d1, Value.slice C1 h e1], Value.pointer (some { block := w.heap.size, off := 0 }), Value.bool true, va, Value.pointer (some { block := bL, off := 1 }), Value.slice A1 h c1, vb, Value.pointer (some { block := bH, off := 1 }), Value.slice A2 t c2, vc, vp, Value.pointer (some { block := bL, off := 3 }), Value.slice C1 h e1, vq, Value.pointer (some { block := bH, off := 3 }), Value.slice C2 t e2, vr, vy, undef, undef, undef, undef, undef, undef, undef, undef, undef, undef, undef, undef, undef, undef, undef, undef, undef, undef, undef, undef, undef, undef, undef, undef, undef, undef, undef, undef, undef, undef, undef, undef, undef, undef, undef, undef, undef, undef, undef, undef, undef, undef, undef, undef, undef, undef, undef, undef, undef, undef, undef, undef, undef, undef, undef, undef, undef, undef, undef, undef, undef, undef, undef, undef, undef, undef, undef, undef, undef, undef, undef, undef, undef, undef, undef, undef, undef, undef, undef, undef, undef, undef, undef, undef, undef, undef, undef, undef, undef, undef, undef, undef, undef, undef, undef, undef, undef, undef, undef, undef, undef, undef, undef, undef, undef, undef, undef, undef, undef, undef, undef, undef, undef, undef], defers := [] } : Act) ∧ K3 sv w9.heap.size 9 h t X1 X2 1 i i va vb vc W ∧ K3 hv w9.heap.size 24 h t R1 R2 3 i j vp vq vr W ∧ ChB w9 28 l vz W ∧ YL i vc vr vy) (by decide +kernel) (by decide +kernel) (by decide +kernel) (by decide +kernel) (by decide +kernel) ?s1 ?s2 ?s3 ?s4 ?fin 8 0 0 0 0 _ _ (by omega) (by omega) (by omega) (by omega) rfl rfl ⟨undef, undef, undef, undef, undef, undef, undef, undef, rfl, ⟨fun _ => rfl, fun _ => rfl, fun _ => rfl, fun _ e => absurd e (by omega), fun e => absurd e (by omega), fun e => absurd e (by omega)⟩, ⟨fun _ => rfl, fun _ => rfl, fun _ => rfl, fun _ e => absurd e (by omega), fun e => absurd e (by omega), fun e => absurd e (by omega)⟩, rfl, ⟨fun _ => rfl, fun e => absurd e (by omega)⟩⟩ hHeld
  case s1 =>
    intro i j kk l x W hi hj hkk hl hm hI hS
    obtain ⟨va, vb, vc, vp, vq, vr, vy, vz, rfl, k1, k2, k3, k4⟩ := hI
    have hsz := Aft.size hS
    have hst : i = 0 ∨ i = 1 ∨ i = 2 ∨ i = 3 ∨ i = 4 ∨ i = 5 := by omega
    rcases hst with hst | hst | hst | hst | hst | hst
    · subst hst
      show wpOp _ _ _ 0 _ _ _
      refine wpOp_step (o := { dst := some 95, op := Op.buildSlice 22 0 #[], type := 22, pos := "outright.go:145", after := #[], guard := none }) rfl (fun K' hK => ?_)
      have hb : Below W.heap.size W (W.alloc (.cells #[] 9)) := (Below.refl _ _).alloc (Nat.le_refl _) _
      refine step_run (v := .slice (some ⟨W.heap.size, 0, none⟩) 0 0) (w' := W.alloc (.cells #[] 9)) rfl (by go_simp) ?_
      exact hK _ _ ⟨stepB hS hb, _, vb, vc, vp, vq, vr, vy, vz, rfl, k1.make1 (Ow.fresh W 9 hsz rfl), (k2.keep (fun _ _ _ h => h.later hb)).pass (by omega) (by omega), k3.later hb, ⟨fun _ => k4.1 (by omega), fun e => absurd e (by omega)⟩⟩
    · subst hst
      show wpOp _ _ _ 3 _ _ _
      refine wpOp_step (o := { dst := some 98, op := Op.call { callee := Callee.builtin Builtin.append, args := #[Operand.tmp 95, Operand.tmp 97], argTypes := #[22, 22] }, type := 22, pos := "outright.go:145", after := #[{ on := 0, ground := Ground.data }, { on := 2, ground := Ground.data }], guard := none }) rfl (fun K' hK => ?_)
      have ho := k1.a1 (by omega) (by omega)
      refine step_append_sl selem rfl (.tmp 95) (.tmp 97) rfl w9.heap.size va (0) ([]) rfl ho A1 h c1 X1 rfl (L9.out.2.later hS).K (by omega) (by omega) hsz (fun v W' ho2 hg => hK _ _ ⟨aft_grown hS ho hg, ?_⟩)
      rw [Nat.zero_add, List.nil_append] at ho2
      exact ⟨va, v, vc, vp, vq, vr, vy, vz, rfl, k1.first (by omega) (by omega) ho2, (k2.keep (fun _ _ _ h => ow_grown_tag h ho (show (24 : TypeId) ≠ 9 by decide) hg)).pass (by omega) (by omega), k3.grown ho (by decide) hg, ⟨fun _ => k4.1 (by omega), fun e => absurd e (by omega)⟩⟩
    · subst hst
      show wpOp _ _ _ 6 _ _ _
      refine wpOp_step (o := { dst := some 101, op := Op.call { callee := Callee.builtin Builtin.append, args := #[Operand.tmp 98, Operand.tmp 100], argTypes := #[22, 22] }, type := 22, pos := "outright.go:145", after := #[{ on := 3, ground := Ground.data }, { on := 5, ground := Ground.data }, { on := 3, ground := Ground.chain }], guard := none }) rfl (fun K' hK => ?_)
      have ho := k1.b1 rfl
      refine step_append_sl selem rfl (.tmp 98) (.tmp 100) rfl w9.heap.size vb (h) (X1) rfl ho A2 t c2 X2 rfl (H9.out.2.later hS).K (by omega) (by omega) hsz (fun v W' ho2 hg => hK _ _ ⟨aft_grown hS ho hg, ?_⟩)
      exact ⟨va, vb, v, vp, vq, vr, vy, vz, rfl, K3.second (fun e => absurd e (by omega)) ho2, (k2.keep (fun _ _ _ h => ow_grown_tag h ho (show (24 : TypeId) ≠ 9 by decide) hg)).pass (by omega) (by omega), k3.grown ho (by decide) hg, ⟨fun _ => k4.1 (by omega), fun e => absurd e (by omega)⟩⟩
    · subst hst
      have hjl : j = 0 ∨ j = 1 := by omega
      have hll : l = 0 ∨ l = 1 := by omega
      have hkl : kk = 0 := by omega
      subst hkl
      rcases hjl with rfl | rfl
      · rcases hll with rfl | rfl
        · exact absurd hm (by decide +kernel)
        · exact absurd hm (by decide +kernel)
      show wpOp _ _ _ 10 _ _ _
      refine wpOp_step (o := { dst := some 105, op := Op.call { callee := Callee.builtin Builtin.append, args := #[Operand.tmp 102, Operand.tmp 104], argTypes := #[25, 25] }, type := 25, pos := "outright.go:145", after := #[{ on := 7, ground := Ground.data }, { on := 9, ground := Ground.data }, { on := 6, ground := Ground.chain }], guard := none }) rfl (fun K' hK => ?_)
      have ho := k2.a1 (by omega) (by omega)
      refine step_append_sl helem rfl (.tmp 102) (.tmp 104) rfl w9.heap.size vp (0) ([]) rfl ho C1 h e1 R1 rfl (L9.out.2.later hS).R (by omega) (by omega) hsz (fun v W' ho2 hg => hK _ _ ⟨aft_grown hS ho hg, ?_⟩)
      rw [Nat.zero_add, List.nil_append] at ho2
      exact ⟨va, vb, vc, vp, v, vr, vy, vz, rfl, (k1.keep (fun _ _ _ h => ow_grown_tag h ho (show (9 : TypeId) ≠ 24 by decide) hg)).over (by omega) (by omega) (by omega), k2.first (by omega) (by omega) ho2, k3.grown ho (by decide) hg, ⟨fun _ => k4.1 (by omega), fun e => absurd e (by omega)⟩⟩
    · subst hst
      show wpOp _ _ _ 13 _ _ _
      refine wpOp_step (o := { dst := some 108, op := Op.call { callee := Callee.builtin Builtin.append, args := #[Operand.tmp 105, Operand.tmp 107], argTypes := #[25, 25] }, type := 25, pos := "outright.go:145", after := #[{ on := 10, ground := Ground.data }, { on := 12, ground := Ground.data }, { on := 10, ground := Ground.chain }], guard := none }) rfl (fun K' hK => ?_)
      have ho := k2.b1 rfl
      refine step_append_sl helem rfl (.tmp 105) (.tmp 107) rfl w9.heap.size vq (h) (R1) rfl ho C2 t e2 R2 rfl (H9.out.2.later hS).R (by omega) (by omega) hsz (fun v W' ho2 hg => hK _ _ ⟨aft_grown hS ho hg, ?_⟩)
      exact ⟨va, vb, vc, vp, vq, v, vy, vz, rfl, (k1.keep (fun _ _ _ h => ow_grown_tag h ho (show (9 : TypeId) ≠ 24 by decide) hg)).over (by omega) (by omega) (by omega), K3.second k2.a0 ho2, k3.grown ho (by decide) hg, ⟨fun _ => k4.1 (by omega), fun e => absurd e (by omega)⟩⟩
    · subst hst
      show wpOp _ _ _ 14 _ _ _
      refine wpOp_step (o := { dst := some 109, op := Op.build 28 #[(0, Operand.const (Value.bool true)), (1, Operand.tmp 101), (3, Operand.tmp 108)], type := 28, pos := "outright.go:145", after := #[{ on := 6, ground := Ground.data }, { on := 13, ground := Ground.data }], guard := none }) rfl (fun K' hK => ?_)
      obtain ⟨AA, cA, rfl, sA⟩ := Ow.sl (k1.c1 (by omega))
      obtain ⟨CC, cC, rfl, sC⟩ := Ow.sl (k2.c1 (by omega))
      clear sA sC
      refine step_run (v := .agg #[.bool true, .slice AA (h + t) cA, .slice none 0 0, .slice CC (h + t) cC]) (w' := W) rfl (by go_simp) ?_
      exact hK _ _ ⟨hS, va, vb, _, vp, vq, _, _, vz, rfl, k1.over (by omega) (by omega) (by omega), k2.over (by omega) (by omega) (by omega), k3, ⟨fun e => absurd e (by omega), fun _ => rfl⟩⟩
  case s2 =>
    intro i j kk l x W hi hj hkk hl hm hI hS
    obtain ⟨va, vb, vc, vp, vq, vr, vy, vz, rfl, k1, k2, k3, k4⟩ := hI
    have hsz := Aft.size hS
    obtain rfl : j = 0 := by omega
    show wpOp _ _ _ 7 _ _ _
    refine wpOp_step (o := { dst := some 102, op := Op.buildSlice 25 0 #[], type := 25, pos := "outright.go:145", after := #[], guard := none }) rfl (fun K' hK => ?_)
    have hb : Below W.heap.size W (W.alloc (.cells #[] 24)) := (Below.refl _ _).alloc (Nat.le_refl _) _
    refine step_run (v := .slice (some ⟨W.heap.size, 0, none⟩) 0 0) (w' := W.alloc (.cells #[] 24)) rfl (by go_simp) ?_
    exact hK _ _ ⟨stepB hS hb, va, vb, vc, _, vq, vr, vy, vz, rfl, k1.keep (fun _ _ _ h => h.later hb), k2.make (Ow.fresh W 24 hsz rfl) (fun _ _ _ h => h.later hb), k3.later hb, k4⟩
  case s3 =>
    intro i j kk l x W hi hj hkk
    omega
  case s4 =>
    intro i j kk l x W hi hj hkk hl hm hI hS
    obtain ⟨va, vb, vc, vp, vq, vr, vy, vz, rfl, k1, k2, k3, k4⟩ := hI
    have hsz := Aft.size hS
    obtain rfl : l = 0 := by omega
    obtain rfl := k3
    show wpOp _ _ _ 15 _ _ _
    refine wpOp_step (o := { dst := some 10, op := Op.alloc 28, type := 0, pos := "outright.go:145", after := #[], guard := none }) rfl (fun K' hK => ?_)
    have hb : Below W.heap.size W (W.alloc (.cells #[.bool false, .slice none 0 0, .slice none 0 0, .slice none 0 0] 28)) := (Below.refl _ _).alloc (Nat.le_refl _) _
    refine step_run (v := .pointer (some ⟨W.heap.size, 0, none⟩)) (w' := W.alloc (.cells #[.bool false, .slice none 0 0, .slice none 0 0, .slice none 0 0] 28)) rfl (by go_simp) ?_
    exact hK _ _ ⟨stepB hS hb, va, vb, vc, vp, vq, vr, vy, _, rfl, k1.keep (fun _ _ _ h => h.later hb), k2.keep (fun _ _ _ h => h.later hb), ⟨_, rfl, hsz, Blk.new _ _ _⟩, k4⟩
  case fin =>
    intro x W hI hS
    obtain ⟨va, vb, vc, vp, vq, vr, vy, vz, rfl, k1, k2, k3, k4⟩ := hI
    have hA := k1.c1 (by omega)
    rw [HX.out, ← HT.out] at hA
    have hB := k2.c1 (by omega)
    rw [HRR.out, ← HT.out] at hB
    obtain ⟨AA, cA, rfl, sA⟩ := Ow.sl hA
    obtain ⟨CC, cC, rfl, sC⟩ := Ow.sl hB
    obtain ⟨g, rfl, hg, Bg⟩ := k3
    obtain rfl := k4.2 (by omega)
    have hn0 : Nd W AA none CC n cA 0 0 n cC xs [] rs := ⟨sA, Sl.empty _, sC, by have := HZ.out; omega⟩
    have HN0 := Lib.hid hn0
    clear k1 k2 k4 hA hB sA sC hn0
    have HS := Lib.hid hS
    have HG := Lib.hid Bg
    obtain ⟨l0, l1, l2, l3, z0, z1, z2, z3⟩ := Bg.l4
    clear Bg hS hHeld
    refine wpAnyH_ready (rs := [16]) (by kernel_rfl) (by simp) (AllReadyH.cons (o := { dst := none, op := Op.store 28 (Operand.tmp 10) (Operand.tmp 109), type := 0, pos := "outright.go:145", after := #[{ on := 15, ground := Ground.data }, { on := 14, ground := Ground.data }, { on := 13, ground := Ground.chain }, { on := 0, ground := Ground.phase }, { on := 1, ground := Ground.phase }, { on := 2, ground := Ground.phase }, { on := 3, ground := Ground.phase }, { on := 4, ground := Ground.phase }, { on := 5, ground := Ground.phase }, { on := 6, ground := Ground.phase }, { on := 7, ground := Ground.phase }, { on := 8, ground := Ground.phase }, { on := 9, ground := Ground.phase }, { on := 10, ground := Ground.phase }, { on := 11, ground := Ground.phase }, { on := 12, ground := Ground.phase }, { on := 13, ground := Ground.phase }, { on := 14, ground := Ground.phase }, { on := 15, ground := Ground.phase }], guard := none }) rfl (fun K hK => ?_) AllReadyH.nil)
    go_simp
    refine hK.out _ _ (Aft.set (Aft.set (Aft.set (Aft.set HS.out hg _) hg _) hg _) hg _) (fun hHeld2 => wpAnyH_done (by kernel_rfl) (NoPanic.normal ?_) _)
    clear hK K l0 l1 l2 l3 z0 z1 z2 z3
    have HB10 : Hid (Below w.heap.size w ((((W.setCell ⟨g, 0, none⟩ (.bool true)).setCell ⟨g, 1, none⟩ (.slice AA n cA)).setCell ⟨g, 2, none⟩ (.slice none 0 0)).setCell ⟨g, 3, none⟩ (.slice CC n cC))) := stepB HB9.out hHeld2
    have N10 := Lib.hid (N9.out.later hHeld2)
    have L10 := Lib.hid (L9.out.later hHeld2)
    have H10 := Lib.hid (H9.out.later hHeld2)
    have F10 := Lib.hid (F9.out.later hHeld2)
    have G10 : Hid (VarAt ((((W.setCell ⟨g, 0, none⟩ (.bool true)).setCell ⟨g, 1, none⟩ (.slice AA n cA)).setCell ⟨g, 2, none⟩ (.slice none 0 0)).setCell ⟨g, 3, none⟩ (.slice CC n cC)) g true AA none CC n cA 0 0 n cC xs [] rs) := ⟨(blk_set4 HG.out).c4, HN0.out.set4 HG.out rfl rfl rfl rfl _ _ _ _⟩
    clear hHeld2 HS HG HN0 N9 L9 H9 F9 HB9 CL CH hg
    generalize ((((W.setCell ⟨g, 0, none⟩ (.bool true)).setCell ⟨g, 1, none⟩ (.slice AA n cA)).setCell ⟨g, 2, none⟩ (.slice none 0 0)).setCell ⟨g, 3, none⟩ (.slice CC n cC)) = w10 at *
    have cN10 := N10.out.1
    have cL10 := L10.out.1
    have cH10 := H10.out.1
    have cF10 := F10.out.1
    have cG10 := G10.out.1
    have HSM : Hid (sameN true true xs xs [] [] rs rs = true) := decide_eq_true ⟨rfl, rfl, rfl, rfl⟩
    go_wp2_with fail
    refine (place_c key l bq N10.out.2 HM.out HLO.out HHO.out).mono ?_
    rintro x w11 ⟨rfl, hb⟩
    have HB11 := Lib.hid (stepB HB10.out hb)
    have N11 := Lib.hid (N10.out.later hb)
    have L11 := Lib.hid (L10.out.later hb)
    have H11 := Lib.hid (H10.out.later hb)
    have F11 := Lib.hid (F10.out.later hb)
    have G11 := Lib.hid (G10.out.later hb)
    clear hb HB10 N10 L10 H10 F10 G10 cN10 cL10 cH10 cF10 cG10
    have cN11 := N11.out.1
    have cL11 := L11.out.1
    have cH11 := H11.out.1
    have cF11 := F11.out.1
    have cG11 := G11.out.1
    go_wp2_with fail
    refine (place_c key l bq F11.out.2 M1.out HLF.out HHF.out).mono ?_
    rintro x w12 ⟨rfl, hb⟩
    have HB12 := Lib.hid (stepB HB11.out hb)
    have N12 := Lib.hid (N11.out.later hb)
    have L12 := Lib.hid (L11.out.later hb)
    have H12 := Lib.hid (H11.out.later hb)
    have F12 := Lib.hid (F11.out.later hb)
    have G12 := Lib.hid (G11.out.later hb)
    clear hb HB11 N11 L11 H11 F11 G11 cN11 cL11 cH11 cF11 cG11
    have cN12 := N12.out.1
    have cL12 := L12.out.1
    have cH12 := H12.out.1
    have cF12 := F12.out.1
    have cG12 := G12.out.1
    have hpt : 0 < t := by have := HHH.out; have := HT.out; have := HH3.out; omega
    have hph : h1 < h := by have := HH1.out; omega
    obtain ⟨gH, oH, x0, hAH, hx0, hcH⟩ := (H12.out.2).K.rd.at (j := 0) hpt
    rw [u0.out] at hx0
    cases hx0
    subst hAH
    simp only [sv, Nat.add_zero] at hcH
    have ih := sindex gH oH t c2 0 0 rfl hpt
    simp only [Nat.add_zero] at ih
    obtain ⟨gL, oL, x1, hAL, hx1, hcL⟩ := (L12.out.2).K.rd.at (j := h1) hph
    rw [u1.out] at hx1
    cases hx1
    subst hAL
    simp only [sv] at hcL
    have il := sindex gL oL h c1 h1 (h1 : Int) rfl hph
    clear hht hpt hph
    cases bq
    · skip
      have hcH := Lib.hid hcH
      have hcL := Lib.hid hcL
      have CN := Lib.hid cN12
      have CLL := Lib.hid cL12
      have CHH := Lib.hid cH12
      have CF := Lib.hid cF12
      have CG := Lib.hid cG12
      clear cN12 cL12 cH12 cF12 cG12
      have HSA := Lib.hid (rsame_any true _ _ _ _ _ _ _ _ _ _ _ _ true _ _ _ _ _ _ _ _ _ _ _ _ _ (G12.out.2.later (Aft.drew0 w12)) (N12.out.2.later (Aft.drew0 w12)))
      rw [HSM.out] at HSA
      go_wp2_with fail
      refine wp_region_noPanic ?_
      refine wp_region_held_drew (S := Aft w12) (by kernel_rfl) (Aft.drew0 w12) (fun hHeld => ?_)
      refine wpAnyH_take (i := 0) (oi := { dst := some 122, op := Op.fieldAddr 28 (Operand.tmp 6) 1, type := 0, pos := "outright.go:148", after := #[], guard := none }) (v := ?_) rfl (by kernel_rfl) (by kernel_rfl) (by kernel_rfl) (fun _ _ _ h => h) (Or.inl ⟨by rfl, ?_⟩) (by assumption) ?_
      rotate_left
      · intro W hSw
        clear hSw
        go_simp
        try with_reducible rfl
      simp only [Act.put, List.setIfInBounds_toArray, List.set_cons_zero, List.set_cons_succ]
      refine wpAnyH_take (i := 1) (oi := { dst := some 123, op := Op.load 22 (Operand.tmp 122), type := 22, pos := "outright.go:148", after := #[{ on := 0, ground := Ground.data }], guard := none }) (v := ?_) rfl (by kernel_rfl) (by kernel_rfl) (by kernel_rfl) (fun _ _ _ h => h) (Or.inl ⟨by rfl, ?_⟩) (by assumption) ?_
      rotate_left
      · intro W hSw
        obtain ⟨k0, k1, k2, k3⟩ := CHH.out.later hSw
        go_simp
        try with_reducible rfl
      simp only [Act.put, List.setIfInBounds_toArray, List.set_cons_zero, List.set_cons_succ]
      refine wpAnyH_take (i := 2) (oi := { dst := some 124, op := Op.indexAddr 22 (Operand.tmp 123) (Operand.const (Value.int IntKind.i64 0)), type := 0, pos := "outright.go:148", after := #[{ on := 1, ground := Ground.data }], guard := none }) (v := ?_) rfl (by kernel_rfl) (by kernel_rfl) (by kernel_rfl) (fun _ _ _ h => h) (Or.inl ⟨by rfl, ?_⟩) (by assumption) ?_
      rotate_left
      · intro W hSw
        clear hSw
        go_simp
        try with_reducible rfl
      simp only [Act.put, List.setIfInBounds_toArray, List.set_cons_zero, List.set_cons_succ]
      refine wpAnyH_take (i := 3) (oi := { dst := some 125, op := Op.load 9 (Operand.tmp 124), type := 9, pos := "outright.go:148", after := #[{ on := 2, ground := Ground.data }], guard := none }) (v := ?_) rfl (by kernel_rfl) (by kernel_rfl) (by kernel_rfl) (fun _ _ _ h => h) (Or.inl ⟨by rfl, ?_⟩) (by assumption) ?_
      rotate_left
      · intro W hSw
        have kc := cell_later hcH.out hSw
        go_simp
        try with_reducible rfl
      simp only [Act.put, List.setIfInBounds_toArray, List.set_cons_zero, List.set_cons_succ]
      refine wpAnyH_take (i := 4) (oi := { dst := some 126, op := Op.move (Operand.tmp 7), type := 9, pos := "outright.go:148", after := #[], guard := none }) (v := ?_) rfl (by kernel_rfl) (by kernel_rfl) (by kernel_rfl) (fun _ _ _ h => h) (Or.inl ⟨by rfl, ?_⟩) (by assumption) ?_
      rotate_left
      · intro W hSw
        clear hSw
        go_simp
        try with_reducible rfl
      simp only [Act.put, List.setIfInBounds_toArray, List.set_cons_zero, List.set_cons_succ]
      refine wpAnyH_take (i := 5) (oi := { dst := some 127, op := Op.binOp BinOp.eql 9 (Operand.tmp 125) (Operand.tmp 126) 9, type := 4, pos := "outright.go:148", after := #[{ on := 3, ground := Ground.data }, { on := 4, ground := Ground.data }], guard := none }) (v := ?_) rfl (by kernel_rfl) (by kernel_rfl) (by kernel_rfl) (fun _ _ _ h => h) (Or.inl ⟨by rfl, ?_⟩) (by assumption) ?_
      rotate_left
      · intro W hSw
        clear hSw
        go_simp
        try with_reducible rfl
      simp only [Act.put, List.setIfInBounds_toArray, List.set_cons_zero, List.set_cons_succ]
      refine wpAnyH_take (i := 6) (oi := { dst := some 128, op := Op.move (Operand.tmp 127), type := 4, pos := "outright.go:148", after := #[{ on := 5, ground := Ground.data }], guard := none }) (v := ?_) rfl (by kernel_rfl) (by kernel_rfl) (by kernel_rfl) (fun _ _ _ h => h) (Or.inl ⟨by rfl, ?_⟩) (by assumption) ?_
      rotate_left
      · intro W hSw
        clear hSw
        go_simp
        try with_reducible rfl
      simp only [Act.put, List.setIfInBounds_toArray, List.set_cons_zero, List.set_cons_succ]
      refine wpAnyH_take (i := 7) (oi := { dst := some 129, op := Op.fieldAddr 28 (Operand.tmp 5) 1, type := 0, pos := "outright.go:148", after := #[{ on := 6, ground := Ground.guard }], guard := some (6, true) }) (v := ?_) rfl (by kernel_rfl) (by kernel_rfl) (by kernel_rfl) (fun _ _ _ h => h) (Or.inl ⟨by rfl, ?_⟩) (by assumption) ?_
      rotate_left
      · intro W hSw
        clear hSw
        go_simp
        try with_reducible rfl
      simp only [Act.put, List.setIfInBounds_toArray, List.set_cons_zero, List.set_cons_succ]
      refine wpAnyH_take (i := 8) (oi := { dst := some 130, op := Op.load 22 (Operand.tmp 129), type := 22, pos := "outright.go:148", after := #[{ on := 7, ground := Ground.data }, { on := 6, ground := Ground.guard }], guard := some (6, true) }) (v := ?_) rfl (by kernel_rfl) (by kernel_rfl) (by kernel_rfl) (fun _ _ _ h => h) (Or.inl ⟨by rfl, ?_⟩) (by assumption) ?_
      rotate_left
      · intro W hSw
        obtain ⟨k0, k1, k2, k3⟩ := CLL.out.later hSw
        go_simp
        try with_reducible rfl
      simp only [Act.put, List.setIfInBounds_toArray, List.set_cons_zero, List.set_cons_succ]
      refine wpAnyH_take (i := 9) (oi := { dst := some 131, op := Op.fieldAddr 28 (Operand.tmp 5) 1, type := 0, pos := "outright.go:148", after := #[{ on := 6, ground := Ground.guard }], guard := some (6, true) }) (v := ?_) rfl (by kernel_rfl) (by kernel_rfl) (by kernel_rfl) (fun _ _ _ h => h) (Or.inl ⟨by rfl, ?_⟩) (by assumption) ?_
      rotate_left
      · intro W hSw
        clear hSw
        go_simp
        try with_reducible rfl
      simp only [Act.put, List.setIfInBounds_toArray, List.set_cons_zero, List.set_cons_succ]
      refine wpAnyH_take (i := 10) (oi := { dst := some 132, op := Op.load 22 (Operand.tmp 131), type := 22, pos := "outright.go:148", after := #[{ on := 9, ground := Ground.data }, { on := 6, ground := Ground.guard }], guard := some (6, true) }) (v := ?_) rfl (by kernel_rfl) (by kernel_rfl) (by kernel_rfl) (fun _ _ _ h => h) (Or.inl ⟨by rfl, ?_⟩) (by assumption) ?_
      rotate_left
      · intro W hSw
        obtain ⟨k0, k1, k2, k3⟩ := CLL.out.later hSw
        go_simp
        try with_reducible rfl
      simp only [Act.put, List.setIfInBounds_toArray, List.set_cons_zero, List.set_cons_succ]
      refine wpAnyH_take (i := 11) (oi := { dst := some 133, op := Op.call { callee := Callee.builtin Builtin.len, args := #[Operand.tmp 132], argTypes := #[22] }, type := 3, pos := "outright.go:148", after := #[{ on := 10, ground := Ground.data }, { on := 6, ground := Ground.guard }], guard := some (6, true) }) (v := ?_) rfl (by kernel_rfl) (by kernel_rfl) (by kernel_rfl) (fun _ _ _ h => h) (Or.inl ⟨by rfl, ?_⟩) (by assumption) ?_
      rotate_left
      · intro W hSw
        clear hSw
        go_simp
        try with_reducible rfl
      simp only [Act.put, List.setIfInBounds_toArray, List.set_cons_zero, List.set_cons_succ]
      refine wpAnyH_take (i := 12) (oi := { dst := some 134, op := Op.binOp BinOp.sub 3 (Operand.tmp 133) (Operand.const (Value.int IntKind.i64 1)) 3, type := 3, pos := "outright.go:148", after := #[{ on := 11, ground := Ground.data }, { on := 6, ground := Ground.guard }], guard := some (6, true) }) (v := ?_) rfl (by kernel_rfl) (by kernel_rfl) (by kernel_rfl) (fun _ _ _ h => h) (Or.inl ⟨by rfl, ?_⟩) (by assumption) ?_
      rotate_left
      · intro W hSw
        clear hSw
        go_simp
        try with_reducible rfl
      simp only [Act.put, List.setIfInBounds_toArray, List.set_cons_zero, List.set_cons_succ]
      refine wpAnyH_take (i := 13) (oi := { dst := some 135, op := Op.indexAddr 22 (Operand.tmp 130) (Operand.tmp 134), type := 0, pos := "outright.go:148", after := #[{ on := 8, ground := Ground.data }, { on := 12, ground := Ground.data }, { on := 6, ground := Ground.guard }], guard := some (6, true) }) (v := ?_) rfl (by kernel_rfl) (by kernel_rfl) (by kernel_rfl) (fun _ _ _ h => h) (Or.inl ⟨by rfl, ?_⟩) (by assumption) ?_
      rotate_left
      · intro W hSw
        clear hSw
        go_simp
        try with_reducible rfl
      simp only [Act.put, List.setIfInBounds_toArray, List.set_cons_zero, List.set_cons_succ]
      refine wpAnyH_take (i := 14) (oi := { dst := some 136, op := Op.load 9 (Operand.tmp 135), type := 9, pos := "outright.go:148", after := #[{ on := 13, ground := Ground.data }, { on := 6, ground := Ground.guard }], guard := some (6, true) }) (v := ?_) rfl (by kernel_rfl) (by kernel_rfl) (by kernel_rfl) (fun _ _ _ h => h) (Or.inl ⟨by rfl, ?_⟩) (by assumption) ?_
      rotate_left
      · intro W hSw
        have kc := cell_later hcL.out hSw
        go_simp
        try with_reducible rfl
      simp only [Act.put, List.setIfInBounds_toArray, List.set_cons_zero, List.set_cons_succ]
      refine wpAnyH_take (i := 15) (oi := { dst := some 137, op := Op.move (Operand.tmp 7), type := 9, pos := "outright.go:148", after := #[{ on := 6, ground := Ground.guard }], guard := some (6, true) }) (v := ?_) rfl (by kernel_rfl) (by kernel_rfl) (by kernel_rfl) (fun _ _ _ h => h) (Or.inl ⟨by rfl, ?_⟩) (by assumption) ?_
      rotate_left
      · intro W hSw
        clear hSw
        go_simp
        try with_reducible rfl
      simp only [Act.put, List.setIfInBounds_toArray, List.set_cons_zero, List.set_cons_succ]
      refine wpAnyH_take (i := 16) (oi := { dst := some 138, op := Op.binOp BinOp.lss 9 (Operand.tmp 136) (Operand.tmp 137) 9, type := 4, pos := "outright.go:148", after := #[{ on := 14, ground := Ground.data }, { on := 15, ground := Ground.data }, { on := 6, ground := Ground.guard }], guard := some (6, true) }) (v := ?_) rfl (by kernel_rfl) (by kernel_rfl) (by kernel_rfl) (fun _ _ _ h => h) (Or.inl ⟨by rfl, ?_⟩) (by assumption) ?_
      rotate_left
      · intro W hSw
        clear hSw
        go_simp
        try with_reducible rfl
      simp only [Act.put, List.setIfInBounds_toArray, List.set_cons_zero, List.set_cons_succ]
      refine wpAnyH_take (i := 17) (oi := { dst := some 139, op := Op.pick (Operand.tmp 128) (Operand.tmp 138) (Operand.const (Value.bool false)), type := 4, pos := "outright.go:148", after := #[{ on := 6, ground := Ground.data }, { on := 16, ground := Ground.data }], guard := none }) (v := ?_) rfl (by kernel_rfl) (by kernel_rfl) (by kernel_rfl) (fun _ _ _ h => h) (Or.inl ⟨by rfl, ?_⟩) (by assumption) ?_
      rotate_left
      · intro W hSw
        clear hSw
        go_simp
        try with_reducible rfl
      simp only [Act.put, List.setIfInBounds_toArray, List.set_cons_zero, List.set_cons_succ]
      refine wpAnyH_take (i := 18) (oi := { dst := some 140, op := Op.move (Operand.tmp 139), type := 4, pos := "outright.go:148", after := #[{ on := 17, ground := Ground.data }, { on := 6, ground := Ground.chain }], guard := none }) (v := ?_) rfl (by kernel_rfl) (by kernel_rfl) (by kernel_rfl) (fun _ _ _ h => h) (Or.inl ⟨by rfl, ?_⟩) (by assumption) ?_
      rotate_left
      · intro W hSw
        clear hSw
        go_simp
        try with_reducible rfl
      simp only [Act.put, List.setIfInBounds_toArray, List.set_cons_zero, List.set_cons_succ]
      refine wpAnyH_take (i := 19) (oi := { dst := some 141, op := Op.load 28 (Operand.tmp 10), type := 28, pos := "outright.go:148", after := #[{ on := 18, ground := Ground.guard }], guard := some (18, true) }) (v := ?_) rfl (by kernel_rfl) (by kernel_rfl) (by kernel_rfl) (fun _ _ _ h => h) (Or.inl ⟨by rfl, ?_⟩) (by assumption) ?_
      rotate_left
      · intro W hSw
        obtain ⟨k0, k1, k2, k3⟩ := CG.out.later hSw
        go_simp
        try with_reducible rfl
      simp only [Act.put, List.setIfInBounds_toArray, List.set_cons_zero, List.set_cons_succ]
      refine wpAnyH_take (i := 20) (oi := { dst := some 142, op := Op.load 28 (Operand.tmp 2), type := 28, pos := "outright.go:148", after := #[{ on := 18, ground := Ground.guard }], guard := some (18, true) }) (v := ?_) rfl (by kernel_rfl) (by kernel_rfl) (by kernel_rfl) (fun _ _ _ h => h) (Or.inl ⟨by rfl, ?_⟩) (by assumption) ?_
      rotate_left
      · intro W hSw
        obtain ⟨k0, k1, k2, k3⟩ := CN.out.later hSw
        go_simp
        try with_reducible rfl
      simp only [Act.put, List.setIfInBounds_toArray, List.set_cons_zero, List.set_cons_succ]
      refine wpAnyH_ready (rs := [21]) (by kernel_rfl) (by simp) (AllReadyH.cons (o := { dst := some 143, op := Op.call { callee := Callee.value (Operand.func 28), args := #[Operand.tmp 141, Operand.tmp 142], argTypes := #[47, 47] }, type := 4, pos := "outright.go:148", after := #[{ on := 19, ground := Ground.data }, { on := 20, ground := Ground.data }, { on := 18, ground := Ground.chain }, { on := 18, ground := Ground.guard }], guard := some (18, true) }) rfl (fun K hK => ?_) AllReadyH.nil)
      refine step_callw (by rfl) 28 #[.agg #[.bool true, .slice AA n cA, .slice none 0 0, .slice CC n cC], .agg #[.bool true, .slice A n c, .slice B 0 d, .slice C n e]] (by go_simp) ?_
      refine (HSA.out).mono ?_
      rintro x W' ⟨rfl, hb⟩
      refine ⟨_, rfl, hK.out _ _ (Aft.below (Aft.drew0 _) hb) (fun hHeld2 => ?_)⟩
      have HBE := Lib.hid hHeld2
      clear hK K hHeld hb HSA
      simp only [Act.put, List.setIfInBounds_toArray, List.set_cons_zero, List.set_cons_succ]
      refine wpAnyH_take (i := 22) (oi := { dst := some 144, op := Op.pick (Operand.tmp 140) (Operand.tmp 143) (Operand.const (Value.bool false)), type := 4, pos := "outright.go:148", after := #[{ on := 18, ground := Ground.data }, { on := 21, ground := Ground.data }], guard := none }) (v := ?_) rfl (by kernel_rfl) (by kernel_rfl) (by kernel_rfl) (fun _ _ _ h => h) (Or.inl ⟨by rfl, ?_⟩) (by assumption) ?_
      rotate_left
      · intro W hSw
        clear hSw
        go_simp
        try with_reducible rfl
      simp only [Act.put, List.setIfInBounds_toArray, List.set_cons_zero, List.set_cons_succ]
      refine wpAnyH_take (i := 23) (oi := { dst := some 145, op := Op.move (Operand.tmp 144), type := 4, pos := "outright.go:148", after := #[{ on := 22, ground := Ground.data }, { on := 21, ground := Ground.chain }], guard := none }) (v := ?_) rfl (by kernel_rfl) (by kernel_rfl) (by kernel_rfl) (fun _ _ _ h => h) (Or.inl ⟨by rfl, ?_⟩) (by assumption) ?_
      rotate_left
      · intro W hSw
        clear hSw
        go_simp
        try with_reducible rfl
      simp only [Act.put, List.setIfInBounds_toArray, List.set_cons_zero, List.set_cons_succ]
      refine wpAnyH_take (i := 24) (oi := { dst := some 146, op := Op.move (Operand.tmp 14), type := 4, pos := "outright.go:148", after := #[{ on := 23, ground := Ground.guard }], guard := some (23, true) }) (v := ?_) rfl (by kernel_rfl) (by kernel_rfl) (by kernel_rfl) (fun _ _ _ h => h) (Or.inl ⟨by rfl, ?_⟩) (by assumption) ?_
      rotate_left
      · intro W hSw
        clear hSw
        go_simp
        try with_reducible rfl
      simp only [Act.put, List.setIfInBounds_toArray, List.set_cons_zero, List.set_cons_succ]
      refine wpAnyH_take (i := 25) (oi := { dst := some 147, op := Op.move (Operand.tmp 12), type := 4, pos := "outright.go:148", after := #[{ on := 23, ground := Ground.guard }], guard := some (23, true) }) (v := ?_) rfl (by kernel_rfl) (by kernel_rfl) (by kernel_rfl) (fun _ _ _ h => h) (Or.inl ⟨by rfl, ?_⟩) (by assumption) ?_
      rotate_left
      · intro W hSw
        clear hSw
        go_simp
        try with_reducible rfl
      simp only [Act.put, List.setIfInBounds_toArray, List.set_cons_zero, List.set_cons_succ]
      refine wpAnyH_take (i := 26) (oi := { dst := some 148, op := Op.binOp BinOp.eql 4 (Operand.tmp 146) (Operand.tmp 147) 4, type := 4, pos := "outright.go:148", after := #[{ on := 24, ground := Ground.data }, { on := 25, ground := Ground.data }, { on := 23, ground := Ground.guard }], guard := some (23, true) }) (v := ?_) rfl (by kernel_rfl) (by kernel_rfl) (by kernel_rfl) (fun _ _ _ h => h) (Or.inl ⟨by rfl, ?_⟩) (by assumption) ?_
      rotate_left
      · intro W hSw
        clear hSw
        go_simp
        try with_reducible rfl
      simp only [Act.put, List.setIfInBounds_toArray, List.set_cons_zero, List.set_cons_succ]
      refine wpAnyH_take (i := 27) (oi := { dst := some 149, op := Op.pick (Operand.tmp 145) (Operand.tmp 148) (Operand.const (Value.bool false)), type := 4, pos := "outright.go:148", after := #[{ on := 23, ground := Ground.data }, { on := 26, ground := Ground.data }], guard := none }) (v := ?_) rfl (by kernel_rfl) (by kernel_rfl) (by kernel_rfl) (fun _ _ _ h => h) (Or.inl ⟨by rfl, ?_⟩) (by assumption) ?_
      rotate_left
      · intro W hSw
        clear hSw
        go_simp
        try with_reducible rfl
      simp only [Act.put, List.setIfInBounds_toArray, List.set_cons_zero, List.set_cons_succ]
      refine wpAnyH_take (i := 28) (oi := { dst := some 150, op := Op.move (Operand.tmp 149), type := 4, pos := "outright.go:148", after := #[{ on := 27, ground := Ground.data }, { on := 23, ground := Ground.chain }], guard := none }) (v := ?_) rfl (by kernel_rfl) (by kernel_rfl) (by kernel_rfl) (fun _ _ _ h => h) (Or.inl ⟨by rfl, ?_⟩) (by assumption) ?_
      rotate_left
      · intro W hSw
        clear hSw
        go_simp
        try with_reducible rfl
      simp only [Act.put, List.setIfInBounds_toArray, List.set_cons_zero, List.set_cons_succ]
      refine wpAnyH_take (i := 29) (oi := { dst := some 151, op := Op.move (Operand.tmp 14), type := 4, pos := "outright.go:148", after := #[{ on := 28, ground := Ground.guard }], guard := some (28, true) }) (v := ?_) rfl (by kernel_rfl) (by kernel_rfl) (by kernel_rfl) (fun _ _ _ h => h) (Or.inl ⟨by rfl, ?_⟩) (by assumption) ?_
      rotate_left
      · intro W hSw
        clear hSw
        go_simp
        try with_reducible rfl
      simp only [Act.put, List.setIfInBounds_toArray, List.set_cons_zero, List.set_cons_succ]
      refine wpAnyH_take (i := 30) (oi := { dst := some 152, op := Op.unOp UnOp.not 4 (Operand.tmp 151), type := 4, pos := "outright.go:148", after := #[{ on := 29, ground := Ground.data }, { on := 28, ground := Ground.guard }], guard := some (28, true) }) (v := ?_) rfl (by kernel_rfl) (by kernel_rfl) (by kernel_rfl) (fun _ _ _ h => h) (Or.inl ⟨by rfl, ?_⟩) (by assumption) ?_
      rotate_left
      · intro W hSw
        clear hSw
        go_simp
        try with_reducible rfl
      simp only [Act.put, List.setIfInBounds_toArray, List.set_cons_zero, List.set_cons_succ]
      refine wpAnyH_take (i := 31) (oi := { dst := some 153, op := Op.move (Operand.tmp 152), type := 4, pos := "outright.go:148", after := #[{ on := 30, ground := Ground.data }, { on := 28, ground := Ground.chain }, { on := 28, ground := Ground.guard }], guard := some (28, true) }) (v := ?_) rfl (by kernel_rfl) (by kernel_rfl) (by kernel_rfl) (fun _ _ _ h => h) (Or.inl ⟨by rfl, ?_⟩) (by assumption) ?_
      rotate_left
      · intro W hSw
        clear hSw
        go_simp
        try with_reducible rfl
      simp only [Act.put, List.setIfInBounds_toArray, List.set_cons_zero, List.set_cons_succ]
      refine wpAnyH_take (i := 32) (oi := { dst := some 154, op := Op.fieldAddr 28 (Operand.tmp 9) 3, type := 0, pos := "outright.go:148", after := #[{ on := 31, ground := Ground.guard }], guard := some (31, false) }) (v := undef) rfl (by kernel_rfl) (by kernel_rfl) (by kernel_rfl) (fun _ _ _ h => h) (Or.inr ⟨by rfl, rfl⟩) (by assumption) ?_
      simp only [Act.put, List.setIfInBounds_toArray, List.set_cons_zero, List.set_cons_succ]
      refine wpAnyH_take (i := 33) (oi := { dst := some 155, op := Op.load 25 (Operand.tmp 154), type := 25, pos := "outright.go:148", after := #[{ on := 32, ground := Ground.data }, { on := 31, ground := Ground.guard }], guard := some (31, false) }) (v := undef) rfl (by kernel_rfl) (by kernel_rfl) (by kernel_rfl) (fun _ _ _ h => h) (Or.inr ⟨by rfl, rfl⟩) (by assumption) ?_
      simp only [Act.put, List.setIfInBounds_toArray, List.set_cons_zero, List.set_cons_succ]
      refine wpAnyH_take (i := 34) (oi := { dst := some 156, op := Op.move (Operand.tmp 13), type := 3, pos := "outright.go:148", after := #[{ on := 31, ground := Ground.guard }], guard := some (31, false) }) (v := undef) rfl (by kernel_rfl) (by kernel_rfl) (by kernel_rfl) (fun _ _ _ h => h) (Or.inr ⟨by rfl, rfl⟩) (by assumption) ?_
      simp only [Act.put, List.setIfInBounds_toArray, List.set_cons_zero, List.set_cons_succ]
      refine wpAnyH_take (i := 35) (oi := { dst := some 157, op := Op.indexAddr 25 (Operand.tmp 155) (Operand.tmp 156), type := 0, pos := "outright.go:148", after := #[{ on := 33, ground := Ground.data }, { on := 34, ground := Ground.data }, { on := 31, ground := Ground.guard }], guard := some (31, false) }) (v := undef) rfl (by kernel_rfl) (by kernel_rfl) (by kernel_rfl) (fun _ _ _ h => h) (Or.inr ⟨by rfl, rfl⟩) (by assumption) ?_
      simp only [Act.put, List.setIfInBounds_toArray, List.set_cons_zero, List.set_cons_succ]
      refine wpAnyH_take (i := 36) (oi := { dst := some 158, op := Op.load 24 (Operand.tmp 157), type := 24, pos := "outright.go:148", after := #[{ on := 35, ground := Ground.data }, { on := 31, ground := Ground.guard }], guard := some (31, false) }) (v := undef) rfl (by kernel_rfl) (by kernel_rfl) (by kernel_rfl) (fun _ _ _ h => h) (Or.inr ⟨by rfl, rfl⟩) (by assumption) ?_
      simp only [Act.put, List.setIfInBounds_toArray, List.set_cons_zero, List.set_cons_succ]
      refine wpAnyH_take (i := 37) (oi := { dst := some 159, op := Op.fieldAddr 28 (Operand.tmp 2) 3, type := 0, pos := "outright.go:148", after := #[{ on := 31, ground := Ground.guard }], guard := some (31, false) }) (v := undef) rfl (by kernel_rfl) (by kernel_rfl) (by kernel_rfl) (fun _ _ _ h => h) (Or.inr ⟨by rfl, rfl⟩) (by assumption) ?_
      simp only [Act.put, List.setIfInBounds_toArray, List.set_cons_zero, List.set_cons_succ]
      refine wpAnyH_take (i := 38) (oi := { dst := some 160, op := Op.load 25 (Operand.tmp 159), type := 25, pos := "outright.go:148", after := #[{ on := 37, ground := Ground.data }, { on := 31, ground := Ground.guard }], guard := some (31, false) }) (v := undef) rfl (by kernel_rfl) (by kernel_rfl) (by kernel_rfl) (fun _ _ _ h => h) (Or.inr ⟨by rfl, rfl⟩) (by assumption) ?_
      simp only [Act.put, List.setIfInBounds_toArray, List.set_cons_zero, List.set_cons_succ]
      refine wpAnyH_take (i := 39) (oi := { dst := some 161, op := Op.move (Operand.tmp 11), type := 3, pos := "outright.go:148", after := #[{ on := 31, ground := Ground.guard }], guard := some (31, false) }) (v := undef) rfl (by kernel_rfl) (by kernel_rfl) (by kernel_rfl) (fun _ _ _ h => h) (Or.inr ⟨by rfl, rfl⟩) (by assumption) ?_
      simp only [Act.put, List.setIfInBounds_toArray, List.set_cons_zero, List.set_cons_succ]
      refine wpAnyH_take (i := 40) (oi := { dst := some 162, op := Op.indexAddr 25 (Operand.tmp 160) (Operand.tmp 161), type := 0, pos := "outright.go:148", after := #[{ on := 38, ground := Ground.data }, { on := 39, ground := Ground.data }, { on := 31, ground := Ground.guard }], guard := some (31, false) }) (v := undef) rfl (by kernel_rfl) (by kernel_rfl) (by kernel_rfl) (fun _ _ _ h => h) (Or.inr ⟨by rfl, rfl⟩) (by assumption) ?_
      simp only [Act.put, List.setIfInBounds_toArray, List.set_cons_zero, List.set_cons_succ]
      refine wpAnyH_take (i := 41) (oi := { dst := some 163, op := Op.load 24 (Operand.tmp 162), type := 24, pos := "outright.go:148", after := #[{ on := 40, ground := Ground.data }, { on := 31, ground := Ground.guard }], guard := some (31, false) }) (v := undef) rfl (by kernel_rfl) (by kernel_rfl) (by kernel_rfl) (fun _ _ _ h => h) (Or.inr ⟨by rfl, rfl⟩) (by assumption) ?_
      simp only [Act.put, List.setIfInBounds_toArray, List.set_cons_zero, List.set_cons_succ]
      refine wpAnyH_take (i := 42) (oi := { dst := some 164, op := Op.binOp BinOp.eql 24 (Operand.tmp 158) (Operand.tmp 163) 24, type := 4, pos := "outright.go:148", after := #[{ on := 36, ground := Ground.data }, { on := 41, ground := Ground.data }, { on := 31, ground := Ground.guard }], guard := some (31, false) }) (v := undef) rfl (by kernel_rfl) (by kernel_rfl) (by kernel_rfl) (fun _ _ _ h => h) (Or.inr ⟨by rfl, rfl⟩) (by assumption) ?_
      simp only [Act.put, List.setIfInBounds_toArray, List.set_cons_zero, List.set_cons_succ]
      refine wpAnyH_take (i := 43) (oi := { dst := some 165, op := Op.pick (Operand.tmp 153) (Operand.const (Value.bool true)) (Operand.tmp 164), type := 4, pos := "outright.go:148", after := #[{ on := 31, ground := Ground.data }, { on := 42, ground := Ground.data }, { on := 28, ground := Ground.guard }], guard := some (28, true) }) (v := ?_) rfl (by kernel_rfl) (by kernel_rfl) (by kernel_rfl) (fun _ _ _ h => h) (Or.inl ⟨by rfl, ?_⟩) (by assumption) ?_
      rotate_left
      · intro W hSw
        clear hSw
        go_simp
        try with_reducible rfl
      simp only [Act.put, List.setIfInBounds_toArray, List.set_cons_zero, List.set_cons_succ]
      refine wpAnyH_take (i := 44) (oi := { dst := some 166, op := Op.pick (Operand.tmp 150) (Operand.tmp 165) (Operand.const (Value.bool false)), type := 4, pos := "outright.go:148", after := #[{ on := 28, ground := Ground.data }, { on := 43, ground := Ground.data }], guard := none }) (v := ?_) rfl (by kernel_rfl) (by kernel_rfl) (by kernel_rfl) (fun _ _ _ h => h) (Or.inl ⟨by rfl, ?_⟩) (by assumption) ?_
      rotate_left
      · intro W hSw
        clear hSw
        go_simp
        try with_reducible rfl
      simp only [Act.put, List.setIfInBounds_toArray, List.set_cons_zero, List.set_cons_succ]
      refine wpAnyH_take (i := 45) (oi := { dst := some 167, op := Op.move (Operand.tmp 166), type := 4, pos := "outright.go:148", after := #[{ on := 44, ground := Ground.data }, { on := 31, ground := Ground.chain }], guard := none }) (v := ?_) rfl (by kernel_rfl) (by kernel_rfl) (by kernel_rfl) (fun _ _ _ h => h) (Or.inl ⟨by rfl, ?_⟩) (by assumption) ?_
      rotate_left
      · intro W hSw
        clear hSw
        go_simp
        try with_reducible rfl
      simp only [Act.put, List.setIfInBounds_toArray, List.set_cons_zero, List.set_cons_succ]
      refine wpAnyH_take (i := 46) (oi := { dst := some 168, op := Op.fieldAddr 28 (Operand.tmp 5) 1, type := 0, pos := "outright.go:148", after := #[{ on := 45, ground := Ground.guard }], guard := some (45, true) }) (v := ?_) rfl (by kernel_rfl) (by kernel_rfl) (by kernel_rfl) (fun _ _ _ h => h) (Or.inl ⟨by rfl, ?_⟩) (by assumption) ?_
      rotate_left
      · intro W hSw
        clear hSw
        go_simp
        try with_reducible rfl
      simp only [Act.put, List.setIfInBounds_toArray, List.set_cons_zero, List.set_cons_succ]
      refine wpAnyH_take (i := 47) (oi := { dst := some 169, op := Op.load 22 (Operand.tmp 168), type := 22, pos := "outright.go:148", after := #[{ on := 46, ground := Ground.data }, { on := 45, ground := Ground.guard }], guard := some (45, true) }) (v := ?_) rfl (by kernel_rfl) (by kernel_rfl) (by kernel_rfl) (fun _ _ _ h => h) (Or.inl ⟨by rfl, ?_⟩) (by assumption) ?_
      rotate_left
      · intro W hSw
        obtain ⟨k0, k1, k2, k3⟩ := CLL.out.later hSw
        go_simp
        try with_reducible rfl
      simp only [Act.put, List.setIfInBounds_toArray, List.set_cons_zero, List.set_cons_succ]
      refine wpAnyH_take (i := 48) (oi := { dst := some 170, op := Op.call { callee := Callee.builtin Builtin.len, args := #[Operand.tmp 169], argTypes := #[22] }, type := 3, pos := "outright.go:148", after := #[{ on := 47, ground := Ground.data }, { on := 45, ground := Ground.guard }], guard := some (45, true) }) (v := ?_) rfl (by kernel_rfl) (by kernel_rfl) (by kernel_rfl) (fun _ _ _ h => h) (Or.inl ⟨by rfl, ?_⟩) (by assumption) ?_
      rotate_left
      · intro W hSw
        clear hSw
        go_simp
        try with_reducible rfl
      simp only [Act.put, List.setIfInBounds_toArray, List.set_cons_zero, List.set_cons_succ]
      refine wpAnyH_take (i := 49) (oi := { dst := some 171, op := Op.fieldAddr 28 (Operand.tmp 6) 1, type := 0, pos := "outright.go:148", after := #[{ on := 45, ground := Ground.guard }], guard := some (45, true) }) (v := ?_) rfl (by kernel_rfl) (by kernel_rfl) (by kernel_rfl) (fun _ _ _ h => h) (Or.inl ⟨by rfl, ?_⟩) (by assumption) ?_
      rotate_left
      · intro W hSw
        clear hSw
        go_simp
        try with_reducible rfl
      simp only [Act.put, List.setIfInBounds_toArray, List.set_cons_zero, List.set_cons_succ]
      refine wpAnyH_take (i := 50) (oi := { dst := some 172, op := Op.load 22 (Operand.tmp 171), type := 22, pos := "outright.go:148", after := #[{ on := 49, ground := Ground.data }, { on := 45, ground := Ground.guard }], guard := some (45, true) }) (v := ?_) rfl (by kernel_rfl) (by kernel_rfl) (by kernel_rfl) (fun _ _ _ h => h) (Or.inl ⟨by rfl, ?_⟩) (by assumption) ?_
      rotate_left
      · intro W hSw
        obtain ⟨k0, k1, k2, k3⟩ := CHH.out.later hSw
        go_simp
        try with_reducible rfl
      simp only [Act.put, List.setIfInBounds_toArray, List.set_cons_zero, List.set_cons_succ]
      refine wpAnyH_take (i := 51) (oi := { dst := some 173, op := Op.call { callee := Callee.builtin Builtin.len, args := #[Operand.tmp 172], argTypes := #[22] }, type := 3, pos := "outright.go:148", after := #[{ on := 50, ground := Ground.data }, { on := 45, ground := Ground.guard }], guard := some (45, true) }) (v := ?_) rfl (by kernel_rfl) (by kernel_rfl) (by kernel_rfl) (fun _ _ _ h => h) (Or.inl ⟨by rfl, ?_⟩) (by assumption) ?_
      rotate_left
      · intro W hSw
        clear hSw
        go_simp
        try with_reducible rfl
      simp only [Act.put, List.setIfInBounds_toArray, List.set_cons_zero, List.set_cons_succ]
      refine wpAnyH_take (i := 52) (oi := { dst := some 174, op := Op.binOp BinOp.sub 3 (Operand.tmp 170) (Operand.tmp 173) 3, type := 3, pos := "outright.go:148", after := #[{ on := 48, ground := Ground.data }, { on := 51, ground := Ground.data }, { on := 45, ground := Ground.guard }], guard := some (45, true) }) (v := ?_) rfl (by kernel_rfl) (by kernel_rfl) (by kernel_rfl) (fun _ _ _ h => h) (Or.inl ⟨by rfl, ?_⟩) (by assumption) ?_
      rotate_left
      · intro W hSw
        clear hSw
        go_simp
        try with_reducible rfl
      simp only [Act.put, List.setIfInBounds_toArray, List.set_cons_zero, List.set_cons_succ]
      refine wpAnyH_take (i := 53) (oi := { dst := some 175, op := Op.binOp BinOp.leq 3 (Operand.tmp 174) (Operand.const (Value.int IntKind.i64 1)) 3, type := 4, pos := "outright.go:148", after := #[{ on := 52, ground := Ground.data }, { on := 45, ground := Ground.guard }], guard := some (45, true) }) (v := ?_) rfl (by kernel_rfl) (by kernel_rfl) (by kernel_rfl) (fun _ _ _ h => h) (Or.inl ⟨by rfl, ?_⟩) (by assumption) ?_
      rotate_left
      · intro W hSw
        clear hSw
        go_simp
        try with_reducible rfl
      simp only [Act.put, List.setIfInBounds_toArray, List.set_cons_zero, List.set_cons_succ]
      refine wpAnyH_take (i := 54) (oi := { dst := some 176, op := Op.pick (Operand.tmp 167) (Operand.tmp 175) (Operand.const (Value.bool false)), type := 4, pos := "outright.go:148", after := #[{ on := 45, ground := Ground.data }, { on := 53, ground := Ground.data }], guard := none }) (v := ?_) rfl (by kernel_rfl) (by kernel_rfl) (by kernel_rfl) (fun _ _ _ h => h) (Or.inl ⟨by rfl, ?_⟩) (by assumption) ?_
      rotate_left
      · intro W hSw
        clear hSw
        go_simp
        try with_reducible rfl
      simp only [Act.put, List.setIfInBounds_toArray, List.set_cons_zero, List.set_cons_succ]
      refine wpAnyH_take (i := 55) (oi := { dst := some 177, op := Op.move (Operand.tmp 176), type := 4, pos := "outright.go:148", after := #[{ on := 54, ground := Ground.data }, { on := 45, ground := Ground.chain }], guard := none }) (v := ?_) rfl (by kernel_rfl) (by kernel_rfl) (by kernel_rfl) (fun _ _ _ h => h) (Or.inl ⟨by rfl, ?_⟩) (by assumption) ?_
      rotate_left
      · intro W hSw
        clear hSw
        go_simp
        try with_reducible rfl
      simp only [Act.put, List.setIfInBounds_toArray, List.set_cons_zero, List.set_cons_succ]
      refine wpAnyH_take (i := 56) (oi := { dst := some 178, op := Op.fieldAddr 28 (Operand.tmp 5) 1, type := 0, pos := "outright.go:148", after := #[{ on := 55, ground := Ground.guard }], guard := some (55, true) }) (v := ?_) rfl (by kernel_rfl) (by kernel_rfl) (by kernel_rfl) (fun _ _ _ h => h) (Or.inl ⟨by rfl, ?_⟩) (by assumption) ?_
      rotate_left
      · intro W hSw
        clear hSw
        go_simp
        try with_reducible rfl
      simp only [Act.put, List.setIfInBounds_toArray, List.set_cons_zero, List.set_cons_succ]
      refine wpAnyH_take (i := 57) (oi := { dst := some 179, op := Op.load 22 (Operand.tmp 178), type := 22, pos := "outright.go:148", after := #[{ on := 56, ground := Ground.data }, { on := 55, ground := Ground.guard }], guard := some (55, true) }) (v := ?_) rfl (by kernel_rfl) (by kernel_rfl) (by kernel_rfl) (fun _ _ _ h => h) (Or.inl ⟨by rfl, ?_⟩) (by assumption) ?_
      rotate_left
      · intro W hSw
        obtain ⟨k0, k1, k2, k3⟩ := CLL.out.later hSw
        go_simp
        try with_reducible rfl
      simp only [Act.put, List.setIfInBounds_toArray, List.set_cons_zero, List.set_cons_succ]
      refine wpAnyH_take (i := 58) (oi := { dst := some 180, op := Op.call { callee := Callee.builtin Builtin.len, args := #[Operand.tmp 179], argTypes := #[22] }, type := 3, pos := "outright.go:148", after := #[{ on := 57, ground := Ground.data }, { on := 55, ground := Ground.guard }], guard := some (55, true) }) (v := ?_) rfl (by kernel_rfl) (by kernel_rfl) (by kernel_rfl) (fun _ _ _ h => h) (Or.inl ⟨by rfl, ?_⟩) (by assumption) ?_
      rotate_left
      · intro W hSw
        clear hSw
        go_simp
        try with_reducible rfl
      simp only [Act.put, List.setIfInBounds_toArray, List.set_cons_zero, List.set_cons_succ]
      refine wpAnyH_take (i := 59) (oi := { dst := some 181, op := Op.fieldAddr 28 (Operand.tmp 6) 1, type := 0, pos := "outright.go:148", after := #[{ on := 55, ground := Ground.guard }], guard := some (55, true) }) (v := ?_) rfl (by kernel_rfl) (by kernel_rfl) (by kernel_rfl) (fun _ _ _ h => h) (Or.inl ⟨by rfl, ?_⟩) (by assumption) ?_
      rotate_left
      · intro W hSw
        clear hSw
        go_simp
        try with_reducible rfl
      simp only [Act.put, List.setIfInBounds_toArray, List.set_cons_zero, List.set_cons_succ]
      refine wpAnyH_take (i := 60) (oi := { dst := some 182, op := Op.load 22 (Operand.tmp 181), type := 22, pos := "outright.go:148", after := #[{ on := 59, ground := Ground.data }, { on := 55, ground := Ground.guard }], guard := some (55, true) }) (v := ?_) rfl (by kernel_rfl) (by kernel_rfl) (by kernel_rfl) (fun _ _ _ h => h) (Or.inl ⟨by rfl, ?_⟩) (by assumption) ?_
      rotate_left
      · intro W hSw
        obtain ⟨k0, k1, k2, k3⟩ := CHH.out.later hSw
        go_simp
        try with_reducible rfl
      simp only [Act.put, List.setIfInBounds_toArray, List.set_cons_zero, List.set_cons_succ]
      refine wpAnyH_take (i := 61) (oi := { dst := some 183, op := Op.call { callee := Callee.builtin Builtin.len, args := #[Operand.tmp 182], argTypes := #[22] }, type := 3, pos := "outright.go:148", after := #[{ on := 60, ground := Ground.data }, { on := 55, ground := Ground.guard }], guard := some (55, true) }) (v := ?_) rfl (by kernel_rfl) (by kernel_rfl) (by kernel_rfl) (fun _ _ _ h => h) (Or.inl ⟨by rfl, ?_⟩) (by assumption) ?_
      rotate_left
      · intro W hSw
        clear hSw
        go_simp
        try with_reducible rfl
      simp only [Act.put, List.setIfInBounds_toArray, List.set_cons_zero, List.set_cons_succ]
      refine wpAnyH_take (i := 62) (oi := { dst := some 184, op := Op.binOp BinOp.geq 3 (Operand.tmp 180) (Operand.tmp 183) 3, type := 4, pos := "outright.go:148", after := #[{ on := 58, ground := Ground.data }, { on := 61, ground := Ground.data }, { on := 55, ground := Ground.guard }], guard := some (55, true) }) (v := ?_) rfl (by kernel_rfl) (by kernel_rfl) (by kernel_rfl) (fun _ _ _ h => h) (Or.inl ⟨by rfl, ?_⟩) (by assumption) ?_
      rotate_left
      · intro W hSw
        clear hSw
        go_simp
        try with_reducible rfl
      simp only [Act.put, List.setIfInBounds_toArray, List.set_cons_zero, List.set_cons_succ]
      refine wpAnyH_take (i := 63) (oi := { dst := some 185, op := Op.pick (Operand.tmp 177) (Operand.tmp 184) (Operand.const (Value.bool false)), type := 4, pos := "outright.go:148", after := #[{ on := 55, ground := Ground.data }, { on := 62, ground := Ground.data }], guard := none }) (v := ?_) rfl (by kernel_rfl) (by kernel_rfl) (by kernel_rfl) (fun _ _ _ h => h) (Or.inl ⟨by rfl, ?_⟩) (by assumption) ?_
      rotate_left
      · intro W hSw
        clear hSw
        go_simp
        try with_reducible rfl
      simp only [Act.put, List.setIfInBounds_toArray, List.set_cons_zero, List.set_cons_succ]
      refine wpAnyH_take (i := 64) (oi := { dst := some 4, op := Op.assign (Operand.tmp 185), type := 4, pos := "outright.go:148", after := ([{ on := 63, ground := Ground.data }, { on := 55, ground := Ground.chain }, { on := 0, ground := Ground.phase }, { on := 1, ground := Ground.phase }, { on := 2, ground := Ground.phase }, { on := 3, ground := Ground.phase }, { on := 4, ground := Ground.phase }, { on := 5, ground := Ground.phase }, { on := 6, ground := Ground.phase }, { on := 7, ground := Ground.phase }, { on := 8, ground := Ground.phase }, { on := 9, ground := Ground.phase }, { on := 10, ground := Ground.phase }, { on := 11, ground := Ground.phase }, { on := 12, ground := Ground.phase }, { on := 13, ground := Ground.phase }, { on := 14, ground := Ground.phase }, { on := 15, ground := Ground.phase }, { on := 16, ground := Ground.phase }, { on := 17, ground := Ground.phase }, { on := 18, ground := Ground.phase }, { on := 19, ground := Ground.phase }, { on := 20, ground := Ground.phase }, { on := 21, ground := Ground.phase }, { on := 22, ground := Ground.phase }, { on := 23, ground := Ground.phase }, { on := 24, ground := Ground.phase }, { on := 25, ground := Ground.phase }, { on := 26, ground := Ground.phase }, { on := 27, ground := Ground.phase }, { on := 28, ground := Ground.phase }, { on := 29, ground := Ground.phase }, { on := 30, ground := Ground.phase }].append [{ on := 31, ground := Ground.phase }, { on := 32, ground := Ground.phase }, { on := 33, ground := Ground.phase }, { on := 34, ground := Ground.phase }, { on := 35, ground := Ground.phase }, { on := 36, ground := Ground.phase }, { on := 37, ground := Ground.phase }, { on := 38, ground := Ground.phase }, { on := 39, ground := Ground.phase }, { on := 40, ground := Ground.phase }, { on := 41, ground := Ground.phase }, { on := 42, ground := Ground.phase }, { on := 43, ground := Ground.phase }, { on := 44, ground := Ground.phase }, { on := 45, ground := Ground.phase }, { on := 46, ground := Ground.phase }, { on := 47, ground := Ground.phase }, { on := 48, ground := Ground.phase }, { on := 49, ground := Ground.phase }, { on := 50, ground := Ground.phase }, { on := 51, ground := Ground.phase }, { on := 52, ground := Ground.phase }, { on := 53, ground := Ground.phase }, { on := 54, ground := Ground.phase }, { on := 55, ground := Ground.phase }, { on := 56, ground := Ground.phase }, { on := 57, ground := Ground.phase }, { on := 58, ground := Ground.phase }, { on := 59, ground := Ground.phase }, { on := 60, ground := Ground.phase }, { on := 61, ground := Ground.phase }, { on := 62, ground := Ground.phase }, { on := 63, ground := Ground.phase }]).toArray, guard := none }) (v := ?_) rfl (by kernel_rfl) (by kernel_rfl) (by kernel_rfl) (fun _ _ _ h => h) (Or.inl ⟨by rfl, ?_⟩) (by assumption) ?_
      rotate_left
      · intro W hSw
        clear hSw
        go_simp
        try with_reducible rfl
      simp only [Act.put, List.setIfInBounds_toArray, List.set_cons_zero, List.set_cons_succ]
      refine wpAnyH_done (by kernel_rfl) (NoPanic.normal ?_) _
      have HBF := Lib.hid (stepB HB12.out HBE.out)
      go_wp2
      go_ret
      exact ⟨rfl, HBF.out⟩
    · skip
      obtain ⟨gN, oN, yN, hAN, hyN, hcN⟩ := (N12.out.2).R.rd.at (j := l) (hlt.out rfl)
      obtain ⟨gF, oF, yF, hAF, hyF, hcF⟩ := (F12.out.2).R.rd.at (j := l) (HROW.out rfl)
      have hr := HR.out l yN HHO.out HLO.out hyN
      rw [hr] at hyF
      cases hyF
      simp only [hv] at hcN hcF
      have iN := hindex gN oN n e l (l : Int) rfl (hlt.out rfl)
      have iF := hindex gF oF h e1 l (l : Int) rfl (HROW.out rfl)
      subst hAN hAF
      clear hyN hr
      have hcN := Lib.hid hcN
      have hcF := Lib.hid hcF
      have hcH := Lib.hid hcH
      have hcL := Lib.hid hcL
      have CN := Lib.hid cN12
      have CLL := Lib.hid cL12
      have CHH := Lib.hid cH12
      have CF := Lib.hid cF12
      have CG := Lib.hid cG12
      clear cN12 cL12 cH12 cF12 cG12
      have HSA := Lib.hid (rsame_any true _ _ _ _ _ _ _ _ _ _ _ _ true _ _ _ _ _ _ _ _ _ _ _ _ _ (G12.out.2.later (Aft.drew0 w12)) (N12.out.2.later (Aft.drew0 w12)))
      rw [HSM.out] at HSA
      go_wp2_with fail
      refine wp_region_noPanic ?_
      refine wp_region_held_drew (S := Aft w12) (by kernel_rfl) (Aft.drew0 w12) (fun hHeld => ?_)
      refine wpAnyH_take (i := 0) (oi := { dst := some 122, op := Op.fieldAddr 28 (Operand.tmp 6) 1, type := 0, pos := "outright.go:148", after := #[], guard := none }) (v := ?_) rfl (by kernel_rfl) (by kernel_rfl) (by kernel_rfl) (fun _ _ _ h => h) (Or.inl ⟨by rfl, ?_⟩) (by assumption) ?_
      rotate_left
      · intro W hSw
        clear hSw
        go_simp
        try with_reducible rfl
      simp only [Act.put, List.setIfInBounds_toArray, List.set_cons_zero, List.set_cons_succ]
      refine wpAnyH_take (i := 1) (oi := { dst := some 123, op := Op.load 22 (Operand.tmp 122), type := 22, pos := "outright.go:148", after := #[{ on := 0, ground := Ground.data }], guard := none }) (v := ?_) rfl (by kernel_rfl) (by kernel_rfl) (by kernel_rfl) (fun _ _ _ h => h) (Or.inl ⟨by rfl, ?_⟩) (by assumption) ?_
      rotate_left
      · intro W hSw
        obtain ⟨k0, k1, k2, k3⟩ := CHH.out.later hSw
        go_simp
        try with_reducible rfl
      simp only [Act.put, List.setIfInBounds_toArray, List.set_cons_zero, List.set_cons_succ]
      refine wpAnyH_take (i := 2) (oi := { dst := some 124, op := Op.indexAddr 22 (Operand.tmp 123) (Operand.const (Value.int IntKind.i64 0)), type := 0, pos := "outright.go:148", after := #[{ on := 1, ground := Ground.data }], guard := none }) (v := ?_) rfl (by kernel_rfl) (by kernel_rfl) (by kernel_rfl) (fun _ _ _ h => h) (Or.inl ⟨by rfl, ?_⟩) (by assumption) ?_
      rotate_left
      · intro W hSw
        clear hSw
        go_simp
        try with_reducible rfl
      simp only [Act.put, List.setIfInBounds_toArray, List.set_cons_zero, List.set_cons_succ]
      refine wpAnyH_take (i := 3) (oi := { dst := some 125, op := Op.load 9 (Operand.tmp 124), type := 9, pos := "outright.go:148", after := #[{ on := 2, ground := Ground.data }], guard := none }) (v := ?_) rfl (by kernel_rfl) (by kernel_rfl) (by kernel_rfl) (fun _ _ _ h => h) (Or.inl ⟨by rfl, ?_⟩) (by assumption) ?_
      rotate_left
      · intro W hSw
        have kc := cell_later hcH.out hSw
        go_simp
        try with_reducible rfl
      simp only [Act.put, List.setIfInBounds_toArray, List.set_cons_zero, List.set_cons_succ]
      refine wpAnyH_take (i := 4) (oi := { dst := some 126, op := Op.move (Operand.tmp 7), type := 9, pos := "outright.go:148", after := #[], guard := none }) (v := ?_) rfl (by kernel_rfl) (by kernel_rfl) (by kernel_rfl) (fun _ _ _ h => h) (Or.inl ⟨by rfl, ?_⟩) (by assumption) ?_
      rotate_left
      · intro W hSw
        clear hSw
        go_simp
        try with_reducible rfl
      simp only [Act.put, List.setIfInBounds_toArray, List.set_cons_zero, List.set_cons_succ]
      refine wpAnyH_take (i := 5) (oi := { dst := some 127, op := Op.binOp BinOp.eql 9 (Operand.tmp 125) (Operand.tmp 126) 9, type := 4, pos := "outright.go:148", after := #[{ on := 3, ground := Ground.data }, { on := 4, ground := Ground.data }], guard := none }) (v := ?_) rfl (by kernel_rfl) (by kernel_rfl) (by kernel_rfl) (fun _ _ _ h => h) (Or.inl ⟨by rfl, ?_⟩) (by assumption) ?_
      rotate_left
      · intro W hSw
        clear hSw
        go_simp
        try with_reducible rfl
      simp only [Act.put, List.setIfInBounds_toArray, List.set_cons_zero, List.set_cons_succ]
      refine wpAnyH_take (i := 6) (oi := { dst := some 128, op := Op.move (Operand.tmp 127), type := 4, pos := "outright.go:148", after := #[{ on := 5, ground := Ground.data }], guard := none }) (v := ?_) rfl (by kernel_rfl) (by kernel_rfl) (by kernel_rfl) (fun _ _ _ h => h) (Or.inl ⟨by rfl, ?_⟩) (by assumption) ?_
      rotate_left
      · intro W hSw
        clear hSw
        go_simp
        try with_reducible rfl
      simp only [Act.put, List.setIfInBounds_toArray, List.set_cons_zero, List.set_cons_succ]
      refine wpAnyH_take (i := 7) (oi := { dst := some 129, op := Op.fieldAddr 28 (Operand.tmp 5) 1, type := 0, pos := "outright.go:148", after := #[{ on := 6, ground := Ground.guard }], guard := some (6, true) }) (v := ?_) rfl (by kernel_rfl) (by kernel_rfl) (by kernel_rfl) (fun _ _ _ h => h) (Or.inl ⟨by rfl, ?_⟩) (by assumption) ?_
      rotate_left
      · intro W hSw
        clear hSw
        go_simp
        try with_reducible rfl
      simp only [Act.put, List.setIfInBounds_toArray, List.set_cons_zero, List.set_cons_succ]
      refine wpAnyH_take (i := 8) (oi := { dst := some 130, op := Op.load 22 (Operand.tmp 129), type := 22, pos := "outright.go:148", after := #[{ on := 7, ground := Ground.data }, { on := 6, ground := Ground.guard }], guard := some (6, true) }) (v := ?_) rfl (by kernel_rfl) (by kernel_rfl) (by kernel_rfl) (fun _ _ _ h => h) (Or.inl ⟨by rfl, ?_⟩) (by assumption) ?_
      rotate_left
      · intro W hSw
        obtain ⟨k0, k1, k2, k3⟩ := CLL.out.later hSw
        go_simp
        try with_reducible rfl
      simp only [Act.put, List.setIfInBounds_toArray, List.set_cons_zero, List.set_cons_succ]
      refine wpAnyH_take (i := 9) (oi := { dst := some 131, op := Op.fieldAddr 28 (Operand.tmp 5) 1, type := 0, pos := "outright.go:148", after := #[{ on := 6, ground := Ground.guard }], guard := some (6, true) }) (v := ?_) rfl (by kernel_rfl) (by kernel_rfl) (by kernel_rfl) (fun _ _ _ h => h) (Or.inl ⟨by rfl, ?_⟩) (by assumption) ?_
      rotate_left
      · intro W hSw
        clear hSw
        go_simp
        try with_reducible rfl
      simp only [Act.put, List.setIfInBounds_toArray, List.set_cons_zero, List.set_cons_succ]
      refine wpAnyH_take (i := 10) (oi := { dst := some 132, op := Op.load 22 (Operand.tmp 131), type := 22, pos := "outright.go:148", after := #[{ on := 9, ground := Ground.data }, { on := 6, ground := Ground.guard }], guard := some (6, true) }) (v := ?_) rfl (by kernel_rfl) (by kernel_rfl) (by kernel_rfl) (fun _ _ _ h => h) (Or.inl ⟨by rfl, ?_⟩) (by assumption) ?_
      rotate_left
      · intro W hSw
        obtain ⟨k0, k1, k2, k3⟩ := CLL.out.later hSw
        go_simp
        try with_reducible rfl
      simp only [Act.put, List.setIfInBounds_toArray, List.set_cons_zero, List.set_cons_succ]
      refine wpAnyH_take (i := 11) (oi := { dst := some 133, op := Op.call { callee := Callee.builtin Builtin.len, args := #[Operand.tmp 132], argTypes := #[22] }, type := 3, pos := "outright.go:148", after := #[{ on := 10, ground := Ground.data }, { on := 6, ground := Ground.guard }], guard := some (6, true) }) (v := ?_) rfl (by kernel_rfl) (by kernel_rfl) (by kernel_rfl) (fun _ _ _ h => h) (Or.inl ⟨by rfl, ?_⟩) (by assumption) ?_
      rotate_left
      · intro W hSw
        clear hSw
        go_simp
        try with_reducible rfl
      simp only [Act.put, List.setIfInBounds_toArray, List.set_cons_zero, List.set_cons_succ]
      refine wpAnyH_take (i := 12) (oi := { dst := some 134, op := Op.binOp BinOp.sub 3 (Operand.tmp 133) (Operand.const (Value.int IntKind.i64 1)) 3, type := 3, pos := "outright.go:148", after := #[{ on := 11, ground := Ground.data }, { on := 6, ground := Ground.guard }], guard := some (6, true) }) (v := ?_) rfl (by kernel_rfl) (by kernel_rfl) (by kernel_rfl) (fun _ _ _ h => h) (Or.inl ⟨by rfl, ?_⟩) (by assumption) ?_
      rotate_left
      · intro W hSw
        clear hSw
        go_simp
        try with_reducible rfl
      simp only [Act.put, List.setIfInBounds_toArray, List.set_cons_zero, List.set_cons_succ]
      refine wpAnyH_take (i := 13) (oi := { dst := some 135, op := Op.indexAddr 22 (Operand.tmp 130) (Operand.tmp 134), type := 0, pos := "outright.go:148", after := #[{ on := 8, ground := Ground.data }, { on := 12, ground := Ground.data }, { on := 6, ground := Ground.guard }], guard := some (6, true) }) (v := ?_) rfl (by kernel_rfl) (by kernel_rfl) (by kernel_rfl) (fun _ _ _ h => h) (Or.inl ⟨by rfl, ?_⟩) (by assumption) ?_
      rotate_left
      · intro W hSw
        clear hSw
        go_simp
        try with_reducible rfl
      simp only [Act.put, List.setIfInBounds_toArray, List.set_cons_zero, List.set_cons_succ]
      refine wpAnyH_take (i := 14) (oi := { dst := some 136, op := Op.load 9 (Operand.tmp 135), type := 9, pos := "outright.go:148", after := #[{ on := 13, ground := Ground.data }, { on := 6, ground := Ground.guard }], guard := some (6, true) }) (v := ?_) rfl (by kernel_rfl) (by kernel_rfl) (by kernel_rfl) (fun _ _ _ h => h) (Or.inl ⟨by rfl, ?_⟩) (by assumption) ?_
      rotate_left
      · intro W hSw
        have kc := cell_later hcL.out hSw
        go_simp
        try with_reducible rfl
      simp only [Act.put, List.setIfInBounds_toArray, List.set_cons_zero, List.set_cons_succ]
      refine wpAnyH_take (i := 15) (oi := { dst := some 137, op := Op.move (Operand.tmp 7), type := 9, pos := "outright.go:148", after := #[{ on := 6, ground := Ground.guard }], guard := some (6, true) }) (v := ?_) rfl (by kernel_rfl) (by kernel_rfl) (by kernel_rfl) (fun _ _ _ h => h) (Or.inl ⟨by rfl, ?_⟩) (by assumption) ?_
      rotate_left
      · intro W hSw
        clear hSw
        go_simp
        try with_reducible rfl
      simp only [Act.put, List.setIfInBounds_toArray, List.set_cons_zero, List.set_cons_succ]
      refine wpAnyH_take (i := 16) (oi := { dst := some 138, op := Op.binOp BinOp.lss 9 (Operand.tmp 136) (Operand.tmp 137) 9, type := 4, pos := "outright.go:148", after := #[{ on := 14, ground := Ground.data }, { on := 15, ground := Ground.data }, { on := 6, ground := Ground.guard }], guard := some (6, true) }) (v := ?_) rfl (by kernel_rfl) (by kernel_rfl) (by kernel_rfl) (fun _ _ _ h => h) (Or.inl ⟨by rfl, ?_⟩) (by assumption) ?_
      rotate_left
      · intro W hSw
        clear hSw
        go_simp
        try with_reducible rfl
      simp only [Act.put, List.setIfInBounds_toArray, List.set_cons_zero, List.set_cons_succ]
      refine wpAnyH_take (i := 17) (oi := { dst := some 139, op := Op.pick (Operand.tmp 128) (Operand.tmp 138) (Operand.const (Value.bool false)), type := 4, pos := "outright.go:148", after := #[{ on := 6, ground := Ground.data }, { on := 16, ground := Ground.data }], guard := none }) (v := ?_) rfl (by kernel_rfl) (by kernel_rfl) (by kernel_rfl) (fun _ _ _ h => h) (Or.inl ⟨by rfl, ?_⟩) (by assumption) ?_
      rotate_left
      · intro W hSw
        clear hSw
        go_simp
        try with_reducible rfl
      simp only [Act.put, List.setIfInBounds_toArray, List.set_cons_zero, List.set_cons_succ]
      refine wpAnyH_take (i := 18) (oi := { dst := some 140, op := Op.move (Operand.tmp 139), type := 4, pos := "outright.go:148", after := #[{ on := 17, ground := Ground.data }, { on := 6, ground := Ground.chain }], guard := none }) (v := ?_) rfl (by kernel_rfl) (by kernel_rfl) (by kernel_rfl) (fun _ _ _ h => h) (Or.inl ⟨by rfl, ?_⟩) (by assumption) ?_
      rotate_left
      · intro W hSw
        clear hSw
        go_simp
        try with_reducible rfl
      simp only [Act.put, List.setIfInBounds_toArray, List.set_cons_zero, List.set_cons_succ]
      refine wpAnyH_take (i := 19) (oi := { dst := some 141, op := Op.load 28 (Operand.tmp 10), type := 28, pos := "outright.go:148", after := #[{ on := 18, ground := Ground.guard }], guard := some (18, true) }) (v := ?_) rfl (by kernel_rfl) (by kernel_rfl) (by kernel_rfl) (fun _ _ _ h => h) (Or.inl ⟨by rfl, ?_⟩) (by assumption) ?_
      rotate_left
      · intro W hSw
        obtain ⟨k0, k1, k2, k3⟩ := CG.out.later hSw
        go_simp
        try with_reducible rfl
      simp only [Act.put, List.setIfInBounds_toArray, List.set_cons_zero, List.set_cons_succ]
      refine wpAnyH_take (i := 20) (oi := { dst := some 142, op := Op.load 28 (Operand.tmp 2), type := 28, pos := "outright.go:148", after := #[{ on := 18, ground := Ground.guard }], guard := some (18, true) }) (v := ?_) rfl (by kernel_rfl) (by kernel_rfl) (by kernel_rfl) (fun _ _ _ h => h) (Or.inl ⟨by rfl, ?_⟩) (by assumption) ?_
      rotate_left
      · intro W hSw
        obtain ⟨k0, k1, k2, k3⟩ := CN.out.later hSw
        go_simp
        try with_reducible rfl
      simp only [Act.put, List.setIfInBounds_toArray, List.set_cons_zero, List.set_cons_succ]
      refine wpAnyH_ready (rs := [21]) (by kernel_rfl) (by simp) (AllReadyH.cons (o := { dst := some 143, op := Op.call { callee := Callee.value (Operand.func 28), args := #[Operand.tmp 141, Operand.tmp 142], argTypes := #[47, 47] }, type := 4, pos := "outright.go:148", after := #[{ on := 19, ground := Ground.data }, { on := 20, ground := Ground.data }, { on := 18, ground := Ground.chain }, { on := 18, ground := Ground.guard }], guard := some (18, true) }) rfl (fun K hK => ?_) AllReadyH.nil)
      refine step_callw (by rfl) 28 #[.agg #[.bool true, .slice AA n cA, .slice none 0 0, .slice CC n cC], .agg #[.bool true, .slice A n c, .slice B 0 d, .slice (some ⟨gN, oN, none⟩) n e]] (by go_simp) ?_
      refine (HSA.out).mono ?_
      rintro x W' ⟨rfl, hb⟩
      refine ⟨_, rfl, hK.out _ _ (Aft.below (Aft.drew0 _) hb) (fun hHeld2 => ?_)⟩
      have HBE := Lib.hid hHeld2
      clear hK K hHeld hb HSA
      simp only [Act.put, List.setIfInBounds_toArray, List.set_cons_zero, List.set_cons_succ]
      refine wpAnyH_take (i := 22) (oi := { dst := some 144, op := Op.pick (Operand.tmp 140) (Operand.tmp 143) (Operand.const (Value.bool false)), type := 4, pos := "outright.go:148", after := #[{ on := 18, ground := Ground.data }, { on := 21, ground := Ground.data }], guard := none }) (v := ?_) rfl (by kernel_rfl) (by kernel_rfl) (by kernel_rfl) (fun _ _ _ h => h) (Or.inl ⟨by rfl, ?_⟩) (by assumption) ?_
      rotate_left
      · intro W hSw
        clear hSw
        go_simp
        try with_reducible rfl
      simp only [Act.put, List.setIfInBounds_toArray, List.set_cons_zero, List.set_cons_succ]
      refine wpAnyH_take (i := 23) (oi := { dst := some 145, op := Op.move (Operand.tmp 144), type := 4, pos := "outright.go:148", after := #[{ on := 22, ground := Ground.data }, { on := 21, ground := Ground.chain }], guard := none }) (v := ?_) rfl (by kernel_rfl) (by kernel_rfl) (by kernel_rfl) (fun _ _ _ h => h) (Or.inl ⟨by rfl, ?_⟩) (by assumption) ?_
      rotate_left
      · intro W hSw
        clear hSw
        go_simp
        try with_reducible rfl
      simp only [Act.put, List.setIfInBounds_toArray, List.set_cons_zero, List.set_cons_succ]
      refine wpAnyH_take (i := 24) (oi := { dst := some 146, op := Op.move (Operand.tmp 14), type := 4, pos := "outright.go:148", after := #[{ on := 23, ground := Ground.guard }], guard := some (23, true) }) (v := ?_) rfl (by kernel_rfl) (by kernel_rfl) (by kernel_rfl) (fun _ _ _ h => h) (Or.inl ⟨by rfl, ?_⟩) (by assumption) ?_
      rotate_left
      · intro W hSw
        clear hSw
        go_simp
        try with_reducible rfl
      simp only [Act.put, List.setIfInBounds_toArray, List.set_cons_zero, List.set_cons_succ]
      refine wpAnyH_take (i := 25) (oi := { dst := some 147, op := Op.move (Operand.tmp 12), type := 4, pos := "outright.go:148", after := #[{ on := 23, ground := Ground.guard }], guard := some (23, true) }) (v := ?_) rfl (by kernel_rfl) (by kernel_rfl) (by kernel_rfl) (fun _ _ _ h => h) (Or.inl ⟨by rfl, ?_⟩) (by assumption) ?_
      rotate_left
      · intro W hSw
        clear hSw
        go_simp
        try with_reducible rfl
      simp only [Act.put, List.setIfInBounds_toArray, List.set_cons_zero, List.set_cons_succ]
      refine wpAnyH_take (i := 26) (oi := { dst := some 148, op := Op.binOp BinOp.eql 4 (Operand.tmp 146) (Operand.tmp 147) 4, type := 4, pos := "outright.go:148", after := #[{ on := 24, ground := Ground.data }, { on := 25, ground := Ground.data }, { on := 23, ground := Ground.guard }], guard := some (23, true) }) (v := ?_) rfl (by kernel_rfl) (by kernel_rfl) (by kernel_rfl) (fun _ _ _ h => h) (Or.inl ⟨by rfl, ?_⟩) (by assumption) ?_
      rotate_left
      · intro W hSw
        clear hSw
        go_simp
        try with_reducible rfl
      simp only [Act.put, List.setIfInBounds_toArray, List.set_cons_zero, List.set_cons_succ]
      refine wpAnyH_take (i := 27) (oi := { dst := some 149, op := Op.pick (Operand.tmp 145) (Operand.tmp 148) (Operand.const (Value.bool false)), type := 4, pos := "outright.go:148", after := #[{ on := 23, ground := Ground.data }, { on := 26, ground := Ground.data }], guard := none }) (v := ?_) rfl (by kernel_rfl) (by kernel_rfl) (by kernel_rfl) (fun _ _ _ h => h) (Or.inl ⟨by rfl, ?_⟩) (by assumption) ?_
      rotate_left
      · intro W hSw
        clear hSw
        go_simp
        try with_reducible rfl
      simp only [Act.put, List.setIfInBounds_toArray, List.set_cons_zero, List.set_cons_succ]
      refine wpAnyH_take (i := 28) (oi := { dst := some 150, op := Op.move (Operand.tmp 149), type := 4, pos := "outright.go:148", after := #[{ on := 27, ground := Ground.data }, { on := 23, ground := Ground.chain }], guard := none }) (v := ?_) rfl (by kernel_rfl) (by kernel_rfl) (by kernel_rfl) (fun _ _ _ h => h) (Or.inl ⟨by rfl, ?_⟩) (by assumption) ?_
      rotate_left
      · intro W hSw
        clear hSw
        go_simp
        try with_reducible rfl
      simp only [Act.put, List.setIfInBounds_toArray, List.set_cons_zero, List.set_cons_succ]
      refine wpAnyH_take (i := 29) (oi := { dst := some 151, op := Op.move (Operand.tmp 14), type := 4, pos := "outright.go:148", after := #[{ on := 28, ground := Ground.guard }], guard := some (28, true) }) (v := ?_) rfl (by kernel_rfl) (by kernel_rfl) (by kernel_rfl) (fun _ _ _ h => h) (Or.inl ⟨by rfl, ?_⟩) (by assumption) ?_
      rotate_left
      · intro W hSw
        clear hSw
        go_simp
        try with_reducible rfl
      simp only [Act.put, List.setIfInBounds_toArray, List.set_cons_zero, List.set_cons_succ]
      refine wpAnyH_take (i := 30) (oi := { dst := some 152, op := Op.unOp UnOp.not 4 (Operand.tmp 151), type := 4, pos := "outright.go:148", after := #[{ on := 29, ground := Ground.data }, { on := 28, ground := Ground.guard }], guard := some (28, true) }) (v := ?_) rfl (by kernel_rfl) (by kernel_rfl) (by kernel_rfl) (fun _ _ _ h => h) (Or.inl ⟨by rfl, ?_⟩) (by assumption) ?_
      rotate_left
      · intro W hSw
        clear hSw
        go_simp
        try with_reducible rfl
      simp only [Act.put, List.setIfInBounds_toArray, List.set_cons_zero, List.set_cons_succ]
      refine wpAnyH_take (i := 31) (oi := { dst := some 153, op := Op.move (Operand.tmp 152), type := 4, pos := "outright.go:148", after := #[{ on := 30, ground := Ground.data }, { on := 28, ground := Ground.chain }, { on := 28, ground := Ground.guard }], guard := some (28, true) }) (v := ?_) rfl (by kernel_rfl) (by kernel_rfl) (by kernel_rfl) (fun _ _ _ h => h) (Or.inl ⟨by rfl, ?_⟩) (by assumption) ?_
      rotate_left
      · intro W hSw
        clear hSw
        go_simp
        try with_reducible rfl
      simp only [Act.put, List.setIfInBounds_toArray, List.set_cons_zero, List.set_cons_succ]
      refine wpAnyH_take (i := 32) (oi := { dst := some 154, op := Op.fieldAddr 28 (Operand.tmp 9) 3, type := 0, pos := "outright.go:148", after := #[{ on := 31, ground := Ground.guard }], guard := some (31, false) }) (v := ?_) rfl (by kernel_rfl) (by kernel_rfl) (by kernel_rfl) (fun _ _ _ h => h) (Or.inl ⟨by rfl, ?_⟩) (by assumption) ?_
      rotate_left
      · intro W hSw
        clear hSw
        go_simp
        try with_reducible rfl
      simp only [Act.put, List.setIfInBounds_toArray, List.set_cons_zero, List.set_cons_succ]
      refine wpAnyH_take (i := 33) (oi := { dst := some 155, op := Op.load 25 (Operand.tmp 154), type := 25, pos := "outright.go:148", after := #[{ on := 32, ground := Ground.data }, { on := 31, ground := Ground.guard }], guard := some (31, false) }) (v := ?_) rfl (by kernel_rfl) (by kernel_rfl) (by kernel_rfl) (fun _ _ _ h => h) (Or.inl ⟨by rfl, ?_⟩) (by assumption) ?_
      rotate_left
      · intro W hSw
        obtain ⟨k0, k1, k2, k3⟩ := CF.out.later hSw
        go_simp
        try with_reducible rfl
      simp only [Act.put, List.setIfInBounds_toArray, List.set_cons_zero, List.set_cons_succ]
      refine wpAnyH_take (i := 34) (oi := { dst := some 156, op := Op.move (Operand.tmp 13), type := 3, pos := "outright.go:148", after := #[{ on := 31, ground := Ground.guard }], guard := some (31, false) }) (v := ?_) rfl (by kernel_rfl) (by kernel_rfl) (by kernel_rfl) (fun _ _ _ h => h) (Or.inl ⟨by rfl, ?_⟩) (by assumption) ?_
      rotate_left
      · intro W hSw
        clear hSw
        go_simp
        try with_reducible rfl
      simp only [Act.put, List.setIfInBounds_toArray, List.set_cons_zero, List.set_cons_succ]
      refine wpAnyH_take (i := 35) (oi := { dst := some 157, op := Op.indexAddr 25 (Operand.tmp 155) (Operand.tmp 156), type := 0, pos := "outright.go:148", after := #[{ on := 33, ground := Ground.data }, { on := 34, ground := Ground.data }, { on := 31, ground := Ground.guard }], guard := some (31, false) }) (v := ?_) rfl (by kernel_rfl) (by kernel_rfl) (by kernel_rfl) (fun _ _ _ h => h) (Or.inl ⟨by rfl, ?_⟩) (by assumption) ?_
      rotate_left
      · intro W hSw
        clear hSw
        go_simp
        try with_reducible rfl
      simp only [Act.put, List.setIfInBounds_toArray, List.set_cons_zero, List.set_cons_succ]
      refine wpAnyH_take (i := 36) (oi := { dst := some 158, op := Op.load 24 (Operand.tmp 157), type := 24, pos := "outright.go:148", after := #[{ on := 35, ground := Ground.data }, { on := 31, ground := Ground.guard }], guard := some (31, false) }) (v := ?_) rfl (by kernel_rfl) (by kernel_rfl) (by kernel_rfl) (fun _ _ _ h => h) (Or.inl ⟨by rfl, ?_⟩) (by assumption) ?_
      rotate_left
      · intro W hSw
        have kc := cell_later hcF.out hSw
        go_simp
        try with_reducible rfl
      simp only [Act.put, List.setIfInBounds_toArray, List.set_cons_zero, List.set_cons_succ]
      refine wpAnyH_take (i := 37) (oi := { dst := some 159, op := Op.fieldAddr 28 (Operand.tmp 2) 3, type := 0, pos := "outright.go:148", after := #[{ on := 31, ground := Ground.guard }], guard := some (31, false) }) (v := ?_) rfl (by kernel_rfl) (by kernel_rfl) (by kernel_rfl) (fun _ _ _ h => h) (Or.inl ⟨by rfl, ?_⟩) (by assumption) ?_
      rotate_left
      · intro W hSw
        clear hSw
        go_simp
        try with_reducible rfl
      simp only [Act.put, List.setIfInBounds_toArray, List.set_cons_zero, List.set_cons_succ]
      refine wpAnyH_take (i := 38) (oi := { dst := some 160, op := Op.load 25 (Operand.tmp 159), type := 25, pos := "outright.go:148", after := #[{ on := 37, ground := Ground.data }, { on := 31, ground := Ground.guard }], guard := some (31, false) }) (v := ?_) rfl (by kernel_rfl) (by kernel_rfl) (by kernel_rfl) (fun _ _ _ h => h) (Or.inl ⟨by rfl, ?_⟩) (by assumption) ?_
      rotate_left
      · intro W hSw
        obtain ⟨k0, k1, k2, k3⟩ := CN.out.later hSw
        go_simp
        try with_reducible rfl
      simp only [Act.put, List.setIfInBounds_toArray, List.set_cons_zero, List.set_cons_succ]
      refine wpAnyH_take (i := 39) (oi := { dst := some 161, op := Op.move (Operand.tmp 11), type := 3, pos := "outright.go:148", after := #[{ on := 31, ground := Ground.guard }], guard := some (31, false) }) (v := ?_) rfl (by kernel_rfl) (by kernel_rfl) (by kernel_rfl) (fun _ _ _ h => h) (Or.inl ⟨by rfl, ?_⟩) (by assumption) ?_
      rotate_left
      · intro W hSw
        clear hSw
        go_simp
        try with_reducible rfl
      simp only [Act.put, List.setIfInBounds_toArray, List.set_cons_zero, List.set_cons_succ]
      refine wpAnyH_take (i := 40) (oi := { dst := some 162, op := Op.indexAddr 25 (Operand.tmp 160) (Operand.tmp 161), type := 0, pos := "outright.go:148", after := #[{ on := 38, ground := Ground.data }, { on := 39, ground := Ground.data }, { on := 31, ground := Ground.guard }], guard := some (31, false) }) (v := ?_) rfl (by kernel_rfl) (by kernel_rfl) (by kernel_rfl) (fun _ _ _ h => h) (Or.inl ⟨by rfl, ?_⟩) (by assumption) ?_
      rotate_left
      · intro W hSw
        clear hSw
        go_simp
        try with_reducible rfl
      simp only [Act.put, List.setIfInBounds_toArray, List.set_cons_zero, List.set_cons_succ]
      refine wpAnyH_take (i := 41) (oi := { dst := some 163, op := Op.load 24 (Operand.tmp 162), type := 24, pos := "outright.go:148", after := #[{ on := 40, ground := Ground.data }, { on := 31, ground := Ground.guard }], guard := some (31, false) }) (v := ?_) rfl (by kernel_rfl) (by kernel_rfl) (by kernel_rfl) (fun _ _ _ h => h) (Or.inl ⟨by rfl, ?_⟩) (by assumption) ?_
      rotate_left
      · intro W hSw
        have kc := cell_later hcN.out hSw
        go_simp
        try with_reducible rfl
      simp only [Act.put, List.setIfInBounds_toArray, List.set_cons_zero, List.set_cons_succ]
      refine wpAnyH_take (i := 42) (oi := { dst := some 164, op := Op.binOp BinOp.eql 24 (Operand.tmp 158) (Operand.tmp 163) 24, type := 4, pos := "outright.go:148", after := #[{ on := 36, ground := Ground.data }, { on := 41, ground := Ground.data }, { on := 31, ground := Ground.guard }], guard := some (31, false) }) (v := ?_) rfl (by kernel_rfl) (by kernel_rfl) (by kernel_rfl) (fun _ _ _ h => h) (Or.inl ⟨by rfl, ?_⟩) (by assumption) ?_
      rotate_left
      · intro W hSw
        clear hSw
        go_simp
        try with_reducible rfl
      simp only [Act.put, List.setIfInBounds_toArray, List.set_cons_zero, List.set_cons_succ]
      refine wpAnyH_take (i := 43) (oi := { dst := some 165, op := Op.pick (Operand.tmp 153) (Operand.const (Value.bool true)) (Operand.tmp 164), type := 4, pos := "outright.go:148", after := #[{ on := 31, ground := Ground.data }, { on := 42, ground := Ground.data }, { on := 28, ground := Ground.guard }], guard := some (28, true) }) (v := ?_) rfl (by kernel_rfl) (by kernel_rfl) (by kernel_rfl) (fun _ _ _ h => h) (Or.inl ⟨by rfl, ?_⟩) (by assumption) ?_
      rotate_left
      · intro W hSw
        clear hSw
        go_simp
        try with_reducible rfl
      simp only [Act.put, List.setIfInBounds_toArray, List.set_cons_zero, List.set_cons_succ]
      refine wpAnyH_take (i := 44) (oi := { dst := some 166, op := Op.pick (Operand.tmp 150) (Operand.tmp 165) (Operand.const (Value.bool false)), type := 4, pos := "outright.go:148", after := #[{ on := 28, ground := Ground.data }, { on := 43, ground := Ground.data }], guard := none }) (v := ?_) rfl (by kernel_rfl) (by kernel_rfl) (by kernel_rfl) (fun _ _ _ h => h) (Or.inl ⟨by rfl, ?_⟩) (by assumption) ?_
      rotate_left
      · intro W hSw
        clear hSw
        go_simp
        try with_reducible rfl
      simp only [Act.put, List.setIfInBounds_toArray, List.set_cons_zero, List.set_cons_succ]
      refine wpAnyH_take (i := 45) (oi := { dst := some 167, op := Op.move (Operand.tmp 166), type := 4, pos := "outright.go:148", after := #[{ on := 44, ground := Ground.data }, { on := 31, ground := Ground.chain }], guard := none }) (v := ?_) rfl (by kernel_rfl) (by kernel_rfl) (by kernel_rfl) (fun _ _ _ h => h) (Or.inl ⟨by rfl, ?_⟩) (by assumption) ?_
      rotate_left
      · intro W hSw
        clear hSw
        go_simp
        try with_reducible rfl
      simp only [Act.put, List.setIfInBounds_toArray, List.set_cons_zero, List.set_cons_succ]
      refine wpAnyH_take (i := 46) (oi := { dst := some 168, op := Op.fieldAddr 28 (Operand.tmp 5) 1, type := 0, pos := "outright.go:148", after := #[{ on := 45, ground := Ground.guard }], guard := some (45, true) }) (v := ?_) rfl (by kernel_rfl) (by kernel_rfl) (by kernel_rfl) (fun _ _ _ h => h) (Or.inl ⟨by rfl, ?_⟩) (by assumption) ?_
      rotate_left
      · intro W hSw
        clear hSw
        go_simp
        try with_reducible rfl
      simp only [Act.put, List.setIfInBounds_toArray, List.set_cons_zero, List.set_cons_succ]
      refine wpAnyH_take (i := 47) (oi := { dst := some 169, op := Op.load 22 (Operand.tmp 168), type := 22, pos := "outright.go:148", after := #[{ on := 46, ground := Ground.data }, { on := 45, ground := Ground.guard }], guard := some (45, true) }) (v := ?_) rfl (by kernel_rfl) (by kernel_rfl) (by kernel_rfl) (fun _ _ _ h => h) (Or.inl ⟨by rfl, ?_⟩) (by assumption) ?_
      rotate_left
      · intro W hSw
        obtain ⟨k0, k1, k2, k3⟩ := CLL.out.later hSw
        go_simp
        try with_reducible rfl
      simp only [Act.put, List.setIfInBounds_toArray, List.set_cons_zero, List.set_cons_succ]
      refine wpAnyH_take (i := 48) (oi := { dst := some 170, op := Op.call { callee := Callee.builtin Builtin.len, args := #[Operand.tmp 169], argTypes := #[22] }, type := 3, pos := "outright.go:148", after := #[{ on := 47, ground := Ground.data }, { on := 45, ground := Ground.guard }], guard := some (45, true) }) (v := ?_) rfl (by kernel_rfl) (by kernel_rfl) (by kernel_rfl) (fun _ _ _ h => h) (Or.inl ⟨by rfl, ?_⟩) (by assumption) ?_
      rotate_left
      · intro W hSw
        clear hSw
        go_simp
        try with_reducible rfl
      simp only [Act.put, List.setIfInBounds_toArray, List.set_cons_zero, List.set_cons_succ]
      refine wpAnyH_take (i := 49) (oi := { dst := some 171, op := Op.fieldAddr 28 (Operand.tmp 6) 1, type := 0, pos := "outright.go:148", after := #[{ on := 45, ground := Ground.guard }], guard := some (45, true) }) (v := ?_) rfl (by kernel_rfl) (by kernel_rfl) (by kernel_rfl) (fun _ _ _ h => h) (Or.inl ⟨by rfl, ?_⟩) (by assumption) ?_
      rotate_left
      · intro W hSw
        clear hSw
        go_simp
        try with_reducible rfl
      simp only [Act.put, List.setIfInBounds_toArray, List.set_cons_zero, List.set_cons_succ]
      refine wpAnyH_take (i := 50) (oi := { dst := some 172, op := Op.load 22 (Operand.tmp 171), type := 22, pos := "outright.go:148", after := #[{ on := 49, ground := Ground.data }, { on := 45, ground := Ground.guard }], guard := some (45, true) }) (v := ?_) rfl (by kernel_rfl) (by kernel_rfl) (by kernel_rfl) (fun _ _ _ h => h) (Or.inl ⟨by rfl, ?_⟩) (by assumption) ?_
      rotate_left
      · intro W hSw
        obtain ⟨k0, k1, k2, k3⟩ := CHH.out.later hSw
        go_simp
        try with_reducible rfl
      simp only [Act.put, List.setIfInBounds_toArray, List.set_cons_zero, List.set_cons_succ]
      refine wpAnyH_take (i := 51) (oi := { dst := some 173, op := Op.call { callee := Callee.builtin Builtin.len, args := #[Operand.tmp 172], argTypes := #[22] }, type := 3, pos := "outright.go:148", after := #[{ on := 50, ground := Ground.data }, { on := 45, ground := Ground.guard }], guard := some (45, true) }) (v := ?_) rfl (by kernel_rfl) (by kernel_rfl) (by kernel_rfl) (fun _ _ _ h => h) (Or.inl ⟨by rfl, ?_⟩) (by assumption) ?_
      rotate_left
      · intro W hSw
        clear hSw
        go_simp
        try with_reducible rfl
      simp only [Act.put, List.setIfInBounds_toArray, List.set_cons_zero, List.set_cons_succ]
      refine wpAnyH_take (i := 52) (oi := { dst := some 174, op := Op.binOp BinOp.sub 3 (Operand.tmp 170) (Operand.tmp 173) 3, type := 3, pos := "outright.go:148", after := #[{ on := 48, ground := Ground.data }, { on := 51, ground := Ground.data }, { on := 45, ground := Ground.guard }], guard := some (45, true) }) (v := ?_) rfl (by kernel_rfl) (by kernel_rfl) (by kernel_rfl) (fun _ _ _ h => h) (Or.inl ⟨by rfl, ?_⟩) (by assumption) ?_
      rotate_left
      · intro W hSw
        clear hSw
        go_simp
        try with_reducible rfl
      simp only [Act.put, List.setIfInBounds_toArray, List.set_cons_zero, List.set_cons_succ]
      refine wpAnyH_take (i := 53) (oi := { dst := some 175, op := Op.binOp BinOp.leq 3 (Operand.tmp 174) (Operand.const (Value.int IntKind.i64 1)) 3, type := 4, pos := "outright.go:148", after := #[{ on := 52, ground := Ground.data }, { on := 45, ground := Ground.guard }], guard := some (45, true) }) (v := ?_) rfl (by kernel_rfl) (by kernel_rfl) (by kernel_rfl) (fun _ _ _ h => h) (Or.inl ⟨by rfl, ?_⟩) (by assumption) ?_
      rotate_left
      · intro W hSw
        clear hSw
        go_simp
        try with_reducible rfl
      simp only [Act.put, List.setIfInBounds_toArray, List.set_cons_zero, List.set_cons_succ]
      refine wpAnyH_take (i := 54) (oi := { dst := some 176, op := Op.pick (Operand.tmp 167) (Operand.tmp 175) (Operand.const (Value.bool false)), type := 4, pos := "outright.go:148", after := #[{ on := 45, ground := Ground.data }, { on := 53, ground := Ground.data }], guard := none }) (v := ?_) rfl (by kernel_rfl) (by kernel_rfl) (by kernel_rfl) (fun _ _ _ h => h) (Or.inl ⟨by rfl, ?_⟩) (by assumption) ?_
      rotate_left
      · intro W hSw
        clear hSw
        go_simp
        try with_reducible rfl
      simp only [Act.put, List.setIfInBounds_toArray, List.set_cons_zero, List.set_cons_succ]
      refine wpAnyH_take (i := 55) (oi := { dst := some 177, op := Op.move (Operand.tmp 176), type := 4, pos := "outright.go:148", after := #[{ on := 54, ground := Ground.data }, { on := 45, ground := Ground.chain }], guard := none }) (v := ?_) rfl (by kernel_rfl) (by kernel_rfl) (by kernel_rfl) (fun _ _ _ h => h) (Or.inl ⟨by rfl, ?_⟩) (by assumption) ?_
      rotate_left
      · intro W hSw
        clear hSw
        go_simp
        try with_reducible rfl
      simp only [Act.put, List.setIfInBounds_toArray, List.set_cons_zero, List.set_cons_succ]
      refine wpAnyH_take (i := 56) (oi := { dst := some 178, op := Op.fieldAddr 28 (Operand.tmp 5) 1, type := 0, pos := "outright.go:148", after := #[{ on := 55, ground := Ground.guard }], guard := some (55, true) }) (v := ?_) rfl (by kernel_rfl) (by kernel_rfl) (by kernel_rfl) (fun _ _ _ h => h) (Or.inl ⟨by rfl, ?_⟩) (by assumption) ?_
      rotate_left
      · intro W hSw
        clear hSw
        go_simp
        try with_reducible rfl
      simp only [Act.put, List.setIfInBounds_toArray, List.set_cons_zero, List.set_cons_succ]
      refine wpAnyH_take (i := 57) (oi := { dst := some 179, op := Op.load 22 (Operand.tmp 178), type := 22, pos := "outright.go:148", after := #[{ on := 56, ground := Ground.data }, { on := 55, ground := Ground.guard }], guard := some (55, true) }) (v := ?_) rfl (by kernel_rfl) (by kernel_rfl) (by kernel_rfl) (fun _ _ _ h => h) (Or.inl ⟨by rfl, ?_⟩) (by assumption) ?_
      rotate_left
      · intro W hSw
        obtain ⟨k0, k1, k2, k3⟩ := CLL.out.later hSw
        go_simp
        try with_reducible rfl
      simp only [Act.put, List.setIfInBounds_toArray, List.set_cons_zero, List.set_cons_succ]
      refine wpAnyH_take (i := 58) (oi := { dst := some 180, op := Op.call { callee := Callee.builtin Builtin.len, args := #[Operand.tmp 179], argTypes := #[22] }, type := 3, pos := "outright.go:148", after := #[{ on := 57, ground := Ground.data }, { on := 55, ground := Ground.guard }], guard := some (55, true) }) (v := ?_) rfl (by kernel_rfl) (by kernel_rfl) (by kernel_rfl) (fun _ _ _ h => h) (Or.inl ⟨by rfl, ?_⟩) (by assumption) ?_
      rotate_left
      · intro W hSw
        clear hSw
        go_simp
        try with_reducible rfl
      simp only [Act.put, List.setIfInBounds_toArray, List.set_cons_zero, List.set_cons_succ]
      refine wpAnyH_take (i := 59) (oi := { dst := some 181, op := Op.fieldAddr 28 (Operand.tmp 6) 1, type := 0, pos := "outright.go:148", after := #[{ on := 55, ground := Ground.guard }], guard := some (55, true) }) (v := ?_) rfl (by kernel_rfl) (by kernel_rfl) (by kernel_rfl) (fun _ _ _ h => h) (Or.inl ⟨by rfl, ?_⟩) (by assumption) ?_
      rotate_left
      · intro W hSw
        clear hSw
        go_simp
        try with_reducible rfl
      simp only [Act.put, List.setIfInBounds_toArray, List.set_cons_zero, List.set_cons_succ]
      refine wpAnyH_take (i := 60) (oi := { dst := some 182, op := Op.load 22 (Operand.tmp 181), type := 22, pos := "outright.go:148", after := #[{ on := 59, ground := Ground.data }, { on := 55, ground := Ground.guard }], guard := some (55, true) }) (v := ?_) rfl (by kernel_rfl) (by kernel_rfl) (by kernel_rfl) (fun _ _ _ h => h) (Or.inl ⟨by rfl, ?_⟩) (by assumption) ?_
      rotate_left
      · intro W hSw
        obtain ⟨k0, k1, k2, k3⟩ := CHH.out.later hSw
        go_simp
        try with_reducible rfl
      simp only [Act.put, List.setIfInBounds_toArray, List.set_cons_zero, List.set_cons_succ]
      refine wpAnyH_take (i := 61) (oi := { dst := some 183, op := Op.call { callee := Callee.builtin Builtin.len, args := #[Operand.tmp 182], argTypes := #[22] }, type := 3, pos := "outright.go:148", after := #[{ on := 60, ground := Ground.data }, { on := 55, ground := Ground.guard }], guard := some (55, true) }) (v := ?_) rfl (by kernel_rfl) (by kernel_rfl) (by kernel_rfl) (fun _ _ _ h => h) (Or.inl ⟨by rfl, ?_⟩) (by assumption) ?_
      rotate_left
      · intro W hSw
        clear hSw
        go_simp
        try with_reducible rfl
      simp only [Act.put, List.setIfInBounds_toArray, List.set_cons_zero, List.set_cons_succ]
      refine wpAnyH_take (i := 62) (oi := { dst := some 184, op := Op.binOp BinOp.geq 3 (Operand.tmp 180) (Operand.tmp 183) 3, type := 4, pos := "outright.go:148", after := #[{ on := 58, ground := Ground.data }, { on := 61, ground := Ground.data }, { on := 55, ground := Ground.guard }], guard := some (55, true) }) (v := ?_) rfl (by kernel_rfl) (by kernel_rfl) (by kernel_rfl) (fun _ _ _ h => h) (Or.inl ⟨by rfl, ?_⟩) (by assumption) ?_
      rotate_left
      · intro W hSw
        clear hSw
        go_simp
        try with_reducible rfl
      simp only [Act.put, List.setIfInBounds_toArray, List.set_cons_zero, List.set_cons_succ]
      refine wpAnyH_take (i := 63) (oi := { dst := some 185, op := Op.pick (Operand.tmp 177) (Operand.tmp 184) (Operand.const (Value.bool false)), type := 4, pos := "outright.go:148", after := #[{ on := 55, ground := Ground.data }, { on := 62, ground := Ground.data }], guard := none }) (v := ?_) rfl (by kernel_rfl) (by kernel_rfl) (by kernel_rfl) (fun _ _ _ h => h) (Or.inl ⟨by rfl, ?_⟩) (by assumption) ?_
      rotate_left
      · intro W hSw
        clear hSw
        go_simp
        try with_reducible rfl
      simp only [Act.put, List.setIfInBounds_toArray, List.set_cons_zero, List.set_cons_succ]
      refine wpAnyH_take (i := 64) (oi := { dst := some 4, op := Op.assign (Operand.tmp 185), type := 4, pos := "outright.go:148", after := ([{ on := 63, ground := Ground.data }, { on := 55, ground := Ground.chain }, { on := 0, ground := Ground.phase }, { on := 1, ground := Ground.phase }, { on := 2, ground := Ground.phase }, { on := 3, ground := Ground.phase }, { on := 4, ground := Ground.phase }, { on := 5, ground := Ground.phase }, { on := 6, ground := Ground.phase }, { on := 7, ground := Ground.phase }, { on := 8, ground := Ground.phase }, { on := 9, ground := Ground.phase }, { on := 10, ground := Ground.phase }, { on := 11, ground := Ground.phase }, { on := 12, ground := Ground.phase }, { on := 13, ground := Ground.phase }, { on := 14, ground := Ground.phase }, { on := 15, ground := Ground.phase }, { on := 16, ground := Ground.phase }, { on := 17, ground := Ground.phase }, { on := 18, ground := Ground.phase }, { on := 19, ground := Ground.phase }, { on := 20, ground := Ground.phase }, { on := 21, ground := Ground.phase }, { on := 22, ground := Ground.phase }, { on := 23, ground := Ground.phase }, { on := 24, ground := Ground.phase }, { on := 25, ground := Ground.phase }, { on := 26, ground := Ground.phase }, { on := 27, ground := Ground.phase }, { on := 28, ground := Ground.phase }, { on := 29, ground := Ground.phase }, { on := 30, ground := Ground.phase }].append [{ on := 31, ground := Ground.phase }, { on := 32, ground := Ground.phase }, { on := 33, ground := Ground.phase }, { on := 34, ground := Ground.phase }, { on := 35, ground := Ground.phase }, { on := 36, ground := Ground.phase }, { on := 37, ground := Ground.phase }, { on := 38, ground := Ground.phase }, { on := 39, ground := Ground.phase }, { on := 40, ground := Ground.phase }, { on := 41, ground := Ground.phase }, { on := 42, ground := Ground.phase }, { on := 43, ground := Ground.phase }, { on := 44, ground := Ground.phase }, { on := 45, ground := Ground.phase }, { on := 46, ground := Ground.phase }, { on := 47, ground := Ground.phase }, { on := 48, ground := Ground.phase }, { on := 49, ground := Ground.phase }, { on := 50, ground := Ground.phase }, { on := 51, ground := Ground.phase }, { on := 52, ground := Ground.phase }, { on := 53, ground := Ground.phase }, { on := 54, ground := Ground.phase }, { on := 55, ground := Ground.phase }, { on := 56, ground := Ground.phase }, { on := 57, ground := Ground.phase }, { on := 58, ground := Ground.phase }, { on := 59, ground := Ground.phase }, { on := 60, ground := Ground.phase }, { on := 61, ground := Ground.phase }, { on := 62, ground := Ground.phase }, { on := 63, ground := Ground.phase }]).toArray, guard := none }) (v := ?_) rfl (by kernel_rfl) (by kernel_rfl) (by kernel_rfl) (fun _ _ _ h => h) (Or.inl ⟨by rfl, ?_⟩) (by assumption) ?_
      rotate_left
      · intro W hSw
        clear hSw
        go_simp
        try with_reducible rfl
      simp only [Act.put, List.setIfInBounds_toArray, List.set_cons_zero, List.set_cons_succ]
      refine wpAnyH_done (by kernel_rfl) (NoPanic.normal ?_) _
      have HBF := Lib.hid (stepB HB12.out HBE.out)
      go_wp2
      go_ret
      exact ⟨rfl, HBF.out⟩
end Go.Proofs.Ytiojjpmkiljngaa
