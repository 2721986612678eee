/- t -/
import Derived.Test.YtiojjpmkiljngaaHW
import Derived.Test.YtiojjpmkiljngaaL
import Derived.Test.YtiojjpmkiljngaaO
import Derived.Test.YtiojjpmkiljngaaM
namespace Go.Proofs.Ytiojjpmkiljngaa
open Go.ChangeShapes Go.WideShapes Go.ChangeAt Go.RowKit
set_option linter.unusedVariables false
set_option linter.unusedSimpArgs false
def i_lop (i : Nat) : Nat := if i = 0 then 0 else if i = 1 then 3 else if i = 2 then 6 else if i = 3 then 9 else if i = 4 then 13 else if i = 5 then 16 else 17
def i_loq (i : Nat) : Nat := 5
def i_lor (i : Nat) : Nat := 10
def i_lot (i : Nat) : Nat := 18
def i_loO (i j k l : Nat) : Bool := decide (i ≤ 2 ∨ 1 ≤ j) && decide (i ≤ 4 ∨ 1 ≤ k)
def i_loQ : List Nat := [1, 2, 4, 7, 8, 11, 12, 14, 15]
def i_loL (i j k l : Nat) : Array Bool := (Array.range 20).map fun o => i_loQ.contains o || (o == 0 && decide (1 ≤ i)) || (o == 3 && decide (2 ≤ i)) || (o == 6 && decide (3 ≤ i)) || (o == 9 && decide (4 ≤ i)) || (o == 13 && decide (5 ≤ i)) || (o == 16 && decide (6 ≤ i)) || (o == 17 && decide (7 ≤ i)) || (o == 5 && decide (1 ≤ j)) || (o == 10 && decide (1 ≤ k)) || (o == 18 && decide (1 ≤ l))
set_option maxRecDepth 100000 in
set_option maxHeartbeats 4000000 in
theorem i_lo (A B C : Option Addr) (n c d e : Nat) (xs : List ByteArray) (ks : List Int) (key up : ByteArray) (w : World) (hI : NdIn w A B C n c (n + 1) d 0 e xs ks []) (hL : largeB xs (n + 1) 0 = false) (hk : ¬ 3000 < key.size) (hM : mayB false xs (n + 1) 0 = true) (h3 : 3 ≤ n) (hup : xs[(n + 1) / 2]? = some up) (hc : co key up < 0) : Calls Try.prog 7 #[.agg #[.bool false, .slice A n c, .slice B (n + 1) d, .slice C 0 e], .string key] w (fun x w' => x = .returned (.bool true) ∧ Below w.heap.size w w') := by
  have hN : Nd w A B C n c (n + 1) d 0 e xs ks [] := ⟨hI.K, hI.D, hI.R, by have h1 := large_no hL; have h2 := wide_len xs; have h3 := hI.K.len; omega⟩
  have hz : n < 3000 := by have h1 := large_no hL; have h2 := wide_len xs; have h3 := hI.K.len; omega
  have hxl := hN.K.len
  have hrl := hN.D.len
  have hb0 : Below w.heap.size w (w.alloc (.cells #[.bool false, .slice A n c, .slice B (n + 1) d, .slice C 0 e] 28)) := (Below.refl _ _).alloc (Nat.le_refl _) _
  have HB0 := Lib.hid hb0
  have N0 := Lib.hid (VarAt.new (lf := false) hN)
  have HI := Lib.hid hI
  have HL := Lib.hid hL
  have HM := Lib.hid hM
  have hu := may_up hM
  have HU := Lib.hid hu
  obtain ⟨h, hh⟩ : ∃ h, (n + 1) / 2 = h := ⟨_, rfl⟩
  rw [hh] at hup
  obtain ⟨t, ht⟩ : ∃ t, n = h + 1 + t := ⟨n - (h + 1), by omega⟩
  obtain ⟨h1, hh1⟩ : ∃ h1, h = h1 + 1 := ⟨h - 1, by omega⟩
  obtain ⟨X1, g1⟩ : ∃ X1, xs.take h = X1 := ⟨_, rfl⟩
  obtain ⟨X2, g3⟩ : ∃ X2, xs.drop (h + 1) = X2 := ⟨_, rfl⟩
  obtain ⟨R1, g2⟩ : ∃ R1, ks.take (h + 1) = R1 := ⟨_, rfl⟩
  obtain ⟨R2, g4⟩ : ∃ R2, ks.drop (h + 1) = R2 := ⟨_, rfl⟩
  have e1 : X1.length = h := by rw [← g1, List.length_take]; omega
  have e3 : X2.length = t := by rw [← g3, List.length_drop]; omega
  have e2 : R1.length = h + 1 := by rw [← g2, List.length_take]; omega
  have e4 : R2.length = t + 1 := by rw [← g4, List.length_drop]; omega
  have M1 : Hid (mayB false X1 (h + 1) 0 = true) := may_inner (g1 ▸ up_take hu h) e1
  have M2 : Hid (mayB false X2 (t + 1) 0 = true) := may_inner (g3 ▸ up_drop hu _) e3
  have dl : decide ((3000 : Int) < (key.size : Int)) = false := decide_eq_false (by omega)
  have d3 : decide ((n : Int) < 3) = false := decide_eq_false (by omega)
  have dh0 : ((h : Int) == 0) = false := by rw [beq_eq_false_iff_ne]; omega
  have HA1 : X1 ++ [up] ++ X2 = xs := by rw [← g1, ← g3, List.append_assoc]; exact halves_up hup
  have HA2 : R1 ++ R2 = ks := by rw [← g2, ← g4]; exact List.take_append_drop _ _
  have HX := Lib.hid HA1
  have HRR := Lib.hid HA2
  have hll := kid_le_h hup hc
  have HLF : kidN X1 key = kidN xs key := g1 ▸ kid_take hup hc
  have HR : Hid (∀ l, kidN xs key = l → R1[l]? = ks[l]?) := fun l hl => by rw [← g2, List.getElem?_take_of_lt (by omega)]
  have hln := kid_le xs key
  obtain ⟨l, hl⟩ : ∃ l, kidN xs key = l := ⟨_, rfl⟩
  rw [hl] at hll hln HLF
  have HLO := Lib.hid hl
  have HLF := Lib.hid HLF
  rw [hxl] at hln
  have HLN := Lib.hid hln
  have HLL := Lib.hid hll
  have dk : Op.bytesLess key.toList up.toList = true := less_yes hc
  have G1 := Lib.hid g1
  have G2 := Lib.hid g2
  have G3 := Lib.hid g3
  have G4 := Lib.hid g4
  have E1 := Lib.hid e1
  have E2 := Lib.hid e2
  have E3 := Lib.hid e3
  have E4 := Lib.hid e4
  have HUP := Lib.hid hup
  have HH3 := Lib.hid h3
  have HHH := Lib.hid hh
  have HT := Lib.hid ht
  have HH1 := Lib.hid hh1
  have HZ := Lib.hid hz
  clear hb0 hI hL hk hM hN hu g1 g2 g3 g4 e1 e2 e3 e4 hup h3 hh ht hh1 hxl hrl hl hc hln hll HA1 HA2 hz
  go_enter Try.func7, Try.ntmps7
  have cN0 := N0.out.1
  go_wp2_with fail
  refine (large_any false A B C n c (n + 1) d 0 e xs _ N0.out.2.K.rd (by have := HZ.out; omega) (by have := HZ.out; omega) (by have := HZ.out; omega) (fun s hs => by have := HI.out.hs s hs; omega)).mono ?_
  rintro x w1 ⟨rfl, hb⟩
  rw [HL.out]
  have HB1 := Lib.hid (stepB HB0.out hb)
  have N1 := Lib.hid (N0.out.later hb)
  clear hb HB0 N0 cN0
  have cN1 := N1.out.1
  go_wp2_with fail
  refine (awake_any _).mono ?_
  rintro x w2 ⟨rfl, hb⟩
  have HB2 := Lib.hid (stepB HB1.out hb)
  have N2 := Lib.hid (N1.out.later hb)
  clear hb HB1 N1 cN1
  have cN2 := N2.out.1
  go_wp2_with fail
  refine (may_c true N2.out.2 HM.out).mono ?_
  rintro x w3 ⟨rfl, hb⟩
  have HB3 := Lib.hid (stepB HB2.out hb)
  have N3 := Lib.hid (N2.out.later hb)
  clear hb HB2 N2 cN2
  have cN3 := N3.out.1
  clear HI HL
  go_wp2_with fail
  refine (split_inner_c h up (X1 := X1) (X2 := X2) (R1 := R1) (R2 := R2) (n1 := h) (k1 := (h + 1)) (n2 := t) (k2 := (t + 1)) N3.out.2 HM.out HH3.out HHH.out HUP.out G1.out G2.out G3.out G4.out E1.out E2.out E3.out E4.out (by have := HZ.out; have := HT.out; omega) (by have := HZ.out; have := HT.out; omega)).mono ?_
  rintro x w4 ⟨A1, B1, C1, c1, d1, e1, A2, B2, C2, c2, d2, e2, rfl, hl1, hl2, hb⟩
  have HB4 := Lib.hid (stepB HB3.out hb)
  have N4 := Lib.hid (N3.out.later hb)
  clear hb HB3 N3 cN3
  have cN4 := N4.out.1
  go_upto_region 4 with (fail)
  have hbw : Below w4.heap.size w4 ((w4.alloc (.cells #[.bool false, .slice A1 h c1, .slice B1 (h + 1) d1, .slice C1 0 e1] 28)).alloc (.cells #[.bool false, .slice A2 t c2, .slice B2 (t + 1) d2, .slice C2 0 e2] 28)) := ((Below.refl _ _).alloc (Nat.le_refl _) _).alloc (by simp) _
  have L5 := Lib.hid ((VarAt.new (lf := false) hl1).alloc (.cells #[.bool false, .slice A2 t c2, .slice B2 (t + 1) d2, .slice C2 0 e2] 28))
  have H5 := Lib.hid (VarAt.new (lf := false) (hl2.later (W' := w4.alloc (.cells #[.bool false, .slice A1 h c1, .slice B1 (h + 1) d1, .slice C1 0 e1] 28)) ((Below.refl _ _).alloc (Nat.le_refl _) _)))
  have HB5 := Lib.hid (stepB HB4.out hbw)
  have N5 := Lib.hid (N4.out.later hbw)
  clear hbw HB4 N4 cN4
  have cN5 := N5.out.1
  generalize ((w4.alloc (.cells #[.bool false, .slice A1 h c1, .slice B1 (h + 1) d1, .slice C1 0 e1] 28)).alloc (.cells #[.bool false, .slice A2 t c2, .slice B2 (t + 1) d2, .slice C2 0 e2] 28)) = w5 at *
  clear hl1 hl2
  simp only [World.size_alloc] at H5
  generalize w4.heap.size + 1 = bH at H5 ⊢
  generalize w4.heap.size = bL at L5 ⊢
  have cL5 := L5.out.1
  have cH5 := H5.out.1
  go_wp2_with fail
  refine (may_c true L5.out.2 M1.out).mono ?_
  rintro x w6 ⟨rfl, hb⟩
  have HB6 := Lib.hid (stepB HB5.out hb)
  have N6 := Lib.hid (N5.out.later hb)
  have L6 := Lib.hid (L5.out.later hb)
  have H6 := Lib.hid (H5.out.later hb)
  clear hb HB5 N5 L5 H5 cN5 cL5 cH5
  have cN6 := N6.out.1
  have cL6 := L6.out.1
  have cH6 := H6.out.1
  go_wp2_with fail
  refine (may_c true H6.out.2 M2.out).mono ?_
  rintro x w7 ⟨rfl, hb⟩
  have HB7 := Lib.hid (stepB HB6.out hb)
  have N7 := Lib.hid (N6.out.later hb)
  have L7 := Lib.hid (L6.out.later hb)
  have H7 := Lib.hid (H6.out.later hb)
  clear hb HB6 N6 L6 H6 cN6 cL6 cH6
  have cN7 := N7.out.1
  have cL7 := L7.out.1
  have cH7 := H7.out.1
  go_upto_region 7 with (fail)
  have hbw : Below w7.heap.size w7 (w7.alloc (.cells #[.bool false, .slice A2 t c2, .slice B2 (t + 1) d2, .slice C2 0 e2] 28)) := (Below.refl _ _).alloc (Nat.le_refl _) _
  have FB8 := Lib.hid (Blk.new w7 #[.bool false, .slice A2 t c2, .slice B2 (t + 1) d2, .slice C2 0 e2] 28)
  have qN := lt_of_cell N7.out.1.1
  have qL := lt_of_cell L7.out.1.1
  have qH := lt_of_cell H7.out.1.1
  have HB8 := Lib.hid (stepB HB7.out hbw)
  have N8 := Lib.hid (N7.out.later hbw)
  have L8 := Lib.hid (L7.out.later hbw)
  have H8 := Lib.hid (H7.out.later hbw)
  clear hbw HB7 N7 L7 H7 cN7 cL7 cH7
  have cN8 := N8.out.1
  have cL8 := L8.out.1
  have cH8 := H8.out.1
  generalize (w7.alloc (.cells #[.bool false, .slice A2 t c2, .slice B2 (t + 1) d2, .slice C2 0 e2] 28)) = w8 at *
  generalize w7.heap.size = bF at FB8 qN qL qH ⊢
  have cF := FB8.out.c4
  have lF := FB8.out.f4
  go_upto_region 9 with (fail)
  clear cF lF
  have FB9 := Lib.hid (blk_set4 (a := .bool false) (b := .slice A1 h c1) (c := .slice B1 (h + 1) d1) (d := .slice C1 0 e1) FB8.out)
  have N9 := Lib.hid (N8.out.set4 FB8.out rfl rfl rfl rfl (by omega) (.bool false) (.slice A1 h c1) (.slice B1 (h + 1) d1) (.slice C1 0 e1))
  have L9 := Lib.hid (L8.out.set4 FB8.out rfl rfl rfl rfl (by omega) (.bool false) (.slice A1 h c1) (.slice B1 (h + 1) d1) (.slice C1 0 e1))
  have H9 := Lib.hid (H8.out.set4 FB8.out rfl rfl rfl rfl (by omega) (.bool false) (.slice A1 h c1) (.slice B1 (h + 1) d1) (.slice C1 0 e1))
  have HB9 : Hid (Below w.heap.size w ((((w8.setCell ⟨bF, 0, none⟩ (.bool false)).setCell ⟨bF, 1, none⟩ (.slice A1 h c1)).setCell ⟨bF, 2, none⟩ (.slice B1 (h + 1) d1)).setCell ⟨bF, 3, none⟩ (.slice C1 0 e1))) := set4 HB8.out (by omega)
  clear FB8 N8 L8 H8 cN8 cL8 cH8 HB8
  generalize ((((w8.setCell ⟨bF, 0, none⟩ (.bool false)).setCell ⟨bF, 1, none⟩ (.slice A1 h c1)).setCell ⟨bF, 2, none⟩ (.slice B1 (h + 1) d1)).setCell ⟨bF, 3, none⟩ (.slice C1 0 e1)) = w9 at *
  have F9 : Hid (VarAt w9 bF false A1 B1 C1 h c1 (h + 1) d1 0 e1 X1 R1 []) := ⟨FB9.out.c4, L9.out.2⟩
  clear FB9
  have cN9 := N9.out.1
  have cL9 := L9.out.1
  have cH9 := H9.out.1
  have cF9 := F9.out.1
  go_wp2_with fail
  refine wp_region_noPanic ?_
  have CL := Lib.hid cL9
  have CH := Lib.hid cH9
  clear cN9 cL9 cH9 cF9
  refine wp_region_held_drew (S := Aft w9) (by kernel_rfl) (Aft.drew0 w9) (fun hHeld => ?_)
  refine wpAnyH_take (i := 1) (oi := { dst := some 187, op := Op.fieldAddr 28 (Operand.tmp 5) 1, type := 0, pos := "outright.go:150", after := #[], guard := none }) (v := ?_) rfl (by kernel_rfl) (by kernel_rfl) (by kernel_rfl) (fun _ _ _ h => h) (Or.inl ⟨by rfl, ?_⟩) (by assumption) ?_
  rotate_left
  · intro W hSw
    obtain ⟨k0, k1, k2, k3⟩ := CL.out.later hSw
    go_simp
    try with_reducible rfl
  simp only [Act.put, List.setIfInBounds_toArray, List.set_cons_zero, List.set_cons_succ]
  refine wpAnyH_take (i := 2) (oi := { dst := some 188, op := Op.load 22 (Operand.tmp 187), type := 22, pos := "outright.go:150", after := #[{ on := 1, ground := Ground.data }], guard := none }) (v := ?_) rfl (by kernel_rfl) (by kernel_rfl) (by kernel_rfl) (fun _ _ _ h => h) (Or.inl ⟨by rfl, ?_⟩) (by assumption) ?_
  rotate_left
  · intro W hSw
    obtain ⟨k0, k1, k2, k3⟩ := CL.out.later hSw
    go_simp
    try with_reducible rfl
  simp only [Act.put, List.setIfInBounds_toArray, List.set_cons_zero, List.set_cons_succ]
  refine wpAnyH_take (i := 4) (oi := { dst := some 190, op := Op.move (Operand.tmp 7), type := 9, pos := "outright.go:150", after := #[], guard := none }) (v := ?_) rfl (by kernel_rfl) (by kernel_rfl) (by kernel_rfl) (fun _ _ _ h => h) (Or.inl ⟨by rfl, ?_⟩) (by assumption) ?_
  rotate_left
  · intro W hSw
    clear hSw
    go_simp
    try with_reducible rfl
  simp only [Act.put, List.setIfInBounds_toArray, List.set_cons_zero, List.set_cons_succ]
  refine wpAnyH_take (i := 7) (oi := { dst := some 193, op := Op.fieldAddr 28 (Operand.tmp 6) 1, type := 0, pos := "outright.go:150", after := #[], guard := none }) (v := ?_) rfl (by kernel_rfl) (by kernel_rfl) (by kernel_rfl) (fun _ _ _ h => h) (Or.inl ⟨by rfl, ?_⟩) (by assumption) ?_
  rotate_left
  · intro W hSw
    obtain ⟨k0, k1, k2, k3⟩ := CH.out.later hSw
    go_simp
    try with_reducible rfl
  simp only [Act.put, List.setIfInBounds_toArray, List.set_cons_zero, List.set_cons_succ]
  refine wpAnyH_take (i := 8) (oi := { dst := some 194, op := Op.load 22 (Operand.tmp 193), type := 22, pos := "outright.go:150", after := #[{ on := 7, ground := Ground.data }], guard := none }) (v := ?_) rfl (by kernel_rfl) (by kernel_rfl) (by kernel_rfl) (fun _ _ _ h => h) (Or.inl ⟨by rfl, ?_⟩) (by assumption) ?_
  rotate_left
  · intro W hSw
    obtain ⟨k0, k1, k2, k3⟩ := CH.out.later hSw
    go_simp
    try with_reducible rfl
  simp only [Act.put, List.setIfInBounds_toArray, List.set_cons_zero, List.set_cons_succ]
  refine wpAnyH_take (i := 11) (oi := { dst := some 197, op := Op.fieldAddr 28 (Operand.tmp 5) 2, type := 0, pos := "outright.go:150", after := #[], guard := none }) (v := ?_) rfl (by kernel_rfl) (by kernel_rfl) (by kernel_rfl) (fun _ _ _ h => h) (Or.inl ⟨by rfl, ?_⟩) (by assumption) ?_
  rotate_left
  · intro W hSw
    obtain ⟨k0, k1, k2, k3⟩ := CL.out.later hSw
    go_simp
    try with_reducible rfl
  simp only [Act.put, List.setIfInBounds_toArray, List.set_cons_zero, List.set_cons_succ]
  refine wpAnyH_take (i := 12) (oi := { dst := some 198, op := Op.load 26 (Operand.tmp 197), type := 26, pos := "outright.go:150", after := #[{ on := 11, ground := Ground.data }], guard := none }) (v := ?_) rfl (by kernel_rfl) (by kernel_rfl) (by kernel_rfl) (fun _ _ _ h => h) (Or.inl ⟨by rfl, ?_⟩) (by assumption) ?_
  rotate_left
  · intro W hSw
    obtain ⟨k0, k1, k2, k3⟩ := CL.out.later hSw
    go_simp
    try with_reducible rfl
  simp only [Act.put, List.setIfInBounds_toArray, List.set_cons_zero, List.set_cons_succ]
  refine wpAnyH_take (i := 14) (oi := { dst := some 200, op := Op.fieldAddr 28 (Operand.tmp 6) 2, type := 0, pos := "outright.go:150", after := #[], guard := none }) (v := ?_) rfl (by kernel_rfl) (by kernel_rfl) (by kernel_rfl) (fun _ _ _ h => h) (Or.inl ⟨by rfl, ?_⟩) (by assumption) ?_
  rotate_left
  · intro W hSw
    obtain ⟨k0, k1, k2, k3⟩ := CH.out.later hSw
    go_simp
    try with_reducible rfl
  simp only [Act.put, List.setIfInBounds_toArray, List.set_cons_zero, List.set_cons_succ]
  refine wpAnyH_take (i := 15) (oi := { dst := some 201, op := Op.load 26 (Operand.tmp 200), type := 26, pos := "outright.go:150", after := #[{ on := 14, ground := Ground.data }], guard := none }) (v := ?_) rfl (by kernel_rfl) (by kernel_rfl) (by kernel_rfl) (fun _ _ _ h => h) (Or.inl ⟨by rfl, ?_⟩) (by assumption) ?_
  rotate_left
  · intro W hSw
    obtain ⟨k0, k1, k2, k3⟩ := CH.out.later hSw
    go_simp
    try with_reducible rfl
  simp only [Act.put, List.setIfInBounds_toArray, List.set_cons_zero, List.set_cons_succ]
  refine wpAnyH_cast (f := 11) (l := i_loL 0 0 0 0) (by kernel_rfl) (by kernel_rfl) ?_
  have hht : h + t + 2 ≤ 3002 := by have := HZ.out; have := HT.out; omega
  refine chains4 7 1 1 1 1 i_lop i_loq i_lor i_lot i_loO i_loL (fun i j kk l x W => ∃ va vb vm vc vu vp vq vr vy vz : Value, x = ({ tmps := #[Value.agg #[Value.bool false, Value.slice A n c, Value.slice B (n + 1) d, Value.slice C 0 e], Value.string key, Value.pointer (some { block := w.heap.size, off := 0 }), undef, Value.bool false, Value.pointer (some { block := bL, off := 0 }), Value.pointer (some { block := bH, off := 0 }), Value.string up, Value.int IntKind.i64 0, Value.pointer (some { block := bF, off := 0 }), undef, undef, undef, undef, undef, vz, Value.agg #[Value.bool false, Value.slice A n c, Value.slice B (n + 1) d, Value.slice C 0 e], Value.bool false, Value.bool false, Value.string key, Value.int IntKind.i64 ↑key.size, Value.bool false, Value.bool false, Value.bool false, Value.bool true, Value.bool false, Value.bool false, Value.bool false, Value.agg #[Value.bool false, Value.slice A n c, Value.slice B (n + 1) d, Value.slice C 0 e], Value.bool true, Value.bool false, Value.bool false, Value.bool false, Value.pointer (some { block := w.heap.size, off := 1 }), Value.slice A n c, Value.int IntKind.i64 ↑n, Value.bool false, Value.bool false, undef, Value.tuple #[Value.agg #[Value.bool false, Value.slice A1 h c1, Value.slice B1 (h + 1) d1, Value.slice C1 0 e1], Value.agg #[Value.bool false, Value.slice A2 t c2, Value.slice B2 (t + 1) d2, Value.slice C2 0 e2], Value.string up, Value.int IntKind.i64 0], Value.agg #[Value.bool false, Value.slice A n c, Value.slice B (n + 1) d, Value.slice C 0 e], Value.tuple #[Value.agg #[Value.bool false, Value.slice A1 h c1, Value.slice B1 (h + 1) d1, Value.slice C1 0 e1], Value.agg #[Value.bool false, Value.slice A2 t c2, Value.slice B2 (t + 1) d2, Value.slice C2 0 e2], Value.string up, Value.int IntKind.i64 0], Value.agg #[Value.bool false, Value.slice A1 h c1, Value.slice B1 (h + 1) d1, Value.slice C1 0 e1], Value.agg #[Value.bool false, Value.slice A2 t c2, Value.slice B2 (t + 1) d2, Value.slice C2 0 e2], Value.string up, Value.int IntKind.i64 0, Value.int IntKind.i64 0, Value.bool false, Value.bool false, Value.agg #[Value.bool false, Value.slice A1 h c1, Value.slice B1 (h + 1) d1, Value.slice C1 0 e1], Value.bool true, Value.bool false, Value.bool false, Value.bool false, Value.agg #[Value.bool false, Value.slice A2 t c2, Value.slice B2 (t + 1) d2, Value.slice C2 0 e2], Value.bool true, Value.bool false, Value.bool false, Value.bool false, Value.pointer (some { block := bL, off := 0 }), Value.bool false, Value.pointer (some { block := w.heap.size, off := 0 }), Value.bool false, Value.bool false, Value.bool false, Value.bool false, Value.pointer (some { block := bH, off := 0 }), Value.bool false, Value.pointer (some { block := w.heap.size, off := 0 }), Value.bool false, Value.bool false, Value.bool false, Value.bool false, Value.pointer (some { block := bL, off := 1 }), Value.slice A1 h c1, Value.int IntKind.i64 ↑h, Value.bool false, Value.bool false, Value.bool false, Value.pointer (some { block := w.heap.size, off := 0 }), Value.bool false, Value.bool false, undef, undef, undef, undef, Value.bool false, Value.bool false, Value.agg #[Value.bool false, Value.slice A2 t c2, Value.slice B2 (t + 1) d2, Value.slice C2 0 e2], Value.string key, Value.string up, Value.bool true, Value.agg #[Value.bool false, Value.slice A1 h c1, Value.slice B1 (h + 1) d1, Value.slice C1 0 e1], Value.pointer (some { block := w.heap.size, off := 0 }), Value.bool false, undef, undef, undef, undef, undef, undef, undef, undef, undef, undef, undef, undef, undef, undef, undef, undef, undef, undef, undef, undef, undef, undef, undef, undef, undef, undef, undef, undef, undef, undef, undef, undef, undef, undef, undef, undef, undef, undef, undef, undef, undef, undef, undef, undef, undef, undef, undef, undef, undef, undef, undef, undef, undef, undef, undef, undef, undef, undef, undef, undef, undef, undef, undef, undef, undef, undef, undef, undef, undef, undef, undef, undef, undef, undef, undef, undef, undef, undef, undef, undef, undef, undef, undef, undef, undef, undef, undef, undef, undef, undef, undef, va, Value.pointer (some { block := bL, off := 1 }), Value.slice A1 h c1, vb, Value.string up, vu, vm, Value.pointer (some { block := bH, off := 1 }), Value.slice A2 t c2, vc, vp, Value.pointer (some { block := bL, off := 2 }), Value.slice B1 (h + 1) d1, vq, Value.pointer (some { block := bH, off := 2 }), Value.slice B2 (t + 1) d2, vr, vy, undef, undef, undef, undef, undef, undef, undef, undef, undef, undef, undef, undef, undef, undef, undef, undef, undef, undef, undef, undef], defers := [] } : Act) ∧ K4 w9.heap.size h t X1 X2 up i j va vb vm vc vu W ∧ K3 iv w9.heap.size 3 (h + 1) (t + 1) R1 R2 4 i kk vp vq vr W ∧ ChB w9 28 l vz W ∧ YI i vc vr vy) (by decide +kernel) (by decide +kernel) (by decide +kernel) (by decide +kernel) (by decide +kernel) ?s1 ?s2 ?s3 ?s4 ?fin 10 0 0 0 0 _ _ (by omega) (by omega) (by omega) (by omega) rfl rfl ⟨undef, undef, undef, undef, undef, undef, undef, undef, undef, undef, rfl, ⟨fun _ => rfl, fun _ => rfl, fun _ => rfl, fun _ => rfl, fun _ => rfl, fun e => absurd e (by omega), fun e => absurd e (by omega), fun e => absurd e (by omega), fun e => absurd e (by omega), fun _ e => absurd e (by omega)⟩, ⟨fun _ => rfl, fun _ => rfl, fun _ => rfl, fun _ e => absurd e (by omega), fun e => absurd e (by omega), fun e => absurd e (by omega)⟩, rfl, ⟨fun _ => rfl, fun e => absurd e (by omega)⟩⟩ hHeld
  case s1 =>
    intro i j kk l x W hi hj hkk hl hm hI hS
    obtain ⟨va, vb, vm, vc, vu, vp, vq, vr, vy, vz, rfl, k1, k2, k3, k4⟩ := hI
    have hsz := Aft.size hS
    have hst : i = 0 ∨ i = 1 ∨ i = 2 ∨ i = 3 ∨ i = 4 ∨ i = 5 ∨ i = 6 := by omega
    rcases hst with hst | hst | hst | hst | hst | hst | hst
    · subst hst
      show wpOp _ _ _ 0 _ _ _
      refine wpOp_step (o := { dst := some 186, op := Op.buildSlice 22 0 #[], type := 22, pos := "outright.go:150", after := #[], guard := none }) rfl (fun K' hK => ?_)
      have hb : Below W.heap.size W (W.alloc (.cells #[] 9)) := (Below.refl _ _).alloc (Nat.le_refl _) _
      refine step_run (v := .slice (some ⟨W.heap.size, 0, none⟩) 0 0) (w' := W.alloc (.cells #[] 9)) rfl (by go_simp) ?_
      exact hK _ _ ⟨stepB hS hb, _, vb, vm, vc, vu, vp, vq, vr, vy, vz, rfl, ⟨fun e => absurd e (by omega), fun _ => k1.b0 (by omega), fun _ => k1.m0 (by omega), fun _ => k1.c0 (by omega), k1.u0, fun _ => ⟨_, rfl, hsz, Blk.new _ _ _⟩, fun e => absurd e (by omega), fun e => absurd e (by omega), fun e => absurd e (by omega), fun _ e2 => (k1.keep (fun _ _ _ h => h.later hb) (fun _ _ h => h.later hb)).u1 (by omega) e2⟩, (k2.keep (fun _ _ _ h => h.later hb)).pass (by omega) (by omega), k3.later hb, ⟨fun _ => k4.1 (by omega), fun e => absurd e (by omega)⟩⟩
    · subst hst
      show wpOp _ _ _ 3 _ _ _
      refine wpOp_step (o := { dst := some 189, op := Op.call { callee := Callee.builtin Builtin.append, args := #[Operand.tmp 186, Operand.tmp 188], argTypes := #[22, 22] }, type := 22, pos := "outright.go:150", after := #[{ on := 0, ground := Ground.data }, { on := 2, ground := Ground.data }], guard := none }) rfl (fun K' hK => ?_)
      obtain ⟨g, rfl, hg9, hBg⟩ := k1.a1 rfl
      have ho := ow_nil hg9 hBg
      refine step_append_sl selem rfl (.tmp 186) (.tmp 188) rfl w9.heap.size (.slice (some ⟨g, 0, none⟩) 0 0) (0) ([]) rfl ho A1 h c1 X1 rfl (L9.out.2.later hS).K (by omega) (by omega) hsz (fun v W' ho2 hg => hK _ _ ⟨aft_grown hS ho hg, ?_⟩)
      rw [Nat.zero_add, List.nil_append] at ho2
      exact ⟨_, v, vm, vc, vu, vp, vq, vr, vy, vz, rfl, ⟨fun e => absurd e (by omega), fun e => absurd e (by omega), fun _ => k1.m0 (by omega), fun _ => k1.c0 (by omega), k1.u0, fun e => absurd e (by omega), fun _ => ho2, fun e => absurd e (by omega), fun e => absurd e (by omega), fun _ e2 => (k1.u1 (by omega) e2).imp fun g' h => ⟨h.1, h.2.grown hg (fun e => blk_ne hBg h.2 (Option.some.inj e))⟩⟩, (k2.keep (fun _ _ _ h => ow_grown_tag h ho (show (3 : TypeId) ≠ 9 by decide) hg)).pass (by omega) (by omega), k3.grown ho (by decide) hg, ⟨fun _ => k4.1 (by omega), fun e => absurd e (by omega)⟩⟩
    · subst hst
      have hjl : j = 0 ∨ j = 1 := by omega
      have hll : l = 0 ∨ l = 1 := by omega
      have hkl : kk = 0 ∨ kk = 1 := by omega
      rcases hjl with rfl | rfl
      · rcases hll with rfl | rfl <;> rcases hkl with rfl | rfl
        · exact absurd hm (by decide +kernel)
        · exact absurd hm (by decide +kernel)
        · exact absurd hm (by decide +kernel)
        · exact absurd hm (by decide +kernel)
      show wpOp _ _ _ 6 _ _ _
      refine wpOp_step (o := { dst := some 192, op := Op.call { callee := Callee.builtin Builtin.append, args := #[Operand.tmp 189, Operand.tmp 191], argTypes := #[22, 22] }, type := 22, pos := "outright.go:150", after := #[{ on := 3, ground := Ground.data }, { on := 5, ground := Ground.data }, { on := 3, ground := Ground.chain }], guard := none }) rfl (fun K' hK => ?_)
      obtain ⟨g, rfl, hBu⟩ := k1.u1 (by omega) (by omega)
      have ho := k1.b1 rfl
      refine step_append_sl selem rfl (.tmp 189) (.tmp 191) rfl w9.heap.size vb (h) (X1) rfl ho (some ⟨g, 0, none⟩) 1 1 [up] rfl (sl_one hBu) (by omega) (by omega) hsz (fun v W' ho2 hg => hK _ _ ⟨aft_grown hS ho hg, ?_⟩)
      exact ⟨va, vb, v, vc, _, vp, vq, vr, vy, vz, rfl, ⟨fun e => absurd e (by omega), fun e => absurd e (by omega), fun e => absurd e (by omega), fun _ => k1.c0 (by omega), fun e => absurd e (by omega), fun e => absurd e (by omega), fun e => absurd e (by omega), fun _ => ho2, fun e => absurd e (by omega), fun e => absurd e (by omega)⟩, (k2.keep (fun _ _ _ h => ow_grown_tag h ho (show (3 : TypeId) ≠ 9 by decide) hg)).pass (by omega) (by omega), k3.grown ho (by decide) hg, ⟨fun _ => k4.1 (by omega), fun e => absurd e (by omega)⟩⟩
    · subst hst
      show wpOp _ _ _ 9 _ _ _
      refine wpOp_step (o := { dst := some 195, op := Op.call { callee := Callee.builtin Builtin.append, args := #[Operand.tmp 192, Operand.tmp 194], argTypes := #[22, 22] }, type := 22, pos := "outright.go:150", after := #[{ on := 6, ground := Ground.data }, { on := 8, ground := Ground.data }, { on := 6, ground := Ground.chain }], guard := none }) rfl (fun K' hK => ?_)
      have ho := k1.m1 rfl
      refine step_append_sl selem rfl (.tmp 192) (.tmp 194) rfl w9.heap.size vm (h + 1) (X1 ++ [up]) rfl ho A2 t c2 X2 rfl (H9.out.2.later hS).K (by omega) (by omega) hsz (fun v W' ho2 hg => hK _ _ ⟨aft_grown hS ho hg, ?_⟩)
      exact ⟨va, vb, vm, v, vu, vp, vq, vr, vy, vz, rfl, ⟨fun e => absurd e (by omega), fun e => absurd e (by omega), fun e => absurd e (by omega), fun e => absurd e (by omega), k1.u0, fun e => absurd e (by omega), fun e => absurd e (by omega), fun e => absurd e (by omega), fun _ => ho2, fun e => absurd e (by omega)⟩, (k2.keep (fun _ _ _ h => ow_grown_tag h ho (show (3 : TypeId) ≠ 9 by decide) hg)).pass (by omega) (by omega), k3.grown ho (by decide) hg, ⟨fun _ => k4.1 (by omega), fun e => absurd e (by omega)⟩⟩
    · subst hst
      have hjl : j = 0 ∨ j = 1 := by omega
      have hll : l = 0 ∨ l = 1 := by omega
      have hkl : kk = 0 ∨ kk = 1 := by omega
      rcases hkl with rfl | rfl
      · rcases hll with rfl | rfl <;> rcases hjl with rfl | rfl
        · exact absurd hm (by decide +kernel)
        · exact absurd hm (by decide +kernel)
        · exact absurd hm (by decide +kernel)
        · exact absurd hm (by decide +kernel)
      show wpOp _ _ _ 13 _ _ _
      refine wpOp_step (o := { dst := some 199, op := Op.call { callee := Callee.builtin Builtin.append, args := #[Operand.tmp 196, Operand.tmp 198], argTypes := #[26, 26] }, type := 26, pos := "outright.go:150", after := #[{ on := 10, ground := Ground.data }, { on := 12, ground := Ground.data }, { on := 9, ground := Ground.chain }], guard := none }) rfl (fun K' hK => ?_)
      have ho := k2.a1 (by omega) (by omega)
      refine step_append_sl ielem rfl (.tmp 196) (.tmp 198) rfl w9.heap.size vp (0) ([]) rfl ho B1 (h + 1) d1 R1 rfl (L9.out.2.later hS).D (by omega) (by omega) hsz (fun v W' ho2 hg => hK _ _ ⟨aft_grown hS ho hg, ?_⟩)
      rw [Nat.zero_add, List.nil_append] at ho2
      exact ⟨va, vb, vm, vc, vu, vp, v, vr, vy, vz, rfl, ⟨fun e => absurd e (by omega), fun e => absurd e (by omega), fun e => absurd e (by omega), fun e => absurd e (by omega), k1.u0, fun e => absurd e (by omega), fun e => absurd e (by omega), fun e => absurd e (by omega), fun _ => ow_grown_tag (k1.c1 (by omega)) ho (show (9 : TypeId) ≠ 3 by decide) hg, fun e => absurd e (by omega)⟩, k2.first (by omega) (by omega) ho2, k3.grown ho (by decide) hg, ⟨fun _ => k4.1 (by omega), fun e => absurd e (by omega)⟩⟩
    · subst hst
      show wpOp _ _ _ 16 _ _ _
      refine wpOp_step (o := { dst := some 202, op := Op.call { callee := Callee.builtin Builtin.append, args := #[Operand.tmp 199, Operand.tmp 201], argTypes := #[26, 26] }, type := 26, pos := "outright.go:150", after := #[{ on := 13, ground := Ground.data }, { on := 15, ground := Ground.data }, { on := 13, ground := Ground.chain }], guard := none }) rfl (fun K' hK => ?_)
      have ho := k2.b1 rfl
      refine step_append_sl ielem rfl (.tmp 199) (.tmp 201) rfl w9.heap.size vq (h + 1) (R1) rfl ho B2 (t + 1) d2 R2 rfl (H9.out.2.later hS).D (by omega) (by omega) hsz (fun v W' ho2 hg => hK _ _ ⟨aft_grown hS ho hg, ?_⟩)
      exact ⟨va, vb, vm, vc, vu, vp, vq, v, vy, vz, rfl, ⟨fun e => absurd e (by omega), fun e => absurd e (by omega), fun e => absurd e (by omega), fun e => absurd e (by omega), k1.u0, fun e => absurd e (by omega), fun e => absurd e (by omega), fun e => absurd e (by omega), fun _ => ow_grown_tag (k1.c1 (by omega)) ho (show (9 : TypeId) ≠ 3 by decide) hg, fun e => absurd e (by omega)⟩, K3.second k2.a0 ho2, k3.grown ho (by decide) hg, ⟨fun _ => k4.1 (by omega), fun e => absurd e (by omega)⟩⟩
    · subst hst
      show wpOp _ _ _ 17 _ _ _
      refine wpOp_step (o := { dst := some 203, op := Op.build 28 #[(1, Operand.tmp 195), (2, Operand.tmp 202)], type := 28, pos := "outright.go:150", after := #[{ on := 9, ground := Ground.data }, { on := 16, ground := Ground.data }], guard := none }) rfl (fun K' hK => ?_)
      obtain ⟨AA, cA, rfl, sA⟩ := Ow.sl (k1.c1 (by omega))
      obtain ⟨CC, cC, rfl, sC⟩ := Ow.sl (k2.c1 (by omega))
      clear sA sC
      refine step_run (v := .agg #[.bool false, .slice AA (h + 1 + t) cA, .slice CC (h + 1 + (t + 1)) cC, .slice none 0 0]) (w' := W) rfl (by go_simp) ?_
      exact hK _ _ ⟨hS, va, vb, vm, _, vu, vp, vq, _, _, vz, rfl, ⟨fun e => absurd e (by omega), fun e => absurd e (by omega), fun e => absurd e (by omega), fun e => absurd e (by omega), k1.u0, fun e => absurd e (by omega), fun e => absurd e (by omega), fun e => absurd e (by omega), fun _ => k1.c1 (by omega), fun e => absurd e (by omega)⟩, k2.over (by omega) (by omega) (by omega), k3, ⟨fun e => absurd e (by omega), fun _ => rfl⟩⟩
  case s2 =>
    intro i j kk l x W hi hj hkk hl hm hI hS
    obtain ⟨va, vb, vm, vc, vu, vp, vq, vr, vy, vz, rfl, k1, k2, k3, k4⟩ := hI
    have hsz := Aft.size hS
    obtain rfl : j = 0 := by omega
    show wpOp _ _ _ 5 _ _ _
    refine wpOp_step (o := { dst := some 191, op := Op.buildSlice 22 1 #[(0, Operand.tmp 190)], type := 22, pos := "outright.go:150", after := #[{ on := 4, ground := Ground.data }], guard := none }) rfl (fun K' hK => ?_)
    have hb : Below W.heap.size W (W.alloc (.cells #[.string up] 9)) := (Below.refl _ _).alloc (Nat.le_refl _) _
    refine step_run (v := .slice (some ⟨W.heap.size, 0, none⟩) 1 1) (w' := W.alloc (.cells #[.string up] 9)) rfl (by go_simp) ?_
    have k := k1.keep (fun _ _ _ h => h.later hb) (fun _ _ h => h.later hb)
    exact hK _ _ ⟨stepB hS hb, va, vb, vm, vc, _, vp, vq, vr, vy, vz, rfl, ⟨k.a0, k.b0, k.m0, k.c0, fun e => absurd e (by omega), k.a1, k.b1, k.m1, k.c1, fun _ _ => ⟨_, rfl, Blk.new _ _ _⟩⟩, k2.keep (fun _ _ _ h => h.later hb), k3.later hb, k4⟩
  case s3 =>
    intro i j kk l x W hi hj hkk hl hm hI hS
    obtain ⟨va, vb, vm, vc, vu, vp, vq, vr, vy, vz, rfl, k1, k2, k3, k4⟩ := hI
    have hsz := Aft.size hS
    obtain rfl : kk = 0 := by omega
    show wpOp _ _ _ 10 _ _ _
    refine wpOp_step (o := { dst := some 196, op := Op.buildSlice 26 0 #[], type := 26, pos := "outright.go:150", after := #[], guard := none }) rfl (fun K' hK => ?_)
    have hb : Below W.heap.size W (W.alloc (.cells #[] 3)) := (Below.refl _ _).alloc (Nat.le_refl _) _
    refine step_run (v := .slice (some ⟨W.heap.size, 0, none⟩) 0 0) (w' := W.alloc (.cells #[] 3)) rfl (by go_simp) ?_
    exact hK _ _ ⟨stepB hS hb, va, vb, vm, vc, vu, _, vq, vr, vy, vz, rfl, k1.keep (fun _ _ _ h => h.later hb) (fun _ _ h => h.later hb), k2.make (Ow.fresh W 3 hsz rfl) (fun _ _ _ h => h.later hb), k3.later hb, k4⟩
  case s4 =>
    intro i j kk l x W hi hj hkk hl hm hI hS
    obtain ⟨va, vb, vm, vc, vu, vp, vq, vr, vy, vz, rfl, k1, k2, k3, k4⟩ := hI
    have hsz := Aft.size hS
    obtain rfl : l = 0 := by omega
    obtain rfl := k3
    show wpOp _ _ _ 18 _ _ _
    refine wpOp_step (o := { dst := some 15, op := Op.alloc 28, type := 0, pos := "outright.go:150", after := #[], guard := none }) rfl (fun K' hK => ?_)
    have hb : Below W.heap.size W (W.alloc (.cells #[.bool false, .slice none 0 0, .slice none 0 0, .slice none 0 0] 28)) := (Below.refl _ _).alloc (Nat.le_refl _) _
    refine step_run (v := .pointer (some ⟨W.heap.size, 0, none⟩)) (w' := W.alloc (.cells #[.bool false, .slice none 0 0, .slice none 0 0, .slice none 0 0] 28)) rfl (by go_simp) ?_
    exact hK _ _ ⟨stepB hS hb, va, vb, vm, vc, vu, vp, vq, vr, vy, _, rfl, k1.keep (fun _ _ _ h => h.later hb) (fun _ _ h => h.later hb), k2.keep (fun _ _ _ h => h.later hb), ⟨_, rfl, hsz, Blk.new _ _ _⟩, k4⟩
  case fin =>
    intro x W hI hS
    obtain ⟨va, vb, vm, vc, vu, vp, vq, vr, vy, vz, rfl, k1, k2, k3, k4⟩ := hI
    have hA := k1.c1 (by omega)
    rw [HX.out, ← HT.out] at hA
    have hB := k2.c1 (by omega)
    rw [HRR.out, show h + 1 + (t + 1) = n + 1 by have := HT.out; omega] at hB
    obtain ⟨AA, cA, rfl, sA⟩ := Ow.sl hA
    obtain ⟨CC, cC, rfl, sC⟩ := Ow.sl hB
    obtain ⟨g, rfl, hg, Bg⟩ := k3
    obtain rfl := k4.2 (by omega)
    have hn0 : Nd W AA CC none n cA (n + 1) cC 0 0 xs ks [] := ⟨sA, sC, Sl.empty _, by have := HZ.out; omega⟩
    have HN0 := Lib.hid hn0
    clear k1 k2 k4 hA hB sA sC hn0
    have HS := Lib.hid hS
    have HG := Lib.hid Bg
    obtain ⟨l0, l1, l2, l3, z0, z1, z2, z3⟩ := Bg.l4
    clear Bg hS hHeld
    refine wpAnyH_ready (rs := [19]) (by kernel_rfl) (by simp) (AllReadyH.cons (o := { dst := none, op := Op.store 28 (Operand.tmp 15) (Operand.tmp 203), type := 0, pos := "outright.go:150", after := #[{ on := 18, ground := Ground.data }, { on := 17, ground := Ground.data }, { on := 16, ground := Ground.chain }, { on := 0, ground := Ground.phase }, { on := 1, ground := Ground.phase }, { on := 2, ground := Ground.phase }, { on := 3, ground := Ground.phase }, { on := 4, ground := Ground.phase }, { on := 5, ground := Ground.phase }, { on := 6, ground := Ground.phase }, { on := 7, ground := Ground.phase }, { on := 8, ground := Ground.phase }, { on := 9, ground := Ground.phase }, { on := 10, ground := Ground.phase }, { on := 11, ground := Ground.phase }, { on := 12, ground := Ground.phase }, { on := 13, ground := Ground.phase }, { on := 14, ground := Ground.phase }, { on := 15, ground := Ground.phase }, { on := 16, ground := Ground.phase }, { on := 17, ground := Ground.phase }, { on := 18, ground := Ground.phase }], guard := none }) rfl (fun K hK => ?_) AllReadyH.nil)
    go_simp
    refine hK.out _ _ (Aft.set (Aft.set (Aft.set (Aft.set HS.out hg _) hg _) hg _) hg _) (fun hHeld2 => wpAnyH_done (by kernel_rfl) (NoPanic.normal ?_) _)
    clear hK K l0 l1 l2 l3 z0 z1 z2 z3
    have HB10 : Hid (Below w.heap.size w ((((W.setCell ⟨g, 0, none⟩ (.bool false)).setCell ⟨g, 1, none⟩ (.slice AA n cA)).setCell ⟨g, 2, none⟩ (.slice CC (n + 1) cC)).setCell ⟨g, 3, none⟩ (.slice none 0 0))) := stepB HB9.out hHeld2
    have N10 := Lib.hid (N9.out.later hHeld2)
    have L10 := Lib.hid (L9.out.later hHeld2)
    have H10 := Lib.hid (H9.out.later hHeld2)
    have F10 := Lib.hid (F9.out.later hHeld2)
    have G10 : Hid (VarAt ((((W.setCell ⟨g, 0, none⟩ (.bool false)).setCell ⟨g, 1, none⟩ (.slice AA n cA)).setCell ⟨g, 2, none⟩ (.slice CC (n + 1) cC)).setCell ⟨g, 3, none⟩ (.slice none 0 0)) g false AA CC none n cA (n + 1) cC 0 0 xs ks []) := ⟨(blk_set4 HG.out).c4, HN0.out.set4 HG.out rfl rfl rfl rfl _ _ _ _⟩
    clear hHeld2 HS HG HN0 N9 L9 H9 F9 HB9 CL CH hg
    generalize ((((W.setCell ⟨g, 0, none⟩ (.bool false)).setCell ⟨g, 1, none⟩ (.slice AA n cA)).setCell ⟨g, 2, none⟩ (.slice CC (n + 1) cC)).setCell ⟨g, 3, none⟩ (.slice none 0 0)) = w10 at *
    have cN10 := N10.out.1
    have cL10 := L10.out.1
    have cH10 := H10.out.1
    have cF10 := F10.out.1
    have cG10 := G10.out.1
    have HSM : sameN false false xs xs ks ks [] [] = true := decide_eq_true ⟨rfl, rfl, rfl, rfl⟩
    have hlm : l < n + 1 := by have := HLN.out; omega
    have hlF : l < (h + 1) := by have := HLL.out; have := HLN.out; have := HT.out; omega
    obtain ⟨gN, oN, yN, hAN, hyN, hcN⟩ := (N10.out.2).D.rd.at (j := l) hlm
    obtain ⟨gF, oF, yF, hAF, hyF, hcF⟩ := (F10.out.2).D.rd.at (j := l) hlF
    have hr := HR.out l HLO.out
    rw [hyN] at hr
    rw [hr] at hyF
    cases hyF
    simp only [iv] at hcN hcF
    have iN := iindex gN oN (n + 1) d l (l : Int) rfl hlm
    have iF := iindex gF oF (h + 1) d1 l (l : Int) rfl hlF
    subst hAN hAF
    have HLT : Hid (∀ W W' : World, (Nd W A (some ⟨gN, oN, none⟩) C n c (n + 1) d 0 e xs ks [] ∧ Nd W A1 (some ⟨gF, oF, none⟩) C1 h c1 (h + 1) d1 0 e1 X1 R1 [] ∧ Nd W AA CC none n cA (n + 1) cC 0 0 xs ks []) → Below W.heap.size W W' → (Nd W' A (some ⟨gN, oN, none⟩) C n c (n + 1) d 0 e xs ks [] ∧ Nd W' A1 (some ⟨gF, oF, none⟩) C1 h c1 (h + 1) d1 0 e1 X1 R1 [] ∧ Nd W' AA CC none n cA (n + 1) cC 0 0 xs ks [])) := fun W W' h hb => ⟨h.1.later hb, h.2.1.later hb, h.2.2.later hb⟩
    have K0 : Hid ((SI w w.heap.size bF g gN (oN + l) gF (oF + l) yN (.bool false) (.slice A n c) (.slice (some ⟨gN, oN, none⟩) (n + 1) d) (.slice C 0 e) (.bool false) (.slice A1 h c1) (.slice (some ⟨gF, oF, none⟩) (h + 1) d1) (.slice C1 0 e1) (.bool false) (.slice AA n cA) (.slice CC (n + 1) cC) (.slice none 0 0) (fun W => Nd W A (some ⟨gN, oN, none⟩) C n c (n + 1) d 0 e xs ks [] ∧ Nd W A1 (some ⟨gF, oF, none⟩) C1 h c1 (h + 1) d1 0 e1 X1 R1 [] ∧ Nd W AA CC none n cA (n + 1) cC 0 0 xs ks [])) w10) := ⟨⟨HB10.out, ⟨N10.out.2, F10.out.2, G10.out.2⟩⟩, N10.out.1, F10.out.1, G10.out.1, hcN, hcF⟩
    have HK1 : Hid (∀ W, (SI w w.heap.size bF g gN (oN + l) gF (oF + l) yN (.bool false) (.slice A n c) (.slice (some ⟨gN, oN, none⟩) (n + 1) d) (.slice C 0 e) (.bool false) (.slice A1 h c1) (.slice (some ⟨gF, oF, none⟩) (h + 1) d1) (.slice C1 0 e1) (.bool false) (.slice AA n cA) (.slice CC (n + 1) cC) (.slice none 0 0) (fun W => Nd W A (some ⟨gN, oN, none⟩) C n c (n + 1) d 0 e xs ks [] ∧ Nd W A1 (some ⟨gF, oF, none⟩) C1 h c1 (h + 1) d1 0 e1 X1 R1 [] ∧ Nd W AA CC none n cA (n + 1) cC 0 0 xs ks [])) W → Calls Try.prog 28 #[.agg #[.bool false, .slice AA n cA, .slice CC (n + 1) cC, .slice none 0 0], .agg #[.bool false, .slice A n c, .slice (some ⟨gN, oN, none⟩) (n + 1) d, .slice C 0 e]] W fun x w' => x = .returned (.bool true) ∧ Below W.heap.size W w') := fun W h => by
      have := rsame_any false AA CC none n cA (n + 1) cC 0 0 xs ks [] false A (some ⟨gN, oN, none⟩) C n c (n + 1) d 0 e xs ks [] W h.1.2.2.2 h.1.2.1
      unfold BoolEnd at this
      rwa [HSM] at this
    have HK2 : Hid (∀ W, (SI w w.heap.size bF g gN (oN + l) gF (oF + l) yN (.bool false) (.slice A n c) (.slice (some ⟨gN, oN, none⟩) (n + 1) d) (.slice C 0 e) (.bool false) (.slice A1 h c1) (.slice (some ⟨gF, oF, none⟩) (h + 1) d1) (.slice C1 0 e1) (.bool false) (.slice AA n cA) (.slice CC (n + 1) cC) (.slice none 0 0) (fun W => Nd W A (some ⟨gN, oN, none⟩) C n c (n + 1) d 0 e xs ks [] ∧ Nd W A1 (some ⟨gF, oF, none⟩) C1 h c1 (h + 1) d1 0 e1 X1 R1 [] ∧ Nd W AA CC none n cA (n + 1) cC 0 0 xs ks [])) W → Calls Try.prog 11 #[.agg #[.bool false, .slice A1 h c1, .slice (some ⟨gF, oF, none⟩) (h + 1) d1, .slice C1 0 e1], .string key] W fun x w' => x = .returned (.int .i64 (l : Nat)) ∧ Below W.heap.size W w') := fun W h => kid_c key l h.1.2.2.1 M1.out HLF.out
    have HK3 : Hid (∀ W, (SI w w.heap.size bF g gN (oN + l) gF (oF + l) yN (.bool false) (.slice A n c) (.slice (some ⟨gN, oN, none⟩) (n + 1) d) (.slice C 0 e) (.bool false) (.slice A1 h c1) (.slice (some ⟨gF, oF, none⟩) (h + 1) d1) (.slice C1 0 e1) (.bool false) (.slice AA n cA) (.slice CC (n + 1) cC) (.slice none 0 0) (fun W => Nd W A (some ⟨gN, oN, none⟩) C n c (n + 1) d 0 e xs ks [] ∧ Nd W A1 (some ⟨gF, oF, none⟩) C1 h c1 (h + 1) d1 0 e1 X1 R1 [] ∧ Nd W AA CC none n cA (n + 1) cC 0 0 xs ks [])) W → Calls Try.prog 11 #[.agg #[.bool false, .slice A n c, .slice (some ⟨gN, oN, none⟩) (n + 1) d, .slice C 0 e], .string key] W fun x w' => x = .returned (.int .i64 (l : Nat)) ∧ Below W.heap.size W w') := fun W h => kid_c key l h.1.2.1 HM.out HLO.out
    clear hcN hcF hyN hr HSM hlm hlF cN10 cL10 cH10 cF10 cG10 hht
    go_wp2_with fail
    go_region_held3 (SI w w.heap.size bF g gN (oN + l) gF (oF + l) yN (.bool false) (.slice A n c) (.slice (some ⟨gN, oN, none⟩) (n + 1) d) (.slice C 0 e) (.bool false) (.slice A1 h c1) (.slice (some ⟨gF, oF, none⟩) (h + 1) d1) (.slice C1 0 e1) (.bool false) (.slice AA n cA) (.slice CC (n + 1) cC) (.slice none 0 0) (fun W => Nd W A (some ⟨gN, oN, none⟩) C n c (n + 1) d 0 e xs ks [] ∧ Nd W A1 (some ⟨gF, oF, none⟩) C1 h c1 (h + 1) d1 0 e1 X1 R1 [] ∧ Nd W AA CC none n cA (n + 1) cC 0 0 xs ks [])) (repeat (first | with_reducible assumption | with_reducible exact K0.out | with_reducible refine SI.drew HLT.out ?_ | with_reducible refine SI.drewN HLT.out ?_ | with_reducible refine SI.later HLT.out ?_ (by with_reducible assumption))) (first
      | (go_at_call 28; refine (HK1.out _ (by with_reducible assumption)).mono ?_; rintro x wa ⟨rfl, hba⟩)
      | (go_at_call_of 11 (Value.slice A n c); refine (HK3.out _ (by with_reducible assumption)).mono ?_; rintro x wb ⟨rfl, hbb⟩)
      | (go_at_call 11; refine (HK2.out _ (by with_reducible assumption)).mono ?_; rintro x wc ⟨rfl, hbc⟩))
    rename_i hq0
    have K1 := Lib.hid hq0
    clear hq0
    go_wp2
    go_ret
    exact ⟨rfl, K1.out.1.1⟩
end Go.Proofs.Ytiojjpmkiljngaa
