/- A version is made. -/
import Derived.Test.YtbncpfkoeahhpaaCE
namespace Go.Proofs.Ytbncpfkoeahhpaa
open Go.ChangeShapes Go.WideShapes Go.ChangeAt Go.RowKit Go.Maps
set_option linter.unusedVariables false
set_option linter.unusedSimpArgs false

abbrev SMk (q r a : Nat) (wr_ t : Int) (b : Bool) (v : ByteArray) (W : World) : Prop := W.cell? ⟨q, 8, none⟩ = some (.pointer (some ⟨a, 0, none⟩)) ∧ W.cell? ⟨r, 0, none⟩ = some (.int .i64 wr_) ∧ W.cell? ⟨r, 1, none⟩ = some (.int .i64 t) ∧ W.cell? ⟨r, 2, none⟩ = some (.bool b) ∧ W.cell? ⟨r, 3, none⟩ = some (.string v)
theorem FrS.pre {w w1 w' : World} {S : Nat → Prop} (hb : Below w.heap.size w w1) (h : FrS w1 w' S) : FrS w w' S := (FrS.of_below (S := S) hb).trans h (fun i h => .inl h)
theorem CEnd.from {B q m a : Nat} {cf : Conf} {st' : AS} {S : Nat → Prop} {val : Value} {w w1 w' : World} {e : Ending} (hb : Below w.heap.size w w1) (h : CEnd B q cf a m st' S val w1 e w') : CEnd B q cf a m st' S val w e w' := by
  obtain ⟨h0, S', h1, h2, h3⟩ := h
  exact ⟨h0, S', h1, fun k hk => (h2 k hk).imp id (fun h => Nat.le_trans hb.size h), h3.pre hb⟩
set_option maxRecDepth 100000 in
set_option maxHeartbeats 8000000 in
theorem chmake_no (B q : Nat) (cf : Conf) (a m : Nat) (st : AS) (S : Nat → Prop) (w : World) (h : CR w B q cf a m st S) (wr_ t : Int) (b : Bool) (v : ByteArray) (x : Int) (hs : v.size ≤ maxLen) (hmay : mayV m (wr_, t, b, v) = false) : Calls Try.prog 8 #[.pointer (some ⟨q, 0, none⟩), .agg #[.int .i64 wr_, .int .i64 t, .bool b, .string v], .int .u64 x] w fun e w' => e = .returned (.tuple #[.int .u64 0, .int .i64 1]) ∧ Below w.heap.size w w' := by
  have hb0 : Below w.heap.size w (w.alloc (.cells #[.int .i64 wr_, .int .i64 t, .bool b, .string v] 29)) := (Below.refl _ _).alloc (Nat.le_refl _) _
  have HB0 := Lib.hid hb0
  have HK0 : Hid (Blk (w.alloc (.cells #[.int .i64 wr_, .int .i64 t, .bool b, .string v] 29)) w.heap.size #[.int .i64 wr_, .int .i64 t, .bool b, .string v] 29) := Blk.new _ _ _
  have HR0 := Lib.hid (h.later hb0)
  have HMY : Hid (∀ W, CR W B q cf a m st S → Calls Try.prog 26 #[.pointer (some ⟨q, 0, none⟩), .agg #[.int .i64 wr_, .int .i64 t, .bool b, .string v]] W fun e w' => e = .returned (.bool (mayV m (wr_, t, b, v))) ∧ Below W.heap.size W w') := fun W hc => chmay_any B q cf a m st S W hc wr_ t b v hs
  rw [hmay] at HMY
  have hm256 := h.m256
  clear h hb0 hmay
  go_enter Try.func8, Try.ntmps8
  go_upto_region 1 with (fail)
  generalize w.alloc (.cells #[.int .i64 wr_, .int .i64 t, .bool b, .string v] 29) = w1 at *
  obtain ⟨r, hr⟩ : ∃ r, w.heap.size = r := ⟨_, rfl⟩
  have HWR : Hid (w.heap.size ≤ r) := by rw [hr]; exact Nat.le_refl _
  rw [hr] at HK0
  try rw [hr]
  clear hr
  have c0 := HK0.out.cell 0
  have c1 := HK0.out.cell 1
  have c2 := HK0.out.cell 2
  have c3 := HK0.out.cell 3
  simp only [List.getElem?_toArray, List.getElem?_cons_zero, List.getElem?_cons_succ] at c0 c1 c2 c3
  go_wp2_with fail
  refine (HMY.out _ HR0.out).mono ?_
  rintro e w2 ⟨rfl, hb⟩
  have HB2 := Lib.hid (stepB HB0.out hb)
  have HK2 := Lib.hid (HK0.out.later hb)
  have HR2 := Lib.hid (HR0.out.later hb)
  clear hb HMY HB0 HK0 HR0 c0 c1 c2 c3
  go_wp2
  go_ret2
  exact ⟨rfl, HB2.out⟩
set_option maxRecDepth 100000 in
set_option maxHeartbeats 8000000 in
theorem chmake_full (B q : Nat) (cf : Conf) (a m : Nat) (st : AS) (S : Nat → Prop) (w : World) (h : CR w B q cf a m st S) (wr_ t : Int) (b : Bool) (v : ByteArray) (x : Int) (hs : v.size ≤ maxLen) (hmay : mayV m (wr_, t, b, v) = true) (hG : st.2.2.length < 1000000000) (hE : (alA (27 + m) st).2.2 ≠ 0) : Calls Try.prog 8 #[.pointer (some ⟨q, 0, none⟩), .agg #[.int .i64 wr_, .int .i64 t, .bool b, .string v], .int .u64 x] w (CEnd B q cf a m (alA (27 + m) st).1 S (.tuple #[.int .u64 0, .int .i64 (alA (27 + m) st).2.2]) w) := by
  have HG := Lib.hid hG
  have q1 : ((alA (27 + m) st).2.2 != 0) = true := by simpa using hE
  clear hG hE
  have hb0 : Below w.heap.size w (w.alloc (.cells #[.int .i64 wr_, .int .i64 t, .bool b, .string v] 29)) := (Below.refl _ _).alloc (Nat.le_refl _) _
  have HB0 := Lib.hid hb0
  have HK0 : Hid (Blk (w.alloc (.cells #[.int .i64 wr_, .int .i64 t, .bool b, .string v] 29)) w.heap.size #[.int .i64 wr_, .int .i64 t, .bool b, .string v] 29) := Blk.new _ _ _
  have HR0 := Lib.hid (h.later hb0)
  have HMY : Hid (∀ W, CR W B q cf a m st S → Calls Try.prog 26 #[.pointer (some ⟨q, 0, none⟩), .agg #[.int .i64 wr_, .int .i64 t, .bool b, .string v]] W fun e w' => e = .returned (.bool (mayV m (wr_, t, b, v))) ∧ Below W.heap.size W w') := fun W hc => chmay_any B q cf a m st S W hc wr_ t b v hs
  rw [hmay] at HMY
  have hm256 := h.m256
  clear h hb0 hmay
  go_enter Try.func8, Try.ntmps8
  go_upto_region 1 with (fail)
  generalize w.alloc (.cells #[.int .i64 wr_, .int .i64 t, .bool b, .string v] 29) = w1 at *
  obtain ⟨r, hr⟩ : ∃ r, w.heap.size = r := ⟨_, rfl⟩
  have HWR : Hid (w.heap.size ≤ r) := by rw [hr]; exact Nat.le_refl _
  rw [hr] at HK0
  try rw [hr]
  clear hr
  have c0 := HK0.out.cell 0
  have c1 := HK0.out.cell 1
  have c2 := HK0.out.cell 2
  have c3 := HK0.out.cell 3
  simp only [List.getElem?_toArray, List.getElem?_cons_zero, List.getElem?_cons_succ] at c0 c1 c2 c3
  go_wp2_with fail
  refine (HMY.out _ HR0.out).mono ?_
  rintro e w2 ⟨rfl, hb⟩
  have HB2 := Lib.hid (stepB HB0.out hb)
  have HK2 := Lib.hid (HK0.out.later hb)
  have HR2 := Lib.hid (HR0.out.later hb)
  clear hb HMY HB0 HK0 HR0 c0 c1 c2 c3
  have c8 := HR2.out.c8
  generalize hA : alA (27 + m) st = A at *
  obtain ⟨st1, hh, er⟩ := A
  simp only at q1 ⊢
  have HAL := Lib.hid (alloc_any B a (27 + m) st S w2 HR2.out.ar (by omega) (by omega) HG.out)
  rw [hA] at HAL
  simp only at HAL
  clear hA
  go_wp2_with fail
  refine HAL.out.mono ?_
  rintro e w3 ⟨rfl, S', h1, h2, h3⟩
  have HE : Hid (∃ S', CR w3 B q cf a m st1 S' ∧ (∀ k, S' k → S k ∨ w.heap.size ≤ k) ∧ FrS w w3 S) := ⟨S', HR2.out.step h1 h3, fun k hk => (h2 k hk).imp id (fun h => Nat.le_trans HB2.out.size h), h3.pre HB2.out⟩
  clear h1 h2 h3 c8 HAL
  go_wp2
  go_ret2
  exact ⟨rfl, HE.out⟩
set_option maxRecDepth 100000 in
set_option maxHeartbeats 8000000 in
theorem chmake_yes (B q : Nat) (cf : Conf) (a m : Nat) (st : AS) (S : Nat → Prop) (w : World) (h : CR w B q cf a m st S) (wr_ t : Int) (b : Bool) (v : ByteArray) (x : Int) (hs : v.size ≤ maxLen) (hmay : mayV m (wr_, t, b, v) = true) (hw : wr_ ≤ 9223372036854775807) (hx : 0 ≤ x ∧ x ≤ 18446744073709551615) (hG : st.2.2.length < 1000000000) (hE : (alA (27 + m) st).2.2 = 0) (hr0 : hR (alA (27 + m) st).2.1) (hW : wrAE (27 + m) (alA (27 + m) st).2.1 (encT ((wr_, t, b, v), x)) (alA (27 + m) st).1 = 0) : Calls Try.prog 8 #[.pointer (some ⟨q, 0, none⟩), .agg #[.int .i64 wr_, .int .i64 t, .bool b, .string v], .int .u64 x] w (fun e w' => CEnd B q cf a m (wrA (27 + m) (alA (27 + m) st).2.1 (encT ((wr_, t, b, v), x)) (alA (27 + m) st).1) S (.tuple #[.int .u64 (alA (27 + m) st).2.1, .int .i64 0]) w e w' ∧ Pu (27 + m) (alA (27 + m) st).1) := by
  have HG := Lib.hid hG
  have HVN : Hid (VN m ((wr_, t, b, v), x)) := mayV_VN hmay hw hx
  have HEN : Hid (∀ W, Calls Try.prog 29 #[.agg #[.int .i64 wr_, .int .i64 t, .bool b, .string v, .int .u64 x]] W fun e w' => e = .returned (.string (encT ((wr_, t, b, v), x))) ∧ Below W.heap.size W w') := fun W => by
    have k := HVN.out
    have k1 := k.1
    have k2 := k.2.1
    have k3 := k.2.2.1
    have k4 := h.m256
    simp only at k1 k2 k3
    exact encode_any wr_ t b v x W (by omega) (by omega) hx (by omega)
  have hbt := built31 wr_ t b v x
  have HX := Lib.hid hx
  have HR9 := Lib.hid hr0
  clear hG hw hx hr0
  obtain ⟨st1, hh, hA1, hA2⟩ : ∃ st1 hh, (alA (27 + m) st).1 = st1 ∧ (alA (27 + m) st).2.1 = hh := ⟨_, _, rfl, rfl⟩
  rw [hA1, hA2] at hW
  rw [hA2] at HR9
  rw [hA1, hA2]
  obtain ⟨E, hEe⟩ : ∃ E, encT ((wr_, t, b, v), x) = E := ⟨_, rfl⟩
  rw [hEe] at hW HEN
  rw [hEe]
  have HWE := Lib.hid hW
  have HEE := Lib.hid hE
  have HA1 := Lib.hid hA1
  have HA2 := Lib.hid hA2
  clear hA1 hA2 hE hW hEe
  have hb0 : Below w.heap.size w (w.alloc (.cells #[.int .i64 wr_, .int .i64 t, .bool b, .string v] 29)) := (Below.refl _ _).alloc (Nat.le_refl _) _
  have HB0 := Lib.hid hb0
  have HK0 : Hid (Blk (w.alloc (.cells #[.int .i64 wr_, .int .i64 t, .bool b, .string v] 29)) w.heap.size #[.int .i64 wr_, .int .i64 t, .bool b, .string v] 29) := Blk.new _ _ _
  have HR0 := Lib.hid (h.later hb0)
  have HMY : Hid (∀ W, CR W B q cf a m st S → Calls Try.prog 26 #[.pointer (some ⟨q, 0, none⟩), .agg #[.int .i64 wr_, .int .i64 t, .bool b, .string v]] W fun e w' => e = .returned (.bool (mayV m (wr_, t, b, v))) ∧ Below W.heap.size W w') := fun W hc => chmay_any B q cf a m st S W hc wr_ t b v hs
  rw [hmay] at HMY
  have hm256 := h.m256
  clear h hb0 hmay
  go_enter Try.func8, Try.ntmps8
  go_upto_region 1 with (fail)
  generalize w.alloc (.cells #[.int .i64 wr_, .int .i64 t, .bool b, .string v] 29) = w1 at *
  obtain ⟨r, hr⟩ : ∃ r, w.heap.size = r := ⟨_, rfl⟩
  have HWR : Hid (w.heap.size ≤ r) := by rw [hr]; exact Nat.le_refl _
  rw [hr] at HK0
  try rw [hr]
  clear hr
  have c0 := HK0.out.cell 0
  have c1 := HK0.out.cell 1
  have c2 := HK0.out.cell 2
  have c3 := HK0.out.cell 3
  simp only [List.getElem?_toArray, List.getElem?_cons_zero, List.getElem?_cons_succ] at c0 c1 c2 c3
  go_wp2_with fail
  refine (HMY.out _ HR0.out).mono ?_
  rintro e w2 ⟨rfl, hb⟩
  have HB2 := Lib.hid (stepB HB0.out hb)
  have HK2 := Lib.hid (HK0.out.later hb)
  have HR2 := Lib.hid (HR0.out.later hb)
  clear hb HMY HB0 HK0 HR0 c0 c1 c2 c3
  have c8 := HR2.out.c8
  have HAL := Lib.hid (alloc_any B a (27 + m) st S w2 HR2.out.ar (by omega) (by omega) HG.out)
  rw [HEE.out, HA1.out, HA2.out] at HAL
  go_wp2_with fail
  refine HAL.out.mono ?_
  rintro e w3 ⟨rfl, S1, h1, h2, h3⟩
  have HPU : Hid (Pu (27 + m) st1) := h1.pure
  have HR3 := Lib.hid (HR2.out.step h1 h3)
  have HK3 := Lib.hid (HR2.out.ar.blk h3 HK2.out (by decide))
  have HS3 := Lib.hid h2
  have HF3 := Lib.hid (h3.pre HB2.out)
  have HW3 : Hid (w.heap.size ≤ w2.heap.size ∧ w2.heap.size ≤ w3.heap.size) := ⟨HB2.out.size, h3.size⟩
  clear h1 h2 h3 c8 HAL HB2 HK2 HR2
  go_upto_region 8 with (fail)
  have HGL : Hid (∀ W st' S', CR W B q cf a m st' S' → Blk W r #[.int .i64 wr_, .int .i64 t, .bool b, .string v] 29 → SMk q r a wr_ t b v W) := fun W st' S' h k => ⟨h.c8, k.cell 0, k.cell 1, k.cell 2, k.cell 3⟩
  refine wp_region_noPanic ?_
  have hbd : Below w3.heap.size w3 w3.drew := Below.drew (Below.refl _ _)
  have HR4 := Lib.hid (HR3.out.later hbd)
  have HK4 := Lib.hid (HK3.out.later hbd)
  have HB4 := Lib.hid hbd
  clear hbd
  refine wp_region_held_drew (S := SMk q r a wr_ t b v) (by kernel_rfl) (HGL.out _ _ _ HR4.out HK4.out) (fun hHeld => ?_)
  generalize w3.drew = w4 at *
  refine wpAnyH_take (i := 0) (oi := { dst := some 27, op := Op.move (Operand.tmp 8), type := 24, pos := "chain.go:104", after := #[], guard := none }) (v := ?_) rfl (by kernel_rfl) (by kernel_rfl) (by kernel_rfl) (fun _ _ _ h => h) (Or.inl ⟨by rfl, ?_⟩) (by assumption) ?_
  rotate_left
  · intro W hSw
    obtain ⟨k8, k0, k1, k2, k3⟩ := hSw
    go_simp
    try with_reducible rfl
  simp only [Act.put, List.setIfInBounds_toArray, List.set_cons_zero, List.set_cons_succ]
  refine wpAnyH_take (i := 1) (oi := { dst := some 28, op := Op.move (Operand.tmp 0), type := 22, pos := "chain.go:104", after := #[], guard := none }) (v := ?_) rfl (by kernel_rfl) (by kernel_rfl) (by kernel_rfl) (fun _ _ _ h => h) (Or.inl ⟨by rfl, ?_⟩) (by assumption) ?_
  rotate_left
  · intro W hSw
    obtain ⟨k8, k0, k1, k2, k3⟩ := hSw
    go_simp
    try with_reducible rfl
  simp only [Act.put, List.setIfInBounds_toArray, List.set_cons_zero, List.set_cons_succ]
  refine wpAnyH_take (i := 2) (oi := { dst := some 29, op := Op.nilCheck (Operand.tmp 28), type := 0, pos := "chain.go:104", after := #[{ on := 1, ground := Ground.data }], guard := none }) (v := ?_) rfl (by kernel_rfl) (by kernel_rfl) (by kernel_rfl) (fun _ _ _ h => h) (Or.inl ⟨by rfl, ?_⟩) (by assumption) ?_
  rotate_left
  · intro W hSw
    obtain ⟨k8, k0, k1, k2, k3⟩ := hSw
    go_simp
    try with_reducible rfl
  simp only [Act.put, List.setIfInBounds_toArray, List.set_cons_zero, List.set_cons_succ]
  refine wpAnyH_take (i := 3) (oi := { dst := some 30, op := Op.fieldAddr 68 (Operand.tmp 29) 1, type := 0, pos := "chain.go:104", after := #[{ on := 2, ground := Ground.data }], guard := none }) (v := ?_) rfl (by kernel_rfl) (by kernel_rfl) (by kernel_rfl) (fun _ _ _ h => h) (Or.inl ⟨by rfl, ?_⟩) (by assumption) ?_
  rotate_left
  · intro W hSw
    obtain ⟨k8, k0, k1, k2, k3⟩ := hSw
    go_simp
    try with_reducible rfl
  simp only [Act.put, List.setIfInBounds_toArray, List.set_cons_zero, List.set_cons_succ]
  refine wpAnyH_take (i := 4) (oi := { dst := some 31, op := Op.load 66 (Operand.tmp 30), type := 66, pos := "chain.go:104", after := #[{ on := 3, ground := Ground.data }], guard := none }) (v := ?_) rfl (by kernel_rfl) (by kernel_rfl) (by kernel_rfl) (fun _ _ _ h => h) (Or.inl ⟨by rfl, ?_⟩) (by assumption) ?_
  rotate_left
  · intro W hSw
    obtain ⟨k8, k0, k1, k2, k3⟩ := hSw
    go_simp
    try with_reducible rfl
  simp only [Act.put, List.setIfInBounds_toArray, List.set_cons_zero, List.set_cons_succ]
  refine wpAnyH_take (i := 5) (oi := { dst := some 32, op := Op.move (Operand.tmp 8), type := 24, pos := "chain.go:104", after := #[], guard := none }) (v := ?_) rfl (by kernel_rfl) (by kernel_rfl) (by kernel_rfl) (fun _ _ _ h => h) (Or.inl ⟨by rfl, ?_⟩) (by assumption) ?_
  rotate_left
  · intro W hSw
    obtain ⟨k8, k0, k1, k2, k3⟩ := hSw
    go_simp
    try with_reducible rfl
  simp only [Act.put, List.setIfInBounds_toArray, List.set_cons_zero, List.set_cons_succ]
  refine wpAnyH_take (i := 6) (oi := { dst := some 33, op := Op.load 29 (Operand.tmp 4), type := 29, pos := "chain.go:104", after := #[], guard := none }) (v := ?_) rfl (by kernel_rfl) (by kernel_rfl) (by kernel_rfl) (fun _ _ _ h => h) (Or.inl ⟨by rfl, ?_⟩) (by assumption) ?_
  rotate_left
  · intro W hSw
    obtain ⟨k8, k0, k1, k2, k3⟩ := hSw
    go_simp
    try with_reducible rfl
  simp only [Act.put, List.setIfInBounds_toArray, List.set_cons_zero, List.set_cons_succ]
  refine wpAnyH_take (i := 7) (oi := { dst := some 34, op := Op.move (Operand.tmp 2), type := 24, pos := "chain.go:104", after := #[], guard := none }) (v := ?_) rfl (by kernel_rfl) (by kernel_rfl) (by kernel_rfl) (fun _ _ _ h => h) (Or.inl ⟨by rfl, ?_⟩) (by assumption) ?_
  rotate_left
  · intro W hSw
    obtain ⟨k8, k0, k1, k2, k3⟩ := hSw
    go_simp
    try with_reducible rfl
  simp only [Act.put, List.setIfInBounds_toArray, List.set_cons_zero, List.set_cons_succ]
  refine wpAnyH_take (i := 8) (oi := { dst := some 35, op := Op.build 31 #[(0, Operand.tmp 33), (1, Operand.tmp 34)], type := 31, pos := "chain.go:104", after := #[{ on := 6, ground := Ground.data }, { on := 7, ground := Ground.data }], guard := none }) (v := ?_) rfl (by kernel_rfl) (by kernel_rfl) (by kernel_rfl) (fun _ _ _ h => h) (Or.inl ⟨by rfl, ?_⟩) (by assumption) ?_
  rotate_left
  · intro W hSw
    obtain ⟨k8, k0, k1, k2, k3⟩ := hSw
    go_simp
    try with_reducible rfl
  simp only [Act.put, List.setIfInBounds_toArray, List.set_cons_zero, List.set_cons_succ]
  refine wpAnyH_ready (rs := [9]) (by kernel_rfl) (by simp) (AllReadyH.cons (o := { dst := some 36, op := Op.call { callee := Callee.value (Operand.func 29), args := #[Operand.tmp 35], argTypes := #[31] }, type := 9, pos := "chain.go:104", after := #[{ on := 8, ground := Ground.data }], guard := none }) rfl (fun K hK => ?_) AllReadyH.nil)
  refine step_callw (by rfl) 29 #[.agg #[.int .i64 wr_, .int .i64 t, .bool b, .string v, .int .u64 x]] (by go_simp) ?_
  refine (HEN.out _).mono ?_
  rintro z w5 ⟨rfl, hb⟩
  have HR5 := Lib.hid (HR4.out.later hb)
  have HK5 := Lib.hid (HK4.out.later hb)
  have HB5 := Lib.hid (stepB HB4.out hb)
  clear hb HR4 HK4 HB4
  refine ⟨_, rfl, hK.out _ _ (HGL.out _ _ _ HR5.out HK5.out) (fun hHeld2 => ?_)⟩
  clear hK K hHeld
  have hHeld := hHeld2
  clear hHeld2
  try simp only [Act.put, List.setIfInBounds_toArray, List.set_cons_zero, List.set_cons_succ]
  have HWR2 := Lib.hid (arwrite_any B a (27 + m) st1 S1 w5 HR5.out.ar hh HR9.out.1 HR9.out.2 E (by omega))
  rw [HWE.out] at HWR2
  refine wpAnyH_ready (rs := [10]) (by kernel_rfl) (by simp) (AllReadyH.cons (o := { dst := some 37, op := Op.call { callee := Callee.value (Operand.func 28), args := #[Operand.tmp 31, Operand.tmp 32, Operand.tmp 36], argTypes := #[66, 24, 9] }, type := 25, pos := "chain.go:104", after := #[{ on := 4, ground := Ground.data }, { on := 5, ground := Ground.data }, { on := 9, ground := Ground.data }, { on := 9, ground := Ground.chain }], guard := none }) rfl (fun K hK => ?_) AllReadyH.nil)
  refine step_callw (by rfl) 28 #[.pointer (some ⟨a, 0, none⟩), .int .u64 hh, .string E] (by go_simp) ?_
  refine HWR2.out.mono ?_
  rintro z w6 ⟨rfl, S2, g1, g2, g3⟩
  have HR6 := Lib.hid (HR5.out.step g1 g3)
  have HK6 := Lib.hid (HR5.out.ar.blk g3 HK5.out (by decide))
  have HE : Hid (∃ S', CR w6 B q cf a m (wrA (27 + m) hh E st1) S' ∧ (∀ k, S' k → S k ∨ w.heap.size ≤ k) ∧ FrS w w6 S) := ⟨S2, HR6.out, fun k hk => by
    rcases g2 k hk with h | h
    · rcases HS3.out k h with h | h
      · exact .inl h
      · exact .inr (Nat.le_trans HW3.out.1 h)
    · exact .inr (Nat.le_trans HW3.out.1 (Nat.le_trans HW3.out.2 (Nat.le_trans HB5.out.size h))), (HF3.out.trans (g3.pre HB5.out) (fun i hi => (HS3.out i hi).imp id (fun h => Nat.le_trans HW3.out.1 h)))⟩
  clear g1 g2 g3
  refine ⟨_, rfl, hK.out _ _ (HGL.out _ _ _ HR6.out HK6.out) (fun hHeld2 => ?_)⟩
  clear hK K hHeld
  have hHeld := hHeld2
  clear hHeld2
  try simp only [Act.put, List.setIfInBounds_toArray, List.set_cons_zero, List.set_cons_succ]
  refine wpAnyH_take (i := 11) (oi := { dst := some 6, op := Op.assign (Operand.tmp 27), type := 24, pos := "chain.go:104", after := #[{ on := 0, ground := Ground.data }, { on := 10, ground := Ground.chain }, { on := 0, ground := Ground.phase }, { on := 1, ground := Ground.textOnly Departure.lateStores }, { on := 2, ground := Ground.textOnly Departure.lateStores }, { on := 3, ground := Ground.textOnly Departure.lateStores }, { on := 4, ground := Ground.textOnly Departure.lateStores }, { on := 5, ground := Ground.textOnly Departure.lateStores }, { on := 6, ground := Ground.textOnly Departure.lateStores }, { on := 7, ground := Ground.textOnly Departure.lateStores }, { on := 8, ground := Ground.textOnly Departure.lateStores }, { on := 9, ground := Ground.textOnly Departure.lateStoresUnsure }, { on := 10, ground := Ground.textOnly Departure.lateStoresUnsure }], guard := none }) (v := ?_) rfl (by kernel_rfl) (by kernel_rfl) (by kernel_rfl) (fun _ _ _ h => h) (Or.inl ⟨by rfl, ?_⟩) (by assumption) ?_
  rotate_left
  · intro W hSw
    clear hSw
    go_simp
    try with_reducible rfl
  simp only [Act.put, List.setIfInBounds_toArray, List.set_cons_zero, List.set_cons_succ]
  refine wpAnyH_take (i := 12) (oi := { dst := some 7, op := Op.assign (Operand.tmp 37), type := 25, pos := "chain.go:104", after := #[{ on := 10, ground := Ground.data }, { on := 11, ground := Ground.chain }, { on := 0, ground := Ground.phase }, { on := 1, ground := Ground.phase }, { on := 2, ground := Ground.phase }, { on := 3, ground := Ground.phase }, { on := 4, ground := Ground.phase }, { on := 5, ground := Ground.phase }, { on := 6, ground := Ground.phase }, { on := 7, ground := Ground.phase }, { on := 8, ground := Ground.phase }, { on := 9, ground := Ground.phase }, { on := 10, ground := Ground.phase }, { on := 11, ground := Ground.phase }], guard := none }) (v := ?_) rfl (by kernel_rfl) (by kernel_rfl) (by kernel_rfl) (fun _ _ _ h => h) (Or.inl ⟨by rfl, ?_⟩) (by assumption) ?_
  rotate_left
  · intro W hSw
    clear hSw
    go_simp
    try with_reducible rfl
  simp only [Act.put, List.setIfInBounds_toArray, List.set_cons_zero, List.set_cons_succ]
  refine wpAnyH_done (by kernel_rfl) (NoPanic.normal ?_) _
  clear hHeld
  go_wp2
  go_ret2
  exact ⟨⟨rfl, HE.out⟩, HPU.out⟩
end Go.Proofs.Ytbncpfkoeahhpaa
