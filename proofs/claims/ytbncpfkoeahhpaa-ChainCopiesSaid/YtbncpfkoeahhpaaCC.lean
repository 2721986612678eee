/- What a slot's bytes tell. -/
import Derived.Test.YtbncpfkoeahhpaaCB
import Derived.Deep.WholeRow
namespace Go.Proofs.Ytbncpfkoeahhpaa
open Go.ChangeShapes Go.WideShapes Go.ChangeAt Go.RowKit Go.Maps
set_option linter.unusedVariables false
set_option linter.unusedSimpArgs false

theorem conv_to (s : ByteArray) (w : World) : ∃ c W', (convert 9 102 (.string s)).run Try.prog w = .ok (.slice (some ⟨w.heap.size, 0, none⟩) s.size c) W' ∧ RdB W' (some ⟨w.heap.size, 0, none⟩) s.size (sb s) ∧ Below w.heap.size w W' ∧ w.heap.size < W'.heap.size := by
  refine ⟨_, _, run_bytes_of_string w 9 102 5 s Try.underlying9 Try.underlying102 Try.underlying5, ⟨sb_len s, fun h => ⟨_, _, rfl, fun j hj => ?_⟩⟩, (Below.drew (Below.refl _ _)).alloc (Nat.le_refl _) _, ?_⟩
  · have hc : ∀ (C : Array Value) (f : Nat × Nat) (v : Value), C[j]? = some v → (w.drew.alloc (.cells C 5 f)).cell? ⟨w.heap.size, 0 + j, none⟩ = some v := fun C f v hv => by
      have hh : (w.drew.alloc (.cells C 5 f)).heap[w.heap.size]? = some (.cells C 5 f) := by
        show (w.heap.push (.cells C 5 f))[w.heap.size]? = _
        simp
      unfold World.cell?
      rw [hh]
      simp [hv]
    apply hc
    unfold bytesRow sb
    have hj' : j < s.data.size := hj
    rw [Array.getElem?_append_left (by simpa using hj')]
    simp only [List.getD_eq_getElem?_getD, List.getElem?_map, Array.getElem?_map, Array.getElem?_toList]
    rw [Array.getElem?_eq_getElem hj']
    simp
  · show w.heap.size < (w.heap.push _).size
    simp
theorem sb_bytes (s : ByteArray) : isBytes (sb s) := by
  intro i hi
  have hi' : i < s.data.toList.length := by unfold sb at hi; simpa using hi
  unfold sb
  simp only [List.getD_eq_getElem?_getD, List.getElem?_map, List.getElem?_eq_getElem hi', Option.map_some, Option.getD_some]
  have := (s.data.toList[i]).toNat_lt
  omega
theorem RdB.laterB {w w' : World} {g n : Nat} {bs : List Int} (h : RdB w (some ⟨g, 0, none⟩) n bs) (hb : Below w.heap.size w w') (hg : g < w.heap.size) : RdB w' (some ⟨g, 0, none⟩) n bs :=
  h.keep (fun p hp => by
    have h1 := hp _ rfl
    simp only at h1
    exact hb.cell (by rw [h1]; exact hg))
theorem built29 (wr_ t : Int) (b : Bool) (v : ByteArray) : Try.prog.built 29 [(0, .int .i64 wr_), (1, .int .i64 t), (2, .bool b), (3, .string v)] = some #[.int .i64 wr_, .int .i64 t, .bool b, .string v] := by kernel_rfl
theorem built31 (wr_ t : Int) (b : Bool) (v : ByteArray) (x : Int) : Try.prog.built 31 [(0, .agg #[.int .i64 wr_, .int .i64 t, .bool b, .string v]), (1, .int .u64 x)] = some #[.int .i64 wr_, .int .i64 t, .bool b, .string v, .int .u64 x] := by kernel_rfl
theorem getAt_in {bs : List Int} {n a k : Nat} (h : bs.length = n) (hk : a + k ≤ n) : getAt bs (a : Int) k = getI bs a k ∧ inB n (a : Int) k = true := by
  have h1 : inB n (a : Int) k = true := by unfold inB; exact decide_eq_true ⟨by omega, by omega⟩
  refine ⟨?_, h1⟩
  unfold getAt
  rw [h, if_pos h1]
  simp
/-- five cells stored, one by one -/
abbrev S5c (W : World) (g : Nat) (a b c d e : Value) : World := ((((W.setCell ⟨g, 0, none⟩ a).setCell ⟨g, 1, none⟩ b).setCell ⟨g, 2, none⟩ c).setCell ⟨g, 3, none⟩ d).setCell ⟨g, 4, none⟩ e
theorem S5c.blk {W : World} {g : Nat} {a b c d e a0 b0 c0 d0 e0 : Value} {t : TypeId} (k : Blk W g #[a0, b0, c0, d0, e0] t) : Blk (S5c W g a b c d e) g #[a, b, c, d, e] t := by
  have k0 : Blk _ g #[a, b0, c0, d0, e0] t := Blk.set (j := 0) k a
  have k1 : Blk _ g #[a, b, c0, d0, e0] t := Blk.set (j := 1) k0 b
  have k2 : Blk _ g #[a, b, c, d0, e0] t := Blk.set (j := 2) k1 c
  have k3 : Blk _ g #[a, b, c, d, e0] t := Blk.set (j := 3) k2 d
  have k4 : Blk _ g #[a, b, c, d, e] t := Blk.set (j := 4) k3 e
  exact k4
theorem S5c.grown (W : World) (g : Nat) (a b c d e : Value) : W.grownBy (S5c W g a b c d e) (some g) :=
  grown_trans (grown_set W g 0 a) (grown_trans (grown_set _ g 1 b) (grown_trans (grown_set _ g 2 c) (grown_trans (grown_set _ g 3 d) (grown_set _ g 4 e))))
/-- what the bytes of a text tell, as a version and the next one's handle -/
def decV (T : ByteArray) : ByteArray := T.extract 27 (27 + (dL T).toNat)
abbrev SD (g : Nat) (z : Int) (W : World) : Prop := W.cell? ⟨g, 24, none⟩ = some (.int .u8 z)
set_option maxRecDepth 100000 in
set_option maxHeartbeats 8000000 in
theorem decode_any (T : ByteArray) (w : World) (h27 : 27 ≤ T.size) (h5 : T.size ≤ 5000) (hL : 27 + dL T ≤ T.size) (hW : dW T ≤ 9223372036854775807) (hS : dS T ≤ 9223372036854775807) : Calls Try.prog 31 #[.string T] w fun e w' => e = .returned (.agg #[.int .i64 (dW T), .int .i64 (dS T), .bool (dT T), .string (decV T), .int .u64 (dN T)]) ∧ Below w.heap.size w w' := by
  have hL0 : 0 ≤ dL T := (getI_bound (sb_bytes T) 25 2).1
  have hW0 : 0 ≤ dW T := (getI_bound (sb_bytes T) 0 8).1
  have hS0 : 0 ≤ dS T := (getI_bound (sb_bytes T) 8 8).1
  have hg0 : getAt (sb T) 0 8 = dW T := (getAt_in (k := 8) (a := 0) (sb_len T) (by omega)).1
  have hi0 : inB T.size 0 8 = true := (getAt_in (k := 8) (a := 0) (sb_len T) (by omega)).2
  have hg1 : getAt (sb T) 8 8 = dS T := (getAt_in (k := 8) (a := 8) (sb_len T) (by omega)).1
  have hi1 : inB T.size 8 8 = true := (getAt_in (k := 8) (a := 8) (sb_len T) (by omega)).2
  have hg2 : getAt (sb T) 16 8 = dN T := (getAt_in (k := 8) (a := 16) (sb_len T) (by omega)).1
  have hi2 : inB T.size 16 8 = true := (getAt_in (k := 8) (a := 16) (sb_len T) (by omega)).2
  have hg3 : getAt (sb T) 25 2 = dL T := (getAt_in (k := 2) (a := 25) (sb_len T) (by omega)).1
  have hi3 : inB T.size 25 2 = true := (getAt_in (k := 2) (a := 25) (sb_len T) (by omega)).2
  obtain ⟨V, hV⟩ : ∃ V, decV T = V := ⟨_, rfl⟩
  obtain ⟨X, hX⟩ : ∃ X, T.extract 27 T.size = X := ⟨_, rfl⟩
  obtain ⟨l, hl⟩ : ∃ l : Nat, dL T = (l : Int) := ⟨(dL T).toNat, by omega⟩
  have hXs : X.size = T.size - 27 := by rw [← hX]; simp [ByteArray.size_extract]
  have HSL1 : Hid (∀ W, (Instr.slice 9 (.string T) (some (.int .i64 27)) none none).run Try.prog W = .ok (.string X) W) := fun W => by
    have q1 : (27 : Int) ≤ (T.size : Int) := by omega
    go_simp
    try rw [hX]
  have HSL2 : Hid (∀ W, (Instr.slice 9 (.string X) none (some (.int .u16 (l : Int))) none).run Try.prog W = .ok (.string V) W) := fun W => by
    have hxv : X.extract 0 l = V := by
      rw [← hV, ← hX]
      unfold decV
      rw [hl]
      apply ByteArray.ext
      simp only [ByteArray.data_extract, Array.extract_extract]
      congr 1
      have : T.data.size = T.size := rfl
      omega
    have q1 : (0 : Int) ≤ (l : Int) ∧ (l : Int) ≤ (X.size : Int) := by omega
    clear hX hl hXs
    go_simp
    try rw [hxv]
  obtain ⟨z, hz⟩ : ∃ z, (sb T).getD 24 0 = z := ⟨_, rfl⟩
  have HTB : Hid ((z == 1) = dT T) := by
    show _ = decide _
    rw [hz]
    by_cases h : z = 1 <;> simp [h]
  have HZ := Lib.hid hz
  rw [hV]
  obtain ⟨wv, hwv⟩ : ∃ x, dW T = x := ⟨_, rfl⟩
  obtain ⟨sv, hsv⟩ : ∃ x, dS T = x := ⟨_, rfl⟩
  obtain ⟨nv, hnv⟩ : ∃ x, dN T = x := ⟨_, rfl⟩
  obtain ⟨tb, htb⟩ : ∃ x, dT T = x := ⟨_, rfl⟩
  rw [hwv] at hg0 hW hW0
  rw [hsv] at hg1 hS hS0
  rw [hnv] at hg2
  rw [hl] at hg3
  rw [htb] at HTB
  rw [hwv, hsv, hnv, htb]
  have cw : IntKind.i64.wrap wv = wv := IntWalk.i64_in _ (by omega)
  have cs : IntKind.i64.wrap sv = sv := IntWalk.i64_in _ (by omega)
  have H27 : Hid (27 ≤ T.size ∧ T.size ≤ 5000) := ⟨h27, h5⟩
  have hb0 : Below w.heap.size w (w.alloc (.cells #[.int .i64 0, .int .i64 0, .bool false, .string { data := #[] }, .int .u64 0] 31)) := (Below.refl _ _).alloc (Nat.le_refl _) _
  have HK0 : Hid (Blk (w.alloc (.cells #[.int .i64 0, .int .i64 0, .bool false, .string { data := #[] }, .int .u64 0] 31)) w.heap.size #[.int .i64 0, .int .i64 0, .bool false, .string { data := #[] }, .int .u64 0] 31) := Blk.new _ _ _
  have HB0 := Lib.hid hb0
  clear hb0 hX hV hz hwv hsv hnv htb hXs hL hL0 hW hW0 hS hS0 hl
  go_enter Try.func31, Try.ntmps31
  go_upto_region 1 with (fail)
  generalize w.alloc (.cells #[.int .i64 0, .int .i64 0, .bool false, .string { data := #[] }, .int .u64 0] 31) = w1 at *
  obtain ⟨q, hq⟩ : ∃ q, w.heap.size = q := ⟨_, rfl⟩
  have HWQ : Hid (w.heap.size ≤ q) := by rw [hq]; exact Nat.le_refl _
  rw [hq] at HK0
  try rw [hq]
  clear hq
  obtain ⟨c, w2, hcv, hrd, hb, hlt⟩ := conv_to T w1
  have HRD := Lib.hid hrd
  have HB2 := Lib.hid (stepB HB0.out hb)
  have HK2 := Lib.hid (HK0.out.later hb)
  have HGL := Lib.hid hlt
  have HQG : Hid (q ≠ w1.heap.size) := by have := HK0.out.lt; show _ ≠ _; omega
  clear hrd hb hlt HK0 HB0
  go_upto_region 2 with (fail)
  clear hcv
  generalize w1.heap.size = g at *
  go_wp2_with fail
  refine (Get64_any (some ⟨g, 0, none⟩) T.size c 0 w2 (sb T) HRD.out (sb_bytes T) (by have := H27.out; omega)).mono ?_
  rintro e w3 ⟨rfl, rfl⟩
  rw [hg0, hi0]
  clear hg0 hi0
  go_wp2_with fail
  refine (Get64_any (some ⟨g, 0, none⟩) T.size c 8 w2 (sb T) HRD.out (sb_bytes T) (by have := H27.out; omega)).mono ?_
  rintro e w3 ⟨rfl, rfl⟩
  rw [hg1, hi1]
  clear hg1 hi1
  go_wp2_with fail
  refine (Get64_any (some ⟨g, 0, none⟩) T.size c 16 w2 (sb T) HRD.out (sb_bytes T) (by have := H27.out; omega)).mono ?_
  rintro e w3 ⟨rfl, rfl⟩
  rw [hg2, hi2]
  clear hg2 hi2
  go_wp2_with fail
  refine (Get16_any (some ⟨g, 0, none⟩) T.size c 25 w2 (sb T) HRD.out (sb_bytes T) (by have := H27.out; omega)).mono ?_
  rintro e w3 ⟨rfl, rfl⟩
  rw [hg3, hi3]
  clear hg3 hi3
  go_upto_region 6 with (fail)
  have sl1 := HSL1.out
  have sl2 := HSL2.out
  have hbt := built29 wv sv tb V
  have hbu := built31 wv sv tb V nv
  have i24 := idx102 g T.size c 24 24 rfl (by have := H27.out; omega)
  have tz := HTB.out
  have HC : Hid (∀ W, Below w2.heap.size w2 W → SD g z W) := fun W hb => by
    have h1 := (HRD.out.laterB hb HGL.out).2 (by have := H27.out; omega)
    obtain ⟨g2, off, hA, hc⟩ := h1
    cases hA
    have h2 := hc 24 (by have := H27.out; omega)
    rw [HZ.out, Nat.zero_add] at h2
    exact h2
  refine wp_region_noPanic ?_
  have hbd : Below w2.heap.size w2 w2.drew := Below.drew (Below.refl _ _)
  have HK3 := Lib.hid (HK2.out.later hbd)
  have HB3 := Lib.hid (stepB HB2.out hbd)
  have HC0 := Lib.hid (HC.out _ hbd)
  have HC3 : Hid (∀ W, Below w2.drew.heap.size w2.drew W → SD g z W) := fun W hb => HC.out W (stepB hbd hb)
  clear hbd HC HK2 HB2
  refine wp_region_held_drew (S := SD g z) (by kernel_rfl) HC0.out (fun hHeld => ?_)
  generalize w2.drew = w3 at *
  refine wpAnyH_take (i := 0) (oi := { dst := some 35, op := Op.move (Operand.tmp 4), type := 23, pos := "chain.go:76", after := #[], guard := none }) (v := ?_) rfl (by kernel_rfl) (by kernel_rfl) (by kernel_rfl) (fun _ _ _ h => h) (Or.inl ⟨by rfl, ?_⟩) (by assumption) ?_
  rotate_left
  · intro W hSw
    clear hSw
    go_simp
    try with_reducible rfl
  simp only [Act.put, List.setIfInBounds_toArray, List.set_cons_zero, List.set_cons_succ]
  refine wpAnyH_take (i := 1) (oi := { dst := some 36, op := Op.convert 23 3 (Operand.tmp 35), type := 3, pos := "chain.go:76", after := #[{ on := 0, ground := Ground.data }], guard := none }) (v := ?_) rfl (by kernel_rfl) (by kernel_rfl) (by kernel_rfl) (fun _ _ _ h => h) (Or.inl ⟨by rfl, ?_⟩) (by assumption) ?_
  rotate_left
  · intro W hSw
    clear hSw
    go_simp
    try with_reducible rfl
  simp only [Act.put, List.setIfInBounds_toArray, List.set_cons_zero, List.set_cons_succ]
  refine wpAnyH_take (i := 2) (oi := { dst := some 37, op := Op.move (Operand.tmp 6), type := 23, pos := "chain.go:76", after := #[], guard := none }) (v := ?_) rfl (by kernel_rfl) (by kernel_rfl) (by kernel_rfl) (fun _ _ _ h => h) (Or.inl ⟨by rfl, ?_⟩) (by assumption) ?_
  rotate_left
  · intro W hSw
    clear hSw
    go_simp
    try with_reducible rfl
  simp only [Act.put, List.setIfInBounds_toArray, List.set_cons_zero, List.set_cons_succ]
  refine wpAnyH_take (i := 3) (oi := { dst := some 38, op := Op.convert 23 3 (Operand.tmp 37), type := 3, pos := "chain.go:76", after := #[{ on := 2, ground := Ground.data }], guard := none }) (v := ?_) rfl (by kernel_rfl) (by kernel_rfl) (by kernel_rfl) (fun _ _ _ h => h) (Or.inl ⟨by rfl, ?_⟩) (by assumption) ?_
  rotate_left
  · intro W hSw
    clear hSw
    go_simp
    try with_reducible rfl
  simp only [Act.put, List.setIfInBounds_toArray, List.set_cons_zero, List.set_cons_succ]
  refine wpAnyH_take (i := 4) (oi := { dst := some 39, op := Op.move (Operand.tmp 3), type := 102, pos := "chain.go:76", after := #[], guard := none }) (v := ?_) rfl (by kernel_rfl) (by kernel_rfl) (by kernel_rfl) (fun _ _ _ h => h) (Or.inl ⟨by rfl, ?_⟩) (by assumption) ?_
  rotate_left
  · intro W hSw
    clear hSw
    go_simp
    try with_reducible rfl
  simp only [Act.put, List.setIfInBounds_toArray, List.set_cons_zero, List.set_cons_succ]
  refine wpAnyH_take (i := 5) (oi := { dst := some 40, op := Op.indexAddr 102 (Operand.tmp 39) (Operand.const (Value.int IntKind.i64 24)), type := 0, pos := "chain.go:76", after := #[{ on := 4, ground := Ground.data }], guard := none }) (v := ?_) rfl (by kernel_rfl) (by kernel_rfl) (by kernel_rfl) (fun _ _ _ h => h) (Or.inl ⟨by rfl, ?_⟩) (by assumption) ?_
  rotate_left
  · intro W hSw
    clear hSw
    go_simp
    try with_reducible rfl
  simp only [Act.put, List.setIfInBounds_toArray, List.set_cons_zero, List.set_cons_succ]
  refine wpAnyH_take (i := 6) (oi := { dst := some 41, op := Op.load 5 (Operand.tmp 40), type := 5, pos := "chain.go:76", after := #[{ on := 5, ground := Ground.data }], guard := none }) (v := ?_) rfl (by kernel_rfl) (by kernel_rfl) (by kernel_rfl) (fun _ _ _ h => h) (Or.inl ⟨by rfl, ?_⟩) (by assumption) ?_
  rotate_left
  · intro W hSw
    have k24 : W.cell? ⟨g, 24, none⟩ = some (.int .u8 z) := hSw
    go_simp
    try with_reducible rfl
  simp only [Act.put, List.setIfInBounds_toArray, List.set_cons_zero, List.set_cons_succ]
  refine wpAnyH_take (i := 7) (oi := { dst := some 42, op := Op.binOp BinOp.eql 5 (Operand.tmp 41) (Operand.const (Value.int IntKind.u8 1)) 5, type := 4, pos := "chain.go:76", after := #[{ on := 6, ground := Ground.data }], guard := none }) (v := ?_) rfl (by kernel_rfl) (by kernel_rfl) (by kernel_rfl) (fun _ _ _ h => h) (Or.inl ⟨by rfl, ?_⟩) (by assumption) ?_
  rotate_left
  · intro W hSw
    clear hSw
    go_simp
    try with_reducible rfl
  simp only [Act.put, List.setIfInBounds_toArray, List.set_cons_zero, List.set_cons_succ]
  refine wpAnyH_take (i := 8) (oi := { dst := some 43, op := Op.move (Operand.tmp 0), type := 9, pos := "chain.go:76", after := #[], guard := none }) (v := ?_) rfl (by kernel_rfl) (by kernel_rfl) (by kernel_rfl) (fun _ _ _ h => h) (Or.inl ⟨by rfl, ?_⟩) (by assumption) ?_
  rotate_left
  · intro W hSw
    clear hSw
    go_simp
    try with_reducible rfl
  simp only [Act.put, List.setIfInBounds_toArray, List.set_cons_zero, List.set_cons_succ]
  refine wpAnyH_take (i := 9) (oi := { dst := some 44, op := Op.slice 9 (Operand.tmp 43) (some (Operand.const (Value.int IntKind.i64 27))) none none, type := 9, pos := "chain.go:76", after := #[{ on := 8, ground := Ground.data }], guard := none }) (v := ?_) rfl (by kernel_rfl) (by kernel_rfl) (by kernel_rfl) (fun _ _ _ h => h) (Or.inl ⟨by rfl, ?_⟩) (by assumption) ?_
  rotate_left
  · intro W hSw
    clear hSw
    go_simp
    try with_reducible rfl
  simp only [Act.put, List.setIfInBounds_toArray, List.set_cons_zero, List.set_cons_succ]
  refine wpAnyH_take (i := 10) (oi := { dst := some 45, op := Op.move (Operand.tmp 10), type := 87, pos := "chain.go:76", after := #[], guard := none }) (v := ?_) rfl (by kernel_rfl) (by kernel_rfl) (by kernel_rfl) (fun _ _ _ h => h) (Or.inl ⟨by rfl, ?_⟩) (by assumption) ?_
  rotate_left
  · intro W hSw
    clear hSw
    go_simp
    try with_reducible rfl
  simp only [Act.put, List.setIfInBounds_toArray, List.set_cons_zero, List.set_cons_succ]
  refine wpAnyH_take (i := 11) (oi := { dst := some 46, op := Op.slice 9 (Operand.tmp 44) none (some (Operand.tmp 45)) none, type := 9, pos := "chain.go:76", after := #[{ on := 9, ground := Ground.data }, { on := 10, ground := Ground.data }], guard := none }) (v := ?_) rfl (by kernel_rfl) (by kernel_rfl) (by kernel_rfl) (fun _ _ _ h => h) (Or.inl ⟨by rfl, ?_⟩) (by assumption) ?_
  rotate_left
  · intro W hSw
    clear hSw
    go_simp
    try with_reducible rfl
  simp only [Act.put, List.setIfInBounds_toArray, List.set_cons_zero, List.set_cons_succ]
  refine wpAnyH_take (i := 12) (oi := { dst := some 47, op := Op.build 29 #[(0, Operand.tmp 36), (1, Operand.tmp 38), (2, Operand.tmp 42), (3, Operand.tmp 46)], type := 29, pos := "chain.go:76", after := #[{ on := 1, ground := Ground.data }, { on := 3, ground := Ground.data }, { on := 7, ground := Ground.data }, { on := 11, ground := Ground.data }], guard := none }) (v := ?_) rfl (by kernel_rfl) (by kernel_rfl) (by kernel_rfl) (fun _ _ _ h => h) (Or.inl ⟨by rfl, ?_⟩) (by assumption) ?_
  rotate_left
  · intro W hSw
    clear hSw
    go_simp
    try with_reducible rfl
  simp only [Act.put, List.setIfInBounds_toArray, List.set_cons_zero, List.set_cons_succ]
  refine wpAnyH_ready (rs := [13]) (by kernel_rfl) (by simp) (AllReadyH.cons (o := { dst := some 12, op := Op.alloc 29, type := 0, pos := "chain.go:76", after := #[], guard := none }) rfl (fun K hK => ?_) AllReadyH.nil)
  go_simp
  have hby : Below w3.heap.size w3 (w3.alloc (.cells #[.int .i64 0, .int .i64 0, .bool false, .string { data := #[] }] 29)) := (Below.refl _ _).alloc (Nat.le_refl _) _
  refine hK.out _ _ (HC3.out _ hby) (fun hHeld2 => ?_)
  clear hK K
  try clear hHeld
  have hHeld := hHeld2
  clear hHeld2 hby
  try simp only [Act.put, List.setIfInBounds_toArray, List.set_cons_zero, List.set_cons_succ]
  have hsn := run_storeCells_new (P := Try.prog) w3 29 #[.int .i64 0, .int .i64 0, .bool false, .string { data := #[] }] #[.int .i64 wv, .int .i64 sv, .bool tb, .string V] (by kernel_rfl) (by first | rfl | simp) (by first | rfl | (simp; done) | kernel_rfl)
  try simp only [List.toList_toArray] at hsn
  refine wpAnyH_ready (rs := [14]) (by kernel_rfl) (by simp) (AllReadyH.cons (o := { dst := none, op := Op.store 29 (Operand.tmp 12) (Operand.tmp 47), type := 0, pos := "chain.go:76", after := #[{ on := 13, ground := Ground.data }, { on := 12, ground := Ground.data }, { on := 0, ground := Ground.phase }, { on := 1, ground := Ground.phase }, { on := 2, ground := Ground.phase }, { on := 3, ground := Ground.phase }, { on := 4, ground := Ground.phase }, { on := 5, ground := Ground.phase }, { on := 6, ground := Ground.phase }, { on := 7, ground := Ground.phase }, { on := 8, ground := Ground.phase }, { on := 9, ground := Ground.phase }, { on := 10, ground := Ground.phase }, { on := 11, ground := Ground.phase }, { on := 12, ground := Ground.phase }, { on := 13, ground := Ground.phase }], guard := none }) rfl (fun K hK => ?_) AllReadyH.nil)
  go_simp
  have hby : Below w3.heap.size w3 (w3.alloc (.cells #[.int .i64 wv, .int .i64 sv, .bool tb, .string V] 29)) := (Below.refl _ _).alloc (Nat.le_refl _) _
  have HK4 := Lib.hid (HK3.out.later hby)
  have HB4 := Lib.hid (stepB HB3.out hby)
  have HN4 : Hid (Blk (w3.alloc (.cells #[.int .i64 wv, .int .i64 sv, .bool tb, .string V] 29)) w3.heap.size #[.int .i64 wv, .int .i64 sv, .bool tb, .string V] 29) := Blk.new _ _ _
  refine hK.out _ _ (HC3.out _ hby) (fun hHeld2 => ?_)
  clear hK K hsn hby
  try clear hHeld
  try simp only [Act.put, List.setIfInBounds_toArray, List.set_cons_zero, List.set_cons_succ]
  refine wpAnyH_done (by kernel_rfl) (NoPanic.normal ?_) _
  clear hHeld2 HC3 HC0 HK3 HB3 sl1 sl2 i24 tz cw cs HSL1 HSL2 HTB HZ hbt
  generalize w3.alloc (.cells #[.int .i64 wv, .int .i64 sv, .bool tb, .string V] 29) = w4 at *
  generalize w3.heap.size = gn at *
  have a0 := HN4.out.cell 0
  have a1 := HN4.out.cell 1
  have a2 := HN4.out.cell 2
  have a3 := HN4.out.cell 3
  have c0 := HK4.out.cell 0
  have c1 := HK4.out.cell 1
  have c2 := HK4.out.cell 2
  have c3 := HK4.out.cell 3
  have c4 := HK4.out.cell 4
  have f := HK4.out.frozen
  have hlq := HK4.out.lt
  simp only [List.getElem?_toArray, List.getElem?_cons_zero, List.getElem?_cons_succ] at a0 a1 a2 a3 c0 c1 c2 c3 c4
  have HF := Lib.hid (S5c.blk (a := .int .i64 wv) (b := .int .i64 sv) (c := .bool tb) (d := .string V) (e := .int .u64 nv) HK4.out)
  have HBF : Hid (Below w.heap.size w (S5c w4 q (.int .i64 wv) (.int .i64 sv) (.bool tb) (.string V) (.int .u64 nv))) := HB4.out.grown (S5c.grown w4 q _ _ _ _ _) HB4.out.size (fun j e => by injection e with e; rw [← e]; exact HWQ.out)
  go_wp2
  refine bodyPost_ret (results_cell_row rfl _ _ q 31 _ (0, 0) _ rfl HF.out Try.underlying31 rfl (by kernel_rfl)) rfl ?_
  exact ⟨rfl, HBF.out⟩
end Go.Proofs.Ytbncpfkoeahhpaa
