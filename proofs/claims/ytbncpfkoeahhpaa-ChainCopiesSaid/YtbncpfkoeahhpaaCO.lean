/- The examples. -/
import Derived.Test.YtbncpfkoeahhpaaCN
namespace Go.Proofs.Ytbncpfkoeahhpaa
open Go.ChangeShapes Go.WideShapes Go.ChangeAt Go.RowKit Go.Maps
set_option linter.unusedVariables false
set_option linter.unusedSimpArgs false

def one : Vn := (1, 0, false, { data := #[97] })
def one7 : Vn := (1, 7, false, { data := #[97] })
def two : Vn := (2, 0, true, { data := #[] })
theorem blk_rsl {W : World} {g : Nat} {L : List Vn} {t : TypeId} (h : Blk W g (rv vec L).toArray t) : RSl vec 4 W (some ⟨g, 0, none⟩) L.length L :=
  ⟨rfl, fun _ => ⟨g, 0, rfl, h.lt, fun j x hx i hi => by
    rw [h.cell, List.getElem?_toArray, Nat.zero_add]
    exact rv_at vec_len L j i x hx hi⟩⟩
theorem isA0 (x : Int) : isA (0, [], []) x = false := by simp [isA]
abbrev SAw (p1 p2 : Nat) (ts : Int) (W : World) : Prop := W.cell? ⟨p1, 0, none⟩ = some (.int .i64 1) ∧ W.cell? ⟨p1, 1, none⟩ = some (.int .i64 ts) ∧ W.cell? ⟨p1, 2, none⟩ = some (.bool false) ∧ W.cell? ⟨p1, 3, none⟩ = some (.string { data := #[97] }) ∧ W.cell? ⟨p2, 0, none⟩ = some (.int .i64 2) ∧ W.cell? ⟨p2, 1, none⟩ = some (.int .i64 0) ∧ W.cell? ⟨p2, 2, none⟩ = some (.bool true) ∧ W.cell? ⟨p2, 3, none⟩ = some (.string { data := #[] })
theorem saw_of {p1 p2 : Nat} {ts : Int} {W : World} (h : Blk W p1 #[.int .i64 1, .int .i64 ts, .bool false, .string { data := #[97] }] 29) (k : Blk W p2 #[.int .i64 2, .int .i64 0, .bool true, .string { data := #[] }] 29) : SAw p1 p2 ts W := ⟨h.cell 0, h.cell 1, h.cell 2, h.cell 3, k.cell 0, k.cell 1, k.cell 2, k.cell 3⟩
set_option maxRecDepth 100000 in
set_option maxHeartbeats 16000000 in
theorem awake_any (w : World) : Calls Try.prog 10 #[] w fun e w' => e = .returned (.bool true) ∧ Below w.heap.size w w' := by
  have hbt1 : Try.prog.built 29 [(0, .int .i64 1), (3, .string { data := #[97] })] = some #[.int .i64 1, .int .i64 0, .bool false, .string { data := #[97] }] := by kernel_rfl
  have hbt2 : Try.prog.built 29 [(0, .int .i64 2), (2, .bool true)] = some #[.int .i64 2, .int .i64 0, .bool true, .string { data := #[] }] := by kernel_rfl
  have hbt3 : Try.prog.built 29 [(0, .int .i64 1), (3, .string { data := #[97, 98, 99, 100] })] = some #[.int .i64 1, .int .i64 0, .bool false, .string { data := #[97, 98, 99, 100] }] := by kernel_rfl
  go_enter Try.func10, Try.ntmps10
  go_wp2_with fail
  refine (some_any _).mono ?_
  rintro e w1 ⟨rfl, hb⟩
  have HB1 := Lib.hid hb
  clear hb
  go_wp2_with fail
  refine (xnew cS 3 w1 cS_may rfl (fun _ => nd0)).mono ?_
  rintro e w2 ⟨q, a, S0, rfl, hx, hb⟩
  have HX2 := Lib.hid hx
  have HB2 := Lib.hid (stepB HB1.out hb)
  clear hx hb
  go_upto_region 6 with (fail)
  obtain ⟨p1, hp1⟩ : ∃ p, w2.heap.size = p := ⟨_, rfl⟩
  have hb3 : Below w2.heap.size w2 ((w2.alloc (.cells #[.int .i64 1, .int .i64 0, .bool false, .string { data := #[97] }] 29)).alloc (.cells #[.int .i64 2, .int .i64 0, .bool true, .string { data := #[] }] 29)) := ((Below.refl _ w2).alloc (Nat.le_refl _) _).alloc (by simp) _
  have hk1 : Blk ((w2.alloc (.cells #[.int .i64 1, .int .i64 0, .bool false, .string { data := #[97] }] 29)).alloc (.cells #[.int .i64 2, .int .i64 0, .bool true, .string { data := #[] }] 29)) p1 #[.int .i64 1, .int .i64 0, .bool false, .string { data := #[97] }] 29 := by rw [← hp1]; exact (Blk.new w2 _ 29).alloc _
  have hk2 : Blk ((w2.alloc (.cells #[.int .i64 1, .int .i64 0, .bool false, .string { data := #[97] }] 29)).alloc (.cells #[.int .i64 2, .int .i64 0, .bool true, .string { data := #[] }] 29)) (p1 + 1) #[.int .i64 2, .int .i64 0, .bool true, .string { data := #[] }] 29 := by
    have := Blk.new (w2.alloc (.cells #[.int .i64 1, .int .i64 0, .bool false, .string { data := #[97] }] 29)) #[.int .i64 2, .int .i64 0, .bool true, .string { data := #[] }] 29
    rw [World.size_alloc, hp1] at this
    exact this
  have HX3 := Lib.hid (HX2.out.later hb3)
  have HB3 := Lib.hid (stepB HB2.out hb3)
  have HK1 := Lib.hid hk1
  have HK2 := Lib.hid hk2
  have HWB : Hid (w.heap.size ≤ w1.heap.size) := HB1.out.size
  have HP1 : Hid (w.heap.size ≤ p1) := by rw [← hp1]; exact HB2.out.size
  rw [hp1]
  generalize ((w2.alloc (.cells #[.int .i64 1, .int .i64 0, .bool false, .string { data := #[97] }] 29)).alloc (.cells #[.int .i64 2, .int .i64 0, .bool true, .string { data := #[] }] 29)) = w3 at *
  clear hb3 hk1 hk2 hp1 HX2 HB2 hbt1 hbt2
  try clear c0 c1 c2 c3
  have c0 := HK1.out.cell 0
  have c1 := HK1.out.cell 1
  have c2 := HK1.out.cell 2
  have c3 := HK1.out.cell 3
  try clear d0 d1 d2 d3
  have d0 := HK2.out.cell 0
  have d1 := HK2.out.cell 1
  have d2 := HK2.out.cell 2
  have d3 := HK2.out.cell 3
  simp only [List.getElem?_toArray, List.getElem?_cons_zero, List.getElem?_cons_succ] at c0 c1 c2 c3 d0 d1 d2 d3
  go_wp2_with fail
  refine (xmake w1.heap.size q cS a 3 (0, [], []) S0 (fun _ => nd0) [] 0 w3 HX3.out 1 0 false { data := #[97] } 0 (by decide) (by decide) (by decide) ⟨by decide, by decide⟩ (by decide)).mono ?_
  rintro e w4 ⟨y1, ⟨hr1, _, _, _⟩, rfl, st1, S1, hx, his, hs, hf⟩
  have HX4 := Lib.hid hx
  have HB4 : Hid (Below w.heap.size w w4) := HX3.out.cr.ar.frBelow hf HB3.out HWB.out HB3.out.size
  replace HK1 := Lib.hid (HX3.out.cr.ar.blk hf HK1.out (by decide))
  replace HK2 := Lib.hid (HX3.out.cr.ar.blk hf HK2.out (by decide))
  clear HX3 HB3
  have HR1 := Lib.hid hr1
  have HI1 : Hid (∀ x, hR x → isA st1 x = decide (x = y1)) := fun x hx => by have e := his x hx; simp only at e; rw [e, isA0, Bool.false_or]
  clear hx his hs hf hr1
  try clear c0 c1 c2 c3
  have c0 := HK1.out.cell 0
  have c1 := HK1.out.cell 1
  have c2 := HK1.out.cell 2
  have c3 := HK1.out.cell 3
  try clear d0 d1 d2 d3
  have d0 := HK2.out.cell 0
  have d1 := HK2.out.cell 1
  have d2 := HK2.out.cell 2
  have d3 := HK2.out.cell 3
  simp only [List.getElem?_toArray, List.getElem?_cons_zero, List.getElem?_cons_succ] at c0 c1 c2 c3 d0 d1 d2 d3
  go_wp2_with fail
  refine (xmake w1.heap.size q cS a 3 st1 S1 _ _ 1 w4 HX4.out 2 0 true { data := #[] } y1 (by decide) (by decide) (by decide) HR1.out (by decide)).mono ?_
  rintro e w5 ⟨y2, ⟨hr2, hm2, hno, _⟩, rfl, st2, S2, hx, his, hs, hf⟩
  have HX5 := Lib.hid hx
  have HB5 : Hid (Below w.heap.size w w5) := HX4.out.cr.ar.frBelow hf HB4.out HWB.out HB4.out.size
  replace HK1 := Lib.hid (HX4.out.cr.ar.blk hf HK1.out (by decide))
  replace HK2 := Lib.hid (HX4.out.cr.ar.blk hf HK2.out (by decide))
  clear HX4 HB4
  have HR2 := Lib.hid hr2
  have hne : y2 ≠ y1 := fun e => hm2 (by rw [e]; simp)
  have HNE := Lib.hid hne
  have HI2 : Hid (∀ x, hR x → isA st2 x = (decide (x = y1) || decide (x = y2))) := fun x hx => by have e := his x hx; simp only at e; rw [e, HI1.out x hx]
  obtain ⟨nd2, hnd2⟩ : ∃ nd, setN (setN (fun _ => nd0) y1 ((1, 0, false, { data := #[97] }), 0)) y2 ((2, 0, true, { data := #[] }), y1) = nd := ⟨_, rfl⟩
  rw [hnd2] at HX5
  have HN2 : Hid (nd2 y2 = (two, y1) ∧ nd2 y1 = (one, 0)) := by
    refine ⟨by rw [← hnd2]; unfold setN; rw [if_pos rfl]; rfl, ?_⟩
    rw [← hnd2]; unfold setN; rw [if_neg (fun e => hne e.symm), if_pos rfl]; rfl
  have HU2 := Lib.hid (show (([] : List Int) ++ [y1]) ++ [y2] = [y1, y2] by simp)
  rw [HU2.out] at HX5
  have HUS := Lib.hid (show usA st2 = 2 by
    have e1 := HI2.out y1 HR1.out
    have e2 := HI2.out y2 HR2.out
    rw [HX5.out.us (by decide), List.countP_cons, List.countP_cons, List.countP_nil, e1, e2]
    simp)
  have HL2 := Lib.hid (show lsF st2 nd2 2 y2 = [two, one] by
    rw [lsF, HI2.out y2 HR2.out, if_pos (by simp), HN2.out.1, lsF, HI2.out y1 HR1.out, if_pos (by simp), HN2.out.2]
    rfl)
  clear hx his hs hf hr2 hm2 hno hne hnd2
  try clear c0 c1 c2 c3 d0 d1 d2 d3
  go_upto_region 8 with (fail)
  go_cut [56] (fun s56 wx => s56 = .bool false ∧ ∃ st3 S3 nd3, CX wx w1.heap.size q cS a 3 st3 S3 nd3 [y1, y2] 2 ∧ (∀ x, hR x → isA st3 x = (decide (x = y1) || decide (x = y2))) ∧ nd3 y2 = (two, y1) ∧ nd3 y1 = (one7, 0) ∧ Below w.heap.size w wx ∧ Blk wx p1 #[.int .i64 1, .int .i64 0, .bool false, .string { data := #[97] }] 29 ∧ Blk wx (p1 + 1) #[.int .i64 2, .int .i64 0, .bool true, .string { data := #[] }] 29)
  case first =>
    refine wp_region_noPanic ?_
    have hbd : Below w5.heap.size w5 w5.drew := Below.drew (Below.refl _ _)
    have HXc := Lib.hid (HX5.out.later hbd)
    have HBc := Lib.hid (stepB HB5.out hbd)
    replace HK1 := Lib.hid (HK1.out.later hbd)
    replace HK2 := Lib.hid (HK2.out.later hbd)
    clear hbd HX5 HB5
    refine wp_region_held_drew (S := SAw p1 (p1 + 1) 0) (by kernel_rfl) (saw_of HK1.out HK2.out) (fun hHeld => ?_)
    generalize w5.drew = wc at *
    refine wpAnyH_take (i := 0) (oi := { dst := some 35, op := Op.move (Operand.tmp 6), type := 25, pos := "outright.go:26", after := #[], guard := none }) (v := ?_) rfl (by kernel_rfl) (by kernel_rfl) (by kernel_rfl) (fun _ _ _ h => h) (Or.inl ⟨by rfl, ?_⟩) (by assumption) ?_
    rotate_left
    · intro W hSw
      clear hSw
      go_simp
      try with_reducible rfl
    simp only [Act.put, List.setIfInBounds_toArray, List.set_cons_zero, List.set_cons_succ]
    refine wpAnyH_take (i := 1) (oi := { dst := some 36, op := Op.binOp BinOp.neq 25 (Operand.tmp 35) (Operand.const (Value.int IntKind.i64 0)) 25, type := 4, pos := "outright.go:26", after := #[{ on := 0, ground := Ground.data }], guard := none }) (v := ?_) rfl (by kernel_rfl) (by kernel_rfl) (by kernel_rfl) (fun _ _ _ h => h) (Or.inl ⟨by rfl, ?_⟩) (by assumption) ?_
    rotate_left
    · intro W hSw
      clear hSw
      go_simp
      try with_reducible rfl
    simp only [Act.put, List.setIfInBounds_toArray, List.set_cons_zero, List.set_cons_succ]
    refine wpAnyH_take (i := 2) (oi := { dst := some 37, op := Op.move (Operand.tmp 36), type := 4, pos := "outright.go:26", after := #[{ on := 1, ground := Ground.data }], guard := none }) (v := ?_) rfl (by kernel_rfl) (by kernel_rfl) (by kernel_rfl) (fun _ _ _ h => h) (Or.inl ⟨by rfl, ?_⟩) (by assumption) ?_
    rotate_left
    · intro W hSw
      clear hSw
      go_simp
      try with_reducible rfl
    simp only [Act.put, List.setIfInBounds_toArray, List.set_cons_zero, List.set_cons_succ]
    refine wpAnyH_take (i := 3) (oi := { dst := some 38, op := Op.move (Operand.tmp 8), type := 25, pos := "outright.go:26", after := #[{ on := 2, ground := Ground.guard }], guard := some (2, false) }) (v := ?_) rfl (by kernel_rfl) (by kernel_rfl) (by kernel_rfl) (fun _ _ _ h => h) (Or.inl ⟨by rfl, ?_⟩) (by assumption) ?_
    rotate_left
    · intro W hSw
      clear hSw
      go_simp
      try with_reducible rfl
    simp only [Act.put, List.setIfInBounds_toArray, List.set_cons_zero, List.set_cons_succ]
    refine wpAnyH_take (i := 4) (oi := { dst := some 39, op := Op.binOp BinOp.neq 25 (Operand.tmp 38) (Operand.const (Value.int IntKind.i64 0)) 25, type := 4, pos := "outright.go:26", after := #[{ on := 3, ground := Ground.data }, { on := 2, ground := Ground.guard }], guard := some (2, false) }) (v := ?_) rfl (by kernel_rfl) (by kernel_rfl) (by kernel_rfl) (fun _ _ _ h => h) (Or.inl ⟨by rfl, ?_⟩) (by assumption) ?_
    rotate_left
    · intro W hSw
      clear hSw
      go_simp
      try with_reducible rfl
    simp only [Act.put, List.setIfInBounds_toArray, List.set_cons_zero, List.set_cons_succ]
    refine wpAnyH_take (i := 5) (oi := { dst := some 40, op := Op.pick (Operand.tmp 37) (Operand.const (Value.bool true)) (Operand.tmp 39), type := 4, pos := "outright.go:26", after := #[{ on := 2, ground := Ground.data }, { on := 4, ground := Ground.data }], guard := none }) (v := ?_) rfl (by kernel_rfl) (by kernel_rfl) (by kernel_rfl) (fun _ _ _ h => h) (Or.inl ⟨by rfl, ?_⟩) (by assumption) ?_
    rotate_left
    · intro W hSw
      clear hSw
      go_simp
      try with_reducible rfl
    simp only [Act.put, List.setIfInBounds_toArray, List.set_cons_zero, List.set_cons_succ]
    refine wpAnyH_take (i := 6) (oi := { dst := some 41, op := Op.move (Operand.tmp 40), type := 4, pos := "outright.go:26", after := #[{ on := 5, ground := Ground.data }, { on := 2, ground := Ground.chain }], guard := none }) (v := ?_) rfl (by kernel_rfl) (by kernel_rfl) (by kernel_rfl) (fun _ _ _ h => h) (Or.inl ⟨by rfl, ?_⟩) (by assumption) ?_
    rotate_left
    · intro W hSw
      clear hSw
      go_simp
      try with_reducible rfl
    simp only [Act.put, List.setIfInBounds_toArray, List.set_cons_zero, List.set_cons_succ]
    refine wpAnyH_take (i := 7) (oi := { dst := some 42, op := Op.move (Operand.tmp 1), type := 22, pos := "outright.go:26", after := #[{ on := 6, ground := Ground.guard }], guard := some (6, false) }) (v := ?_) rfl (by kernel_rfl) (by kernel_rfl) (by kernel_rfl) (fun _ _ _ h => h) (Or.inl ⟨by rfl, ?_⟩) (by assumption) ?_
    rotate_left
    · intro W hSw
      clear hSw
      go_simp
      try with_reducible rfl
    simp only [Act.put, List.setIfInBounds_toArray, List.set_cons_zero, List.set_cons_succ]
    refine wpAnyH_take (i := 8) (oi := { dst := some 43, op := Op.move (Operand.tmp 7), type := 24, pos := "outright.go:26", after := #[{ on := 6, ground := Ground.guard }], guard := some (6, false) }) (v := ?_) rfl (by kernel_rfl) (by kernel_rfl) (by kernel_rfl) (fun _ _ _ h => h) (Or.inl ⟨by rfl, ?_⟩) (by assumption) ?_
    rotate_left
    · intro W hSw
      clear hSw
      go_simp
      try with_reducible rfl
    simp only [Act.put, List.setIfInBounds_toArray, List.set_cons_zero, List.set_cons_succ]
    refine wpAnyH_take (i := 10) (oi := { dst := some 45, op := Op.load 29 (Operand.tmp 4), type := 29, pos := "outright.go:26", after := #[{ on := 6, ground := Ground.guard }], guard := some (6, false) }) (v := ?_) rfl (by kernel_rfl) (by kernel_rfl) (by kernel_rfl) (fun _ _ _ h => h) (Or.inl ⟨by rfl, ?_⟩) (by assumption) ?_
    rotate_left
    · intro W hSw
      obtain ⟨k0, k1, k2, k3, j0, j1, j2, j3⟩ := hSw
      go_simp
      try with_reducible rfl
    simp only [Act.put, List.setIfInBounds_toArray, List.set_cons_zero, List.set_cons_succ]
    refine wpAnyH_take (i := 11) (oi := { dst := some 46, op := Op.load 29 (Operand.tmp 3), type := 29, pos := "outright.go:26", after := #[{ on := 6, ground := Ground.guard }], guard := some (6, false) }) (v := ?_) rfl (by kernel_rfl) (by kernel_rfl) (by kernel_rfl) (fun _ _ _ h => h) (Or.inl ⟨by rfl, ?_⟩) (by assumption) ?_
    rotate_left
    · intro W hSw
      obtain ⟨k0, k1, k2, k3, j0, j1, j2, j3⟩ := hSw
      go_simp
      try with_reducible rfl
    simp only [Act.put, List.setIfInBounds_toArray, List.set_cons_zero, List.set_cons_succ]
    refine wpAnyH_ready (rs := [9, 12]) (by kernel_rfl) (by simp) (AllReadyH.cons (o := { dst := some 44, op := Op.call { callee := Callee.value (Operand.func 15), args := #[Operand.tmp 42, Operand.tmp 43], argTypes := #[22, 24] }, type := 38, pos := "outright.go:26", after := #[{ on := 7, ground := Ground.data }, { on := 8, ground := Ground.data }, { on := 6, ground := Ground.chain }, { on := 6, ground := Ground.guard }], guard := some (6, false) }) rfl (fun K hK => ?_) (AllReadyH.cons (o := { dst := some 47, op := Op.buildSlice 38 2 #[(0, Operand.tmp 45), (1, Operand.tmp 46)], type := 38, pos := "outright.go:26", after := #[{ on := 10, ground := Ground.data }, { on := 11, ground := Ground.data }, { on := 6, ground := Ground.guard }], guard := some (6, false) }) rfl (fun K hK => ?_) AllReadyH.nil))
    focus (
      refine step_callw (by rfl) 15 #[.pointer (some ⟨q, 0, none⟩), .int .u64 y2] (by go_simp) ?_
      refine (list_any w1.heap.size q cS a 3 _ _ _ _ _ _ HXc.out.cr HXc.out.ci y2 HR2.out (by rw [HUS.out]; decide)).mono ?_
      rintro z wn ⟨vb, rfl, hro, hb⟩
      rw [HUS.out, HL2.out] at hro
      have HRW := Lib.hid (hro.base (Nat.zero_le _))
      have HXd := Lib.hid (HXc.out.later hb)
      have HBd := Lib.hid (stepB HBc.out hb)
      replace HK1 := Lib.hid (HK1.out.later hb)
      replace HK2 := Lib.hid (HK2.out.later hb)
      try replace HBS := Lib.hid (HBS.out.later hb)
      obtain ⟨A5, c5, rfl, _, _⟩ := HRW.out.sl
      clear hro hb HXc HBc
      refine ⟨_, rfl, hK.out _ _ (saw_of HK1.out HK2.out) (fun hHeld2 => ?_)⟩
      clear hK K hHeld
      have hHeld := hHeld2
      clear hHeld2
      try simp only [Act.put, List.setIfInBounds_toArray, List.set_cons_zero, List.set_cons_succ]
      have HXc := HXd
      have HBc := HBd
      clear HXd HBd
      obtain ⟨wc, rfl⟩ : ∃ w : World, w = wn := ⟨_, rfl⟩
      refine wpAnyH_ready (rs := [12]) (by kernel_rfl) (by simp) (AllReadyH.cons (o := { dst := some 47, op := Op.buildSlice 38 2 #[(0, Operand.tmp 45), (1, Operand.tmp 46)], type := 38, pos := "outright.go:26", after := #[{ on := 10, ground := Ground.data }, { on := 11, ground := Ground.data }, { on := 6, ground := Ground.guard }], guard := some (6, false) }) rfl (fun K hK => ?_) AllReadyH.nil)
      go_simp
      obtain ⟨wo, hwo⟩ : ∃ wo : World, wo = wc := ⟨_, rfl⟩
      have hb : Below wc.heap.size wc (wc.alloc (.cells #[.int .i64 2, .int .i64 0, .bool true, .string { data := #[] }, .int .i64 1, .int .i64 0, .bool false, .string { data := #[97] }] 29)) := (Below.refl _ _).alloc (Nat.le_refl _) _
      have HBS := Lib.hid (blk_rsl (L := [two, one]) (t := 29) (Blk.new wc #[.int .i64 2, .int .i64 0, .bool true, .string { data := #[] }, .int .i64 1, .int .i64 0, .bool false, .string { data := #[97] }] 29))
      have HXd := Lib.hid (HXc.out.later hb)
      have HBd := Lib.hid (stepB HBc.out hb)
      replace HK1 := Lib.hid (HK1.out.later hb)
      replace HK2 := Lib.hid (HK2.out.later hb)
      try replace HRW := Lib.hid (HRW.out.later hb)
      clear hb HXc HBc hwo wo
      refine hK.out _ _ (saw_of HK1.out HK2.out) (fun hHeld2 => ?_)
      clear hK K hHeld
      have hHeld := hHeld2
      clear hHeld2
      try simp only [Act.put, List.setIfInBounds_toArray, List.set_cons_zero, List.set_cons_succ]
      have HXc := HXd
      have HBc := HBd
      clear HXd HBd
      generalize (wc.alloc (.cells #[.int .i64 2, .int .i64 0, .bool true, .string { data := #[] }, .int .i64 1, .int .i64 0, .bool false, .string { data := #[97] }] 29)) = wz at *)
    rotate_left
    focus (
      go_simp
      obtain ⟨wo, hwo⟩ : ∃ wo : World, wo = wc := ⟨_, rfl⟩
      have hb : Below wc.heap.size wc (wc.alloc (.cells #[.int .i64 2, .int .i64 0, .bool true, .string { data := #[] }, .int .i64 1, .int .i64 0, .bool false, .string { data := #[97] }] 29)) := (Below.refl _ _).alloc (Nat.le_refl _) _
      have HBS := Lib.hid (blk_rsl (L := [two, one]) (t := 29) (Blk.new wc #[.int .i64 2, .int .i64 0, .bool true, .string { data := #[] }, .int .i64 1, .int .i64 0, .bool false, .string { data := #[97] }] 29))
      have HXd := Lib.hid (HXc.out.later hb)
      have HBd := Lib.hid (stepB HBc.out hb)
      replace HK1 := Lib.hid (HK1.out.later hb)
      replace HK2 := Lib.hid (HK2.out.later hb)
      try replace HRW := Lib.hid (HRW.out.later hb)
      clear hb HXc HBc hwo wo
      refine hK.out _ _ (saw_of HK1.out HK2.out) (fun hHeld2 => ?_)
      clear hK K hHeld
      have hHeld := hHeld2
      clear hHeld2
      try simp only [Act.put, List.setIfInBounds_toArray, List.set_cons_zero, List.set_cons_succ]
      have HXc := HXd
      have HBc := HBd
      clear HXd HBd
      refine wpAnyH_ready (rs := [9]) (by kernel_rfl) (by simp) (AllReadyH.cons (o := { dst := some 44, op := Op.call { callee := Callee.value (Operand.func 15), args := #[Operand.tmp 42, Operand.tmp 43], argTypes := #[22, 24] }, type := 38, pos := "outright.go:26", after := #[{ on := 7, ground := Ground.data }, { on := 8, ground := Ground.data }, { on := 6, ground := Ground.chain }, { on := 6, ground := Ground.guard }], guard := some (6, false) }) rfl (fun K hK => ?_) AllReadyH.nil)
      refine step_callw (by rfl) 15 #[.pointer (some ⟨q, 0, none⟩), .int .u64 y2] (by go_simp) ?_
      refine (list_any w1.heap.size q cS a 3 _ _ _ _ _ _ HXc.out.cr HXc.out.ci y2 HR2.out (by rw [HUS.out]; decide)).mono ?_
      rintro z wn ⟨vb, rfl, hro, hb⟩
      rw [HUS.out, HL2.out] at hro
      have HRW := Lib.hid (hro.base (Nat.zero_le _))
      have HXd := Lib.hid (HXc.out.later hb)
      have HBd := Lib.hid (stepB HBc.out hb)
      replace HK1 := Lib.hid (HK1.out.later hb)
      replace HK2 := Lib.hid (HK2.out.later hb)
      try replace HBS := Lib.hid (HBS.out.later hb)
      obtain ⟨A5, c5, rfl, _, _⟩ := HRW.out.sl
      clear hro hb HXc HBc
      refine ⟨_, rfl, hK.out _ _ (saw_of HK1.out HK2.out) (fun hHeld2 => ?_)⟩
      clear hK K hHeld
      have hHeld := hHeld2
      clear hHeld2
      try simp only [Act.put, List.setIfInBounds_toArray, List.set_cons_zero, List.set_cons_succ]
      have HXc := HXd
      have HBc := HBd
      clear HXd HBd
      obtain ⟨wz, rfl⟩ : ∃ w : World, w = wn := ⟨_, rfl⟩)
    all_goals (
      refine wpAnyH_ready (rs := [13]) (by kernel_rfl) (by simp) (AllReadyH.cons (o := { dst := some 48, op := Op.call { callee := Callee.value (Operand.func 22), args := #[Operand.tmp 44, Operand.tmp 47], argTypes := #[38, 38] }, type := 4, pos := "outright.go:26", after := #[{ on := 9, ground := Ground.data }, { on := 12, ground := Ground.data }, { on := 9, ground := Ground.chain }, { on := 6, ground := Ground.guard }], guard := some (6, false) }) rfl (fun K hK => ?_) AllReadyH.nil)
      refine step_callw (by rfl) 22 #[.slice A5 2 c5, .slice (some ⟨wc.heap.size, 0, none⟩) 2 2] (by go_simp) ?_
      refine (lists_any _ _ 2 2 _ _ [two, one] [two, one] _ (HRW.out.rsl vec_len) HBS.out (by decide) (by decide)).mono ?_
      rintro z wv ⟨rfl, d, rfl⟩
      have hb : Below wz.heap.size wz (wz.drewN d) := below_drewN (Below.refl _ _) d
      have HXd := Lib.hid (HXc.out.later hb)
      have HBd := Lib.hid (stepB HBc.out hb)
      replace HK1 := Lib.hid (HK1.out.later hb)
      replace HK2 := Lib.hid (HK2.out.later hb)
      clear hb HXc HBc HRW HBS
      refine ⟨_, rfl, hK.out _ _ (saw_of HK1.out HK2.out) (fun hHeld2 => ?_)⟩
      clear hK K hHeld
      have hHeld := hHeld2
      clear hHeld2
      try simp only [Act.put, List.setIfInBounds_toArray, List.set_cons_zero, List.set_cons_succ]
      have HXc := HXd
      have HBc := HBd
      clear HXd HBd
      generalize wz.drewN d = wc at *)
    all_goals (
      refine wpAnyH_take (i := 14) (oi := { dst := some 49, op := Op.unOp UnOp.not 4 (Operand.tmp 48), type := 4, pos := "outright.go:26", after := #[{ on := 13, ground := Ground.data }, { on := 6, ground := Ground.guard }], guard := some (6, false) }) (v := ?_) rfl (by kernel_rfl) (by kernel_rfl) (by kernel_rfl) (fun _ _ _ h => h) (Or.inl ⟨by rfl, ?_⟩) (by assumption) ?_
      rotate_left
      · intro W hSw
        clear hSw
        go_simp
        try with_reducible rfl
      simp only [Act.put, List.setIfInBounds_toArray, List.set_cons_zero, List.set_cons_succ]
      refine wpAnyH_take (i := 15) (oi := { dst := some 50, op := Op.pick (Operand.tmp 41) (Operand.const (Value.bool true)) (Operand.tmp 49), type := 4, pos := "outright.go:26", after := #[{ on := 6, ground := Ground.data }, { on := 14, ground := Ground.data }], guard := none }) (v := ?_) rfl (by kernel_rfl) (by kernel_rfl) (by kernel_rfl) (fun _ _ _ h => h) (Or.inl ⟨by rfl, ?_⟩) (by assumption) ?_
      rotate_left
      · intro W hSw
        clear hSw
        go_simp
        try with_reducible rfl
      simp only [Act.put, List.setIfInBounds_toArray, List.set_cons_zero, List.set_cons_succ]
      refine wpAnyH_take (i := 16) (oi := { dst := some 51, op := Op.move (Operand.tmp 50), type := 4, pos := "outright.go:26", after := #[{ on := 15, ground := Ground.data }, { on := 13, ground := Ground.chain }], guard := none }) (v := ?_) rfl (by kernel_rfl) (by kernel_rfl) (by kernel_rfl) (fun _ _ _ h => h) (Or.inl ⟨by rfl, ?_⟩) (by assumption) ?_
      rotate_left
      · intro W hSw
        clear hSw
        go_simp
        try with_reducible rfl
      simp only [Act.put, List.setIfInBounds_toArray, List.set_cons_zero, List.set_cons_succ]
      refine wpAnyH_take (i := 17) (oi := { dst := some 52, op := Op.move (Operand.tmp 1), type := 22, pos := "outright.go:26", after := #[{ on := 16, ground := Ground.guard }], guard := some (16, false) }) (v := ?_) rfl (by kernel_rfl) (by kernel_rfl) (by kernel_rfl) (fun _ _ _ h => h) (Or.inl ⟨by rfl, ?_⟩) (by assumption) ?_
      rotate_left
      · intro W hSw
        clear hSw
        go_simp
        try with_reducible rfl
      simp only [Act.put, List.setIfInBounds_toArray, List.set_cons_zero, List.set_cons_succ]
      refine wpAnyH_take (i := 18) (oi := { dst := some 53, op := Op.move (Operand.tmp 5), type := 24, pos := "outright.go:26", after := #[{ on := 16, ground := Ground.guard }], guard := some (16, false) }) (v := ?_) rfl (by kernel_rfl) (by kernel_rfl) (by kernel_rfl) (fun _ _ _ h => h) (Or.inl ⟨by rfl, ?_⟩) (by assumption) ?_
      rotate_left
      · intro W hSw
        clear hSw
        go_simp
        try with_reducible rfl
      simp only [Act.put, List.setIfInBounds_toArray, List.set_cons_zero, List.set_cons_succ]
      refine wpAnyH_ready (rs := [19]) (by kernel_rfl) (by simp) (AllReadyH.cons (o := { dst := some 54, op := Op.call { callee := Callee.value (Operand.func 12), args := #[Operand.tmp 52, Operand.tmp 53, Operand.const (Value.int IntKind.i64 7)], argTypes := #[22, 24, 3] }, type := 25, pos := "outright.go:26", after := #[{ on := 17, ground := Ground.data }, { on := 18, ground := Ground.data }, { on := 16, ground := Ground.chain }, { on := 16, ground := Ground.guard }], guard := some (16, false) }) rfl (fun K hK => ?_) AllReadyH.nil)
      refine step_callw (by rfl) 12 #[.pointer (some ⟨q, 0, none⟩), .int .u64 y1, .int .i64 7] (by go_simp) ?_
      refine (xstamp w1.heap.size q cS a 3 st2 S2 nd2 _ _ wc HXc.out y1 HR1.out (by rw [HI2.out y1 HR1.out]; simp) 7 ⟨by decide, by decide⟩).mono ?_
      rintro z wv ⟨rfl, st3, S3, hx, his, hs, hf⟩
      have HXd := Lib.hid hx
      have HBd : Hid (Below w.heap.size w wv) := HXc.out.cr.ar.frBelow hf HBc.out HWB.out HBc.out.size
      replace HK1 := Lib.hid (HXc.out.cr.ar.blk hf HK1.out (by decide))
      replace HK2 := Lib.hid (HXc.out.cr.ar.blk hf HK2.out (by decide))
      have HI3 : Hid (∀ x, hR x → isA st3 x = (decide (x = y1) || decide (x = y2))) := fun x hx => by have e := his x hx; simp only at e; rw [e, HI2.out x hx]
      have HN3 := Lib.hid (show setN nd2 y1 (((nd2 y1).1.1, 7, (nd2 y1).1.2.2), (nd2 y1).2) y2 = (two, y1) ∧ setN nd2 y1 (((nd2 y1).1.1, 7, (nd2 y1).1.2.2), (nd2 y1).2) y1 = (one7, 0) by
        unfold setN
        rw [if_neg HNE.out, if_pos rfl, HN2.out.2]
        exact ⟨HN2.out.1, rfl⟩)
      clear hx his hs hf HXc HBc
      refine ⟨_, rfl, hK.out _ _ (saw_of HK1.out HK2.out) (fun hHeld2 => ?_)⟩
      clear hK K hHeld
      have hHeld := hHeld2
      clear hHeld2
      try simp only [Act.put, List.setIfInBounds_toArray, List.set_cons_zero, List.set_cons_succ]
      have HXc := HXd
      have HBc := HBd
      clear HXd HBd
      obtain ⟨wc, rfl⟩ : ∃ w : World, w = wv := ⟨_, rfl⟩
      refine wpAnyH_take (i := 20) (oi := { dst := some 55, op := Op.binOp BinOp.neq 25 (Operand.tmp 54) (Operand.const (Value.int IntKind.i64 0)) 25, type := 4, pos := "outright.go:26", after := #[{ on := 19, ground := Ground.data }, { on := 16, ground := Ground.guard }], guard := some (16, false) }) (v := ?_) rfl (by kernel_rfl) (by kernel_rfl) (by kernel_rfl) (fun _ _ _ h => h) (Or.inl ⟨by rfl, ?_⟩) (by assumption) ?_
      rotate_left
      · intro W hSw
        clear hSw
        go_simp
        try with_reducible rfl
      simp only [Act.put, List.setIfInBounds_toArray, List.set_cons_zero, List.set_cons_succ]
      refine wpAnyH_take (i := 21) (oi := { dst := some 56, op := Op.pick (Operand.tmp 51) (Operand.const (Value.bool true)) (Operand.tmp 55), type := 4, pos := "outright.go:26", after := #[{ on := 16, ground := Ground.data }, { on := 20, ground := Ground.data }], guard := none }) (v := ?_) rfl (by kernel_rfl) (by kernel_rfl) (by kernel_rfl) (fun _ _ _ h => h) (Or.inl ⟨by rfl, ?_⟩) (by assumption) ?_
      rotate_left
      · intro W hSw
        clear hSw
        go_simp
        try with_reducible rfl
      simp only [Act.put, List.setIfInBounds_toArray, List.set_cons_zero, List.set_cons_succ]
      refine wpAnyH_done (by kernel_rfl) (NoPanic.normal ?_) _
      clear hHeld
      go_wp2_with fail
      go_meet
      exact ⟨rfl, st3, S3, _, HXc.out, HI3.out, HN3.out.1, HN3.out.2, HBc.out, HK1.out, HK2.out⟩)
  case rest =>
  obtain ⟨rfl, st3, S3, nd3, hx, hi3, hn3, hm3, hb, hk1, hk2⟩ := hcut
  have HI3 := Lib.hid hi3
  have HN3 := Lib.hid (show nd3 y2 = (two, y1) ∧ nd3 y1 = (one7, 0) from ⟨hn3, hm3⟩)
  obtain ⟨w6, rfl⟩ : ∃ w : World, w = wc := ⟨_, rfl⟩
  have c1 := hk1.cell 1
  have f1 := hk1.frozen 1
  simp only [List.getElem?_toArray, List.getElem?_cons_zero, List.getElem?_cons_succ] at c1
  have HK1 : Hid (Blk (w6.setCell ⟨p1, 1, none⟩ (.int .i64 7)) p1 #[.int .i64 1, .int .i64 7, .bool false, .string { data := #[97] }] 29) := hk1.set (j := 1) _
  have HK2 : Hid (Blk (w6.setCell ⟨p1, 1, none⟩ (.int .i64 7)) (p1 + 1) #[.int .i64 2, .int .i64 0, .bool true, .string { data := #[] }] 29) := hk2.other (by omega) _
  have HX7 : Hid (CX (w6.setCell ⟨p1, 1, none⟩ (.int .i64 7)) w1.heap.size q cS a 3 st3 S3 nd3 [y1, y2] 2) := ⟨hx.cr.fr (R := fun k => k = p1) ⟨rfl, rfl, rfl, by simp [World.setCell], fun k hk hn => Below.heap_setCell w6 ⟨p1, 1, none⟩ _ k hn⟩ (fun k hk e => by subst e; exact hx.cr.ar.not hk1 (by decide) hk) (fun e => by
    have := blk_t hx.cr.blk (e ▸ hk1)
    exact absurd this (by decide)), hx.ci, hx.pg⟩
  have HB7 : Hid (Below w.heap.size w (w6.setCell ⟨p1, 1, none⟩ (.int .i64 7))) := hb.setCell (p := ⟨p1, 1, none⟩) HP1.out _
  clear hx hi3 hn3 hm3 hb hk1 hk2 HI2 HN2 HUS HL2 HU2
  go_upto_region 11 with (fail)
  generalize w6.setCell ⟨p1, 1, none⟩ (.int .i64 7) = w7 at *
  clear c1 f1
  go_wp2_with fail
  refine (chmake_no w1.heap.size q cS a 3 st3 S3 w7 HX7.out.cr 1 0 false { data := #[97, 98, 99, 100] } 0 (by decide) (by decide)).mono ?_
  rintro e w8 ⟨rfl, hb⟩
  have HX8 := Lib.hid (HX7.out.later hb)
  have HB8 := Lib.hid (stepB HB7.out hb)
  replace HK1 := Lib.hid (HK1.out.later hb)
  replace HK2 := Lib.hid (HK2.out.later hb)
  clear hb HX7 HB7
  have HUS := Lib.hid (show usA st3 = 2 by
    have e1 := HI3.out y1 HR1.out
    have e2 := HI3.out y2 HR2.out
    rw [HX8.out.us (by decide), List.countP_cons, List.countP_cons, List.countP_nil, e1, e2]
    simp)
  have HL3 := Lib.hid (show lsF st3 nd3 2 y1 = [one7] by
    rw [lsF, HI3.out y1 HR1.out, if_pos (by simp), HN3.out.2, lsF, HX8.out.ci.ti.zero]
    rfl)
  go_upto_region 12 with (fail)
  go_cut [95] (fun s95 wx => s95 = .bool false ∧ ∃ st5 S5 nd5, CX wx w1.heap.size q cS a 3 st5 S5 nd5 [y1, y2] 2 ∧ (∀ x, hR x → isA st5 x = ((decide (x = y1) || decide (x = y2)) && decide (x ≠ y1))) ∧ Below w.heap.size w wx)
  case first =>
    refine wp_region_noPanic ?_
    have hbd : Below w8.heap.size w8 w8.drew := Below.drew (Below.refl _ _)
    have HXc := Lib.hid (HX8.out.later hbd)
    have HBc := Lib.hid (stepB HB8.out hbd)
    replace HK1 := Lib.hid (HK1.out.later hbd)
    replace HK2 := Lib.hid (HK2.out.later hbd)
    clear hbd HX8 HB8
    refine wp_region_held_drew (S := SAw p1 (p1 + 1) 7) (by kernel_rfl) (saw_of HK1.out HK2.out) (fun hHeld => ?_)
    generalize w8.drew = wc at *
    refine wpAnyH_take (i := 0) (oi := { dst := some 64, op := Op.move (Operand.tmp 1), type := 22, pos := "outright.go:31", after := #[], guard := none }) (v := ?_) rfl (by kernel_rfl) (by kernel_rfl) (by kernel_rfl) (fun _ _ _ h => h) (Or.inl ⟨by rfl, ?_⟩) (by assumption) ?_
    rotate_left
    · intro W hSw
      clear hSw
      go_simp
      try with_reducible rfl
    simp only [Act.put, List.setIfInBounds_toArray, List.set_cons_zero, List.set_cons_succ]
    refine wpAnyH_take (i := 1) (oi := { dst := some 65, op := Op.move (Operand.tmp 5), type := 24, pos := "outright.go:31", after := #[], guard := none }) (v := ?_) rfl (by kernel_rfl) (by kernel_rfl) (by kernel_rfl) (fun _ _ _ h => h) (Or.inl ⟨by rfl, ?_⟩) (by assumption) ?_
    rotate_left
    · intro W hSw
      clear hSw
      go_simp
      try with_reducible rfl
    simp only [Act.put, List.setIfInBounds_toArray, List.set_cons_zero, List.set_cons_succ]
    refine wpAnyH_take (i := 3) (oi := { dst := some 67, op := Op.load 29 (Operand.tmp 3), type := 29, pos := "outright.go:31", after := #[], guard := none }) (v := ?_) rfl (by kernel_rfl) (by kernel_rfl) (by kernel_rfl) (fun _ _ _ h => h) (Or.inl ⟨by rfl, ?_⟩) (by assumption) ?_
    rotate_left
    · intro W hSw
      obtain ⟨k0, k1, k2, k3, j0, j1, j2, j3⟩ := hSw
      go_simp
      try with_reducible rfl
    simp only [Act.put, List.setIfInBounds_toArray, List.set_cons_zero, List.set_cons_succ]
    refine wpAnyH_ready (rs := [2, 4]) (by kernel_rfl) (by simp) (AllReadyH.cons (o := { dst := some 66, op := Op.call { callee := Callee.value (Operand.func 15), args := #[Operand.tmp 64, Operand.tmp 65], argTypes := #[22, 24] }, type := 38, pos := "outright.go:31", after := #[{ on := 0, ground := Ground.data }, { on := 1, ground := Ground.data }], guard := none }) rfl (fun K hK => ?_) (AllReadyH.cons (o := { dst := some 68, op := Op.buildSlice 38 1 #[(0, Operand.tmp 67)], type := 38, pos := "outright.go:31", after := #[{ on := 3, ground := Ground.data }], guard := none }) rfl (fun K hK => ?_) AllReadyH.nil))
    focus (
      refine step_callw (by rfl) 15 #[.pointer (some ⟨q, 0, none⟩), .int .u64 y1] (by go_simp) ?_
      refine (list_any w1.heap.size q cS a 3 _ _ _ _ _ _ HXc.out.cr HXc.out.ci y1 HR1.out (by rw [HUS.out]; decide)).mono ?_
      rintro z wn ⟨vb, rfl, hro, hb⟩
      rw [HUS.out, HL3.out] at hro
      have HRW := Lib.hid (hro.base (Nat.zero_le _))
      have HXd := Lib.hid (HXc.out.later hb)
      have HBd := Lib.hid (stepB HBc.out hb)
      replace HK1 := Lib.hid (HK1.out.later hb)
      replace HK2 := Lib.hid (HK2.out.later hb)
      try replace HBS := Lib.hid (HBS.out.later hb)
      obtain ⟨A5, c5, rfl, _, _⟩ := HRW.out.sl
      clear hro hb HXc HBc
      refine ⟨_, rfl, hK.out _ _ (saw_of HK1.out HK2.out) (fun hHeld2 => ?_)⟩
      clear hK K hHeld
      have hHeld := hHeld2
      clear hHeld2
      try simp only [Act.put, List.setIfInBounds_toArray, List.set_cons_zero, List.set_cons_succ]
      have HXc := HXd
      have HBc := HBd
      clear HXd HBd
      obtain ⟨wc, rfl⟩ : ∃ w : World, w = wn := ⟨_, rfl⟩
      refine wpAnyH_ready (rs := [4]) (by kernel_rfl) (by simp) (AllReadyH.cons (o := { dst := some 68, op := Op.buildSlice 38 1 #[(0, Operand.tmp 67)], type := 38, pos := "outright.go:31", after := #[{ on := 3, ground := Ground.data }], guard := none }) rfl (fun K hK => ?_) AllReadyH.nil)
      go_simp
      obtain ⟨wo, hwo⟩ : ∃ wo : World, wo = wc := ⟨_, rfl⟩
      have hb : Below wc.heap.size wc (wc.alloc (.cells #[.int .i64 1, .int .i64 7, .bool false, .string { data := #[97] }] 29)) := (Below.refl _ _).alloc (Nat.le_refl _) _
      have HBS := Lib.hid (blk_rsl (L := [one7]) (t := 29) (Blk.new wc #[.int .i64 1, .int .i64 7, .bool false, .string { data := #[97] }] 29))
      have HXd := Lib.hid (HXc.out.later hb)
      have HBd := Lib.hid (stepB HBc.out hb)
      replace HK1 := Lib.hid (HK1.out.later hb)
      replace HK2 := Lib.hid (HK2.out.later hb)
      try replace HRW := Lib.hid (HRW.out.later hb)
      clear hb HXc HBc hwo wo
      refine hK.out _ _ (saw_of HK1.out HK2.out) (fun hHeld2 => ?_)
      clear hK K hHeld
      have hHeld := hHeld2
      clear hHeld2
      try simp only [Act.put, List.setIfInBounds_toArray, List.set_cons_zero, List.set_cons_succ]
      have HXc := HXd
      have HBc := HBd
      clear HXd HBd
      generalize (wc.alloc (.cells #[.int .i64 1, .int .i64 7, .bool false, .string { data := #[97] }] 29)) = wz at *)
    rotate_left
    focus (
      go_simp
      obtain ⟨wo, hwo⟩ : ∃ wo : World, wo = wc := ⟨_, rfl⟩
      have hb : Below wc.heap.size wc (wc.alloc (.cells #[.int .i64 1, .int .i64 7, .bool false, .string { data := #[97] }] 29)) := (Below.refl _ _).alloc (Nat.le_refl _) _
      have HBS := Lib.hid (blk_rsl (L := [one7]) (t := 29) (Blk.new wc #[.int .i64 1, .int .i64 7, .bool false, .string { data := #[97] }] 29))
      have HXd := Lib.hid (HXc.out.later hb)
      have HBd := Lib.hid (stepB HBc.out hb)
      replace HK1 := Lib.hid (HK1.out.later hb)
      replace HK2 := Lib.hid (HK2.out.later hb)
      try replace HRW := Lib.hid (HRW.out.later hb)
      clear hb HXc HBc hwo wo
      refine hK.out _ _ (saw_of HK1.out HK2.out) (fun hHeld2 => ?_)
      clear hK K hHeld
      have hHeld := hHeld2
      clear hHeld2
      try simp only [Act.put, List.setIfInBounds_toArray, List.set_cons_zero, List.set_cons_succ]
      have HXc := HXd
      have HBc := HBd
      clear HXd HBd
      refine wpAnyH_ready (rs := [2]) (by kernel_rfl) (by simp) (AllReadyH.cons (o := { dst := some 66, op := Op.call { callee := Callee.value (Operand.func 15), args := #[Operand.tmp 64, Operand.tmp 65], argTypes := #[22, 24] }, type := 38, pos := "outright.go:31", after := #[{ on := 0, ground := Ground.data }, { on := 1, ground := Ground.data }], guard := none }) rfl (fun K hK => ?_) AllReadyH.nil)
      refine step_callw (by rfl) 15 #[.pointer (some ⟨q, 0, none⟩), .int .u64 y1] (by go_simp) ?_
      refine (list_any w1.heap.size q cS a 3 _ _ _ _ _ _ HXc.out.cr HXc.out.ci y1 HR1.out (by rw [HUS.out]; decide)).mono ?_
      rintro z wn ⟨vb, rfl, hro, hb⟩
      rw [HUS.out, HL3.out] at hro
      have HRW := Lib.hid (hro.base (Nat.zero_le _))
      have HXd := Lib.hid (HXc.out.later hb)
      have HBd := Lib.hid (stepB HBc.out hb)
      replace HK1 := Lib.hid (HK1.out.later hb)
      replace HK2 := Lib.hid (HK2.out.later hb)
      try replace HBS := Lib.hid (HBS.out.later hb)
      obtain ⟨A5, c5, rfl, _, _⟩ := HRW.out.sl
      clear hro hb HXc HBc
      refine ⟨_, rfl, hK.out _ _ (saw_of HK1.out HK2.out) (fun hHeld2 => ?_)⟩
      clear hK K hHeld
      have hHeld := hHeld2
      clear hHeld2
      try simp only [Act.put, List.setIfInBounds_toArray, List.set_cons_zero, List.set_cons_succ]
      have HXc := HXd
      have HBc := HBd
      clear HXd HBd
      obtain ⟨wz, rfl⟩ : ∃ w : World, w = wn := ⟨_, rfl⟩)
    all_goals (
      refine wpAnyH_ready (rs := [5]) (by kernel_rfl) (by simp) (AllReadyH.cons (o := { dst := some 69, op := Op.call { callee := Callee.value (Operand.func 22), args := #[Operand.tmp 66, Operand.tmp 68], argTypes := #[38, 38] }, type := 4, pos := "outright.go:31", after := #[{ on := 2, ground := Ground.data }, { on := 4, ground := Ground.data }, { on := 2, ground := Ground.chain }], guard := none }) rfl (fun K hK => ?_) AllReadyH.nil)
      refine step_callw (by rfl) 22 #[.slice A5 1 c5, .slice (some ⟨wc.heap.size, 0, none⟩) 1 1] (by go_simp) ?_
      refine (lists_any _ _ 1 1 _ _ [one7] [one7] _ (HRW.out.rsl vec_len) HBS.out (by decide) (by decide)).mono ?_
      rintro z wv ⟨rfl, d, rfl⟩
      have hb : Below wz.heap.size wz (wz.drewN d) := below_drewN (Below.refl _ _) d
      have HXd := Lib.hid (HXc.out.later hb)
      have HBd := Lib.hid (stepB HBc.out hb)
      replace HK1 := Lib.hid (HK1.out.later hb)
      replace HK2 := Lib.hid (HK2.out.later hb)
      clear hb HXc HBc HRW HBS
      refine ⟨_, rfl, hK.out _ _ (saw_of HK1.out HK2.out) (fun hHeld2 => ?_)⟩
      clear hK K hHeld
      have hHeld := hHeld2
      clear hHeld2
      try simp only [Act.put, List.setIfInBounds_toArray, List.set_cons_zero, List.set_cons_succ]
      have HXc := HXd
      have HBc := HBd
      clear HXd HBd
      generalize wz.drewN d = wc at *)
    all_goals (
      refine wpAnyH_take (i := 6) (oi := { dst := some 70, op := Op.unOp UnOp.not 4 (Operand.tmp 69), type := 4, pos := "outright.go:31", after := #[{ on := 5, ground := Ground.data }], guard := none }) (v := ?_) rfl (by kernel_rfl) (by kernel_rfl) (by kernel_rfl) (fun _ _ _ h => h) (Or.inl ⟨by rfl, ?_⟩) (by assumption) ?_
      rotate_left
      · intro W hSw
        clear hSw
        go_simp
        try with_reducible rfl
      simp only [Act.put, List.setIfInBounds_toArray, List.set_cons_zero, List.set_cons_succ]
      refine wpAnyH_take (i := 7) (oi := { dst := some 71, op := Op.move (Operand.tmp 70), type := 4, pos := "outright.go:31", after := #[{ on := 6, ground := Ground.data }, { on := 5, ground := Ground.chain }], guard := none }) (v := ?_) rfl (by kernel_rfl) (by kernel_rfl) (by kernel_rfl) (fun _ _ _ h => h) (Or.inl ⟨by rfl, ?_⟩) (by assumption) ?_
      rotate_left
      · intro W hSw
        clear hSw
        go_simp
        try with_reducible rfl
      simp only [Act.put, List.setIfInBounds_toArray, List.set_cons_zero, List.set_cons_succ]
      refine wpAnyH_take (i := 8) (oi := { dst := some 72, op := Op.move (Operand.tmp 10), type := 25, pos := "outright.go:31", after := #[{ on := 7, ground := Ground.guard }], guard := some (7, false) }) (v := ?_) rfl (by kernel_rfl) (by kernel_rfl) (by kernel_rfl) (fun _ _ _ h => h) (Or.inl ⟨by rfl, ?_⟩) (by assumption) ?_
      rotate_left
      · intro W hSw
        clear hSw
        go_simp
        try with_reducible rfl
      simp only [Act.put, List.setIfInBounds_toArray, List.set_cons_zero, List.set_cons_succ]
      refine wpAnyH_take (i := 9) (oi := { dst := some 73, op := Op.binOp BinOp.neq 25 (Operand.tmp 72) (Operand.const (Value.int IntKind.i64 1)) 25, type := 4, pos := "outright.go:31", after := #[{ on := 8, ground := Ground.data }, { on := 7, ground := Ground.guard }], guard := some (7, false) }) (v := ?_) rfl (by kernel_rfl) (by kernel_rfl) (by kernel_rfl) (fun _ _ _ h => h) (Or.inl ⟨by rfl, ?_⟩) (by assumption) ?_
      rotate_left
      · intro W hSw
        clear hSw
        go_simp
        try with_reducible rfl
      simp only [Act.put, List.setIfInBounds_toArray, List.set_cons_zero, List.set_cons_succ]
      refine wpAnyH_take (i := 10) (oi := { dst := some 74, op := Op.pick (Operand.tmp 71) (Operand.const (Value.bool true)) (Operand.tmp 73), type := 4, pos := "outright.go:31", after := #[{ on := 7, ground := Ground.data }, { on := 9, ground := Ground.data }], guard := none }) (v := ?_) rfl (by kernel_rfl) (by kernel_rfl) (by kernel_rfl) (fun _ _ _ h => h) (Or.inl ⟨by rfl, ?_⟩) (by assumption) ?_
      rotate_left
      · intro W hSw
        clear hSw
        go_simp
        try with_reducible rfl
      simp only [Act.put, List.setIfInBounds_toArray, List.set_cons_zero, List.set_cons_succ]
      refine wpAnyH_take (i := 11) (oi := { dst := some 75, op := Op.move (Operand.tmp 74), type := 4, pos := "outright.go:31", after := #[{ on := 10, ground := Ground.data }, { on := 7, ground := Ground.chain }], guard := none }) (v := ?_) rfl (by kernel_rfl) (by kernel_rfl) (by kernel_rfl) (fun _ _ _ h => h) (Or.inl ⟨by rfl, ?_⟩) (by assumption) ?_
      rotate_left
      · intro W hSw
        clear hSw
        go_simp
        try with_reducible rfl
      simp only [Act.put, List.setIfInBounds_toArray, List.set_cons_zero, List.set_cons_succ]
      refine wpAnyH_take (i := 12) (oi := { dst := some 76, op := Op.move (Operand.tmp 1), type := 22, pos := "outright.go:31", after := #[{ on := 11, ground := Ground.guard }], guard := some (11, false) }) (v := ?_) rfl (by kernel_rfl) (by kernel_rfl) (by kernel_rfl) (fun _ _ _ h => h) (Or.inl ⟨by rfl, ?_⟩) (by assumption) ?_
      rotate_left
      · intro W hSw
        clear hSw
        go_simp
        try with_reducible rfl
      simp only [Act.put, List.setIfInBounds_toArray, List.set_cons_zero, List.set_cons_succ]
      refine wpAnyH_take (i := 13) (oi := { dst := some 77, op := Op.move (Operand.tmp 7), type := 24, pos := "outright.go:31", after := #[{ on := 11, ground := Ground.guard }], guard := some (11, false) }) (v := ?_) rfl (by kernel_rfl) (by kernel_rfl) (by kernel_rfl) (fun _ _ _ h => h) (Or.inl ⟨by rfl, ?_⟩) (by assumption) ?_
      rotate_left
      · intro W hSw
        clear hSw
        go_simp
        try with_reducible rfl
      simp only [Act.put, List.setIfInBounds_toArray, List.set_cons_zero, List.set_cons_succ]
      refine wpAnyH_ready (rs := [14]) (by kernel_rfl) (by simp) (AllReadyH.cons (o := { dst := some 78, op := Op.call { callee := Callee.value (Operand.func 13), args := #[Operand.tmp 76, Operand.tmp 77], argTypes := #[22, 24] }, type := 25, pos := "outright.go:31", after := #[{ on := 12, ground := Ground.data }, { on := 13, ground := Ground.data }, { on := 11, ground := Ground.chain }, { on := 11, ground := Ground.guard }], guard := some (11, false) }) rfl (fun K hK => ?_) AllReadyH.nil)
      refine step_callw (by rfl) 13 #[.pointer (some ⟨q, 0, none⟩), .int .u64 y2] (by go_simp) ?_
      refine (xcut w1.heap.size q cS a 3 st3 S3 nd3 _ _ wc HXc.out y2 HR2.out (by rw [HI3.out y2 HR2.out]; simp)).mono ?_
      rintro z wv ⟨rfl, st4, S4, hx, his, hs, hf⟩
      have HXd := Lib.hid hx
      have HBd : Hid (Below w.heap.size w wv) := HXc.out.cr.ar.frBelow hf HBc.out HWB.out HBc.out.size
      replace HK1 := Lib.hid (HXc.out.cr.ar.blk hf HK1.out (by decide))
      replace HK2 := Lib.hid (HXc.out.cr.ar.blk hf HK2.out (by decide))
      have HI4 : Hid (∀ x, hR x → isA st4 x = (decide (x = y1) || decide (x = y2))) := fun x hx => by have e := his x hx; simp only at e; rw [e, HI3.out x hx]
      have HN4 := Lib.hid (show setN nd3 y2 ((nd3 y2).1, 0) y2 = (two, 0) by
        unfold setN
        rw [if_pos rfl, HN3.out.1])
      have HUS4 := Lib.hid (show usA st4 = 2 by
        have e1 := HI4.out y1 HR1.out
        have e2 := HI4.out y2 HR2.out
        rw [HXd.out.us (by decide), List.countP_cons, List.countP_cons, List.countP_nil, e1, e2]
        simp)
      have HL4 := Lib.hid (show lsF st4 (setN nd3 y2 ((nd3 y2).1, 0)) 2 y2 = [two] by
        rw [lsF, HI4.out y2 HR2.out, if_pos (by simp), HN4.out, lsF, HXd.out.ci.ti.zero]
        rfl)
      clear hx his hs hf HXc HBc
      refine ⟨_, rfl, hK.out _ _ (saw_of HK1.out HK2.out) (fun hHeld2 => ?_)⟩
      clear hK K hHeld
      have hHeld := hHeld2
      clear hHeld2
      try simp only [Act.put, List.setIfInBounds_toArray, List.set_cons_zero, List.set_cons_succ]
      have HXc := HXd
      have HBc := HBd
      clear HXd HBd
      obtain ⟨wc, rfl⟩ : ∃ w : World, w = wv := ⟨_, rfl⟩
      refine wpAnyH_take (i := 15) (oi := { dst := some 79, op := Op.binOp BinOp.neq 25 (Operand.tmp 78) (Operand.const (Value.int IntKind.i64 0)) 25, type := 4, pos := "outright.go:31", after := #[{ on := 14, ground := Ground.data }, { on := 11, ground := Ground.guard }], guard := some (11, false) }) (v := ?_) rfl (by kernel_rfl) (by kernel_rfl) (by kernel_rfl) (fun _ _ _ h => h) (Or.inl ⟨by rfl, ?_⟩) (by assumption) ?_
      rotate_left
      · intro W hSw
        clear hSw
        go_simp
        try with_reducible rfl
      simp only [Act.put, List.setIfInBounds_toArray, List.set_cons_zero, List.set_cons_succ]
      refine wpAnyH_take (i := 16) (oi := { dst := some 80, op := Op.pick (Operand.tmp 75) (Operand.const (Value.bool true)) (Operand.tmp 79), type := 4, pos := "outright.go:31", after := #[{ on := 11, ground := Ground.data }, { on := 15, ground := Ground.data }], guard := none }) (v := ?_) rfl (by kernel_rfl) (by kernel_rfl) (by kernel_rfl) (fun _ _ _ h => h) (Or.inl ⟨by rfl, ?_⟩) (by assumption) ?_
      rotate_left
      · intro W hSw
        clear hSw
        go_simp
        try with_reducible rfl
      simp only [Act.put, List.setIfInBounds_toArray, List.set_cons_zero, List.set_cons_succ]
      refine wpAnyH_take (i := 17) (oi := { dst := some 81, op := Op.move (Operand.tmp 80), type := 4, pos := "outright.go:31", after := #[{ on := 16, ground := Ground.data }, { on := 14, ground := Ground.chain }], guard := none }) (v := ?_) rfl (by kernel_rfl) (by kernel_rfl) (by kernel_rfl) (fun _ _ _ h => h) (Or.inl ⟨by rfl, ?_⟩) (by assumption) ?_
      rotate_left
      · intro W hSw
        clear hSw
        go_simp
        try with_reducible rfl
      simp only [Act.put, List.setIfInBounds_toArray, List.set_cons_zero, List.set_cons_succ]
      refine wpAnyH_take (i := 18) (oi := { dst := some 82, op := Op.move (Operand.tmp 1), type := 22, pos := "outright.go:31", after := #[{ on := 17, ground := Ground.guard }], guard := some (17, false) }) (v := ?_) rfl (by kernel_rfl) (by kernel_rfl) (by kernel_rfl) (fun _ _ _ h => h) (Or.inl ⟨by rfl, ?_⟩) (by assumption) ?_
      rotate_left
      · intro W hSw
        clear hSw
        go_simp
        try with_reducible rfl
      simp only [Act.put, List.setIfInBounds_toArray, List.set_cons_zero, List.set_cons_succ]
      refine wpAnyH_take (i := 19) (oi := { dst := some 83, op := Op.move (Operand.tmp 7), type := 24, pos := "outright.go:31", after := #[{ on := 17, ground := Ground.guard }], guard := some (17, false) }) (v := ?_) rfl (by kernel_rfl) (by kernel_rfl) (by kernel_rfl) (fun _ _ _ h => h) (Or.inl ⟨by rfl, ?_⟩) (by assumption) ?_
      rotate_left
      · intro W hSw
        clear hSw
        go_simp
        try with_reducible rfl
      simp only [Act.put, List.setIfInBounds_toArray, List.set_cons_zero, List.set_cons_succ]
      refine wpAnyH_take (i := 21) (oi := { dst := some 85, op := Op.load 29 (Operand.tmp 4), type := 29, pos := "outright.go:31", after := #[{ on := 17, ground := Ground.guard }], guard := some (17, false) }) (v := ?_) rfl (by kernel_rfl) (by kernel_rfl) (by kernel_rfl) (fun _ _ _ h => h) (Or.inl ⟨by rfl, ?_⟩) (by assumption) ?_
      rotate_left
      · intro W hSw
        obtain ⟨k0, k1, k2, k3, j0, j1, j2, j3⟩ := hSw
        go_simp
        try with_reducible rfl
      simp only [Act.put, List.setIfInBounds_toArray, List.set_cons_zero, List.set_cons_succ]
      refine wpAnyH_ready (rs := [20, 22]) (by kernel_rfl) (by simp) (AllReadyH.cons (o := { dst := some 84, op := Op.call { callee := Callee.value (Operand.func 15), args := #[Operand.tmp 82, Operand.tmp 83], argTypes := #[22, 24] }, type := 38, pos := "outright.go:31", after := #[{ on := 18, ground := Ground.data }, { on := 19, ground := Ground.data }, { on := 17, ground := Ground.chain }, { on := 17, ground := Ground.guard }], guard := some (17, false) }) rfl (fun K hK => ?_) (AllReadyH.cons (o := { dst := some 86, op := Op.buildSlice 38 1 #[(0, Operand.tmp 85)], type := 38, pos := "outright.go:31", after := #[{ on := 21, ground := Ground.data }, { on := 17, ground := Ground.guard }], guard := some (17, false) }) rfl (fun K hK => ?_) AllReadyH.nil))
      focus (
        refine step_callw (by rfl) 15 #[.pointer (some ⟨q, 0, none⟩), .int .u64 y2] (by go_simp) ?_
        refine (list_any w1.heap.size q cS a 3 _ _ _ _ _ _ HXc.out.cr HXc.out.ci y2 HR2.out (by rw [HUS4.out]; decide)).mono ?_
        rintro z wn ⟨vb, rfl, hro, hb⟩
        rw [HUS4.out, HL4.out] at hro
        have HRW := Lib.hid (hro.base (Nat.zero_le _))
        have HXd := Lib.hid (HXc.out.later hb)
        have HBd := Lib.hid (stepB HBc.out hb)
        replace HK1 := Lib.hid (HK1.out.later hb)
        replace HK2 := Lib.hid (HK2.out.later hb)
        try replace HBS := Lib.hid (HBS.out.later hb)
        obtain ⟨A5, c5, rfl, _, _⟩ := HRW.out.sl
        clear hro hb HXc HBc
        refine ⟨_, rfl, hK.out _ _ (saw_of HK1.out HK2.out) (fun hHeld2 => ?_)⟩
        clear hK K hHeld
        have hHeld := hHeld2
        clear hHeld2
        try simp only [Act.put, List.setIfInBounds_toArray, List.set_cons_zero, List.set_cons_succ]
        have HXc := HXd
        have HBc := HBd
        clear HXd HBd
        obtain ⟨wc, rfl⟩ : ∃ w : World, w = wn := ⟨_, rfl⟩
        refine wpAnyH_ready (rs := [22]) (by kernel_rfl) (by simp) (AllReadyH.cons (o := { dst := some 86, op := Op.buildSlice 38 1 #[(0, Operand.tmp 85)], type := 38, pos := "outright.go:31", after := #[{ on := 21, ground := Ground.data }, { on := 17, ground := Ground.guard }], guard := some (17, false) }) rfl (fun K hK => ?_) AllReadyH.nil)
        go_simp
        obtain ⟨wo, hwo⟩ : ∃ wo : World, wo = wc := ⟨_, rfl⟩
        have hb : Below wc.heap.size wc (wc.alloc (.cells #[.int .i64 2, .int .i64 0, .bool true, .string { data := #[] }] 29)) := (Below.refl _ _).alloc (Nat.le_refl _) _
        have HBS := Lib.hid (blk_rsl (L := [two]) (t := 29) (Blk.new wc #[.int .i64 2, .int .i64 0, .bool true, .string { data := #[] }] 29))
        have HXd := Lib.hid (HXc.out.later hb)
        have HBd := Lib.hid (stepB HBc.out hb)
        replace HK1 := Lib.hid (HK1.out.later hb)
        replace HK2 := Lib.hid (HK2.out.later hb)
        try replace HRW := Lib.hid (HRW.out.later hb)
        clear hb HXc HBc hwo wo
        refine hK.out _ _ (saw_of HK1.out HK2.out) (fun hHeld2 => ?_)
        clear hK K hHeld
        have hHeld := hHeld2
        clear hHeld2
        try simp only [Act.put, List.setIfInBounds_toArray, List.set_cons_zero, List.set_cons_succ]
        have HXc := HXd
        have HBc := HBd
        clear HXd HBd
        generalize (wc.alloc (.cells #[.int .i64 2, .int .i64 0, .bool true, .string { data := #[] }] 29)) = wz at *)
      rotate_left
      focus (
        go_simp
        obtain ⟨wo, hwo⟩ : ∃ wo : World, wo = wc := ⟨_, rfl⟩
        have hb : Below wc.heap.size wc (wc.alloc (.cells #[.int .i64 2, .int .i64 0, .bool true, .string { data := #[] }] 29)) := (Below.refl _ _).alloc (Nat.le_refl _) _
        have HBS := Lib.hid (blk_rsl (L := [two]) (t := 29) (Blk.new wc #[.int .i64 2, .int .i64 0, .bool true, .string { data := #[] }] 29))
        have HXd := Lib.hid (HXc.out.later hb)
        have HBd := Lib.hid (stepB HBc.out hb)
        replace HK1 := Lib.hid (HK1.out.later hb)
        replace HK2 := Lib.hid (HK2.out.later hb)
        try replace HRW := Lib.hid (HRW.out.later hb)
        clear hb HXc HBc hwo wo
        refine hK.out _ _ (saw_of HK1.out HK2.out) (fun hHeld2 => ?_)
        clear hK K hHeld
        have hHeld := hHeld2
        clear hHeld2
        try simp only [Act.put, List.setIfInBounds_toArray, List.set_cons_zero, List.set_cons_succ]
        have HXc := HXd
        have HBc := HBd
        clear HXd HBd
        refine wpAnyH_ready (rs := [20]) (by kernel_rfl) (by simp) (AllReadyH.cons (o := { dst := some 84, op := Op.call { callee := Callee.value (Operand.func 15), args := #[Operand.tmp 82, Operand.tmp 83], argTypes := #[22, 24] }, type := 38, pos := "outright.go:31", after := #[{ on := 18, ground := Ground.data }, { on := 19, ground := Ground.data }, { on := 17, ground := Ground.chain }, { on := 17, ground := Ground.guard }], guard := some (17, false) }) rfl (fun K hK => ?_) AllReadyH.nil)
        refine step_callw (by rfl) 15 #[.pointer (some ⟨q, 0, none⟩), .int .u64 y2] (by go_simp) ?_
        refine (list_any w1.heap.size q cS a 3 _ _ _ _ _ _ HXc.out.cr HXc.out.ci y2 HR2.out (by rw [HUS4.out]; decide)).mono ?_
        rintro z wn ⟨vb, rfl, hro, hb⟩
        rw [HUS4.out, HL4.out] at hro
        have HRW := Lib.hid (hro.base (Nat.zero_le _))
        have HXd := Lib.hid (HXc.out.later hb)
        have HBd := Lib.hid (stepB HBc.out hb)
        replace HK1 := Lib.hid (HK1.out.later hb)
        replace HK2 := Lib.hid (HK2.out.later hb)
        try replace HBS := Lib.hid (HBS.out.later hb)
        obtain ⟨A5, c5, rfl, _, _⟩ := HRW.out.sl
        clear hro hb HXc HBc
        refine ⟨_, rfl, hK.out _ _ (saw_of HK1.out HK2.out) (fun hHeld2 => ?_)⟩
        clear hK K hHeld
        have hHeld := hHeld2
        clear hHeld2
        try simp only [Act.put, List.setIfInBounds_toArray, List.set_cons_zero, List.set_cons_succ]
        have HXc := HXd
        have HBc := HBd
        clear HXd HBd
        obtain ⟨wz, rfl⟩ : ∃ w : World, w = wn := ⟨_, rfl⟩)
      all_goals (
        refine wpAnyH_ready (rs := [23]) (by kernel_rfl) (by simp) (AllReadyH.cons (o := { dst := some 87, op := Op.call { callee := Callee.value (Operand.func 22), args := #[Operand.tmp 84, Operand.tmp 86], argTypes := #[38, 38] }, type := 4, pos := "outright.go:31", after := #[{ on := 20, ground := Ground.data }, { on := 22, ground := Ground.data }, { on := 20, ground := Ground.chain }, { on := 17, ground := Ground.guard }], guard := some (17, false) }) rfl (fun K hK => ?_) AllReadyH.nil)
        refine step_callw (by rfl) 22 #[.slice A5 1 c5, .slice (some ⟨wc.heap.size, 0, none⟩) 1 1] (by go_simp) ?_
        refine (lists_any _ _ 1 1 _ _ [two] [two] _ (HRW.out.rsl vec_len) HBS.out (by decide) (by decide)).mono ?_
        rintro z wv ⟨rfl, d, rfl⟩
        have hb : Below wz.heap.size wz (wz.drewN d) := below_drewN (Below.refl _ _) d
        have HXd := Lib.hid (HXc.out.later hb)
        have HBd := Lib.hid (stepB HBc.out hb)
        replace HK1 := Lib.hid (HK1.out.later hb)
        replace HK2 := Lib.hid (HK2.out.later hb)
        clear hb HXc HBc HRW HBS
        refine ⟨_, rfl, hK.out _ _ (saw_of HK1.out HK2.out) (fun hHeld2 => ?_)⟩
        clear hK K hHeld
        have hHeld := hHeld2
        clear hHeld2
        try simp only [Act.put, List.setIfInBounds_toArray, List.set_cons_zero, List.set_cons_succ]
        have HXc := HXd
        have HBc := HBd
        clear HXd HBd
        generalize wz.drewN d = wc at *)
      all_goals (
        refine wpAnyH_take (i := 24) (oi := { dst := some 88, op := Op.unOp UnOp.not 4 (Operand.tmp 87), type := 4, pos := "outright.go:31", after := #[{ on := 23, ground := Ground.data }, { on := 17, ground := Ground.guard }], guard := some (17, false) }) (v := ?_) rfl (by kernel_rfl) (by kernel_rfl) (by kernel_rfl) (fun _ _ _ h => h) (Or.inl ⟨by rfl, ?_⟩) (by assumption) ?_
        rotate_left
        · intro W hSw
          clear hSw
          go_simp
          try with_reducible rfl
        simp only [Act.put, List.setIfInBounds_toArray, List.set_cons_zero, List.set_cons_succ]
        refine wpAnyH_take (i := 25) (oi := { dst := some 89, op := Op.pick (Operand.tmp 81) (Operand.const (Value.bool true)) (Operand.tmp 88), type := 4, pos := "outright.go:31", after := #[{ on := 17, ground := Ground.data }, { on := 24, ground := Ground.data }], guard := none }) (v := ?_) rfl (by kernel_rfl) (by kernel_rfl) (by kernel_rfl) (fun _ _ _ h => h) (Or.inl ⟨by rfl, ?_⟩) (by assumption) ?_
        rotate_left
        · intro W hSw
          clear hSw
          go_simp
          try with_reducible rfl
        simp only [Act.put, List.setIfInBounds_toArray, List.set_cons_zero, List.set_cons_succ]
        refine wpAnyH_take (i := 26) (oi := { dst := some 90, op := Op.move (Operand.tmp 89), type := 4, pos := "outright.go:31", after := #[{ on := 25, ground := Ground.data }, { on := 23, ground := Ground.chain }], guard := none }) (v := ?_) rfl (by kernel_rfl) (by kernel_rfl) (by kernel_rfl) (fun _ _ _ h => h) (Or.inl ⟨by rfl, ?_⟩) (by assumption) ?_
        rotate_left
        · intro W hSw
          clear hSw
          go_simp
          try with_reducible rfl
        simp only [Act.put, List.setIfInBounds_toArray, List.set_cons_zero, List.set_cons_succ]
        refine wpAnyH_take (i := 27) (oi := { dst := some 91, op := Op.move (Operand.tmp 1), type := 22, pos := "outright.go:31", after := #[{ on := 26, ground := Ground.guard }], guard := some (26, false) }) (v := ?_) rfl (by kernel_rfl) (by kernel_rfl) (by kernel_rfl) (fun _ _ _ h => h) (Or.inl ⟨by rfl, ?_⟩) (by assumption) ?_
        rotate_left
        · intro W hSw
          clear hSw
          go_simp
          try with_reducible rfl
        simp only [Act.put, List.setIfInBounds_toArray, List.set_cons_zero, List.set_cons_succ]
        refine wpAnyH_take (i := 28) (oi := { dst := some 92, op := Op.move (Operand.tmp 5), type := 24, pos := "outright.go:31", after := #[{ on := 26, ground := Ground.guard }], guard := some (26, false) }) (v := ?_) rfl (by kernel_rfl) (by kernel_rfl) (by kernel_rfl) (fun _ _ _ h => h) (Or.inl ⟨by rfl, ?_⟩) (by assumption) ?_
        rotate_left
        · intro W hSw
          clear hSw
          go_simp
          try with_reducible rfl
        simp only [Act.put, List.setIfInBounds_toArray, List.set_cons_zero, List.set_cons_succ]
        refine wpAnyH_ready (rs := [29]) (by kernel_rfl) (by simp) (AllReadyH.cons (o := { dst := some 93, op := Op.call { callee := Callee.value (Operand.func 14), args := #[Operand.tmp 91, Operand.tmp 92], argTypes := #[22, 24] }, type := 25, pos := "outright.go:31", after := #[{ on := 27, ground := Ground.data }, { on := 28, ground := Ground.data }, { on := 26, ground := Ground.chain }, { on := 26, ground := Ground.guard }], guard := some (26, false) }) rfl (fun K hK => ?_) AllReadyH.nil)
        refine step_callw (by rfl) 14 #[.pointer (some ⟨q, 0, none⟩), .int .u64 y1] (by go_simp) ?_
        have hfe : frAE y1 st4 = 0 := by unfold frAE; rw [HI4.out y1 HR1.out, if_pos (by simp)]
        have hfc := xfree w1.heap.size q cS a 3 st4 S4 _ _ _ wc HXc.out y1 HR1.out
        rw [hfe] at hfc
        refine hfc.mono ?_
        clear hfc hfe
        rintro z wv ⟨rfl, st5, S5, hx, his, hs, hf⟩
        have HXd := Lib.hid hx
        have HBd : Hid (Below w.heap.size w wv) := HXc.out.cr.ar.frBelow hf HBc.out HWB.out HBc.out.size
        replace HK1 := Lib.hid (HXc.out.cr.ar.blk hf HK1.out (by decide))
        replace HK2 := Lib.hid (HXc.out.cr.ar.blk hf HK2.out (by decide))
        have HI5 : Hid (∀ x, hR x → isA st5 x = ((decide (x = y1) || decide (x = y2)) && decide (x ≠ y1))) := fun x hx => by have e := his x hx; simp only at e; rw [e, HI4.out x hx]
        clear hx his hs hf HXc HBc
        refine ⟨_, rfl, hK.out _ _ (saw_of HK1.out HK2.out) (fun hHeld2 => ?_)⟩
        clear hK K hHeld
        have hHeld := hHeld2
        clear hHeld2
        try simp only [Act.put, List.setIfInBounds_toArray, List.set_cons_zero, List.set_cons_succ]
        have HXc := HXd
        have HBc := HBd
        clear HXd HBd
        obtain ⟨wc, rfl⟩ : ∃ w : World, w = wv := ⟨_, rfl⟩
        refine wpAnyH_take (i := 30) (oi := { dst := some 94, op := Op.binOp BinOp.neq 25 (Operand.tmp 93) (Operand.const (Value.int IntKind.i64 0)) 25, type := 4, pos := "outright.go:31", after := #[{ on := 29, ground := Ground.data }, { on := 26, ground := Ground.guard }], guard := some (26, false) }) (v := ?_) rfl (by kernel_rfl) (by kernel_rfl) (by kernel_rfl) (fun _ _ _ h => h) (Or.inl ⟨by rfl, ?_⟩) (by assumption) ?_
        rotate_left
        · intro W hSw
          clear hSw
          go_simp
          try with_reducible rfl
        simp only [Act.put, List.setIfInBounds_toArray, List.set_cons_zero, List.set_cons_succ]
        refine wpAnyH_take (i := 31) (oi := { dst := some 95, op := Op.pick (Operand.tmp 90) (Operand.const (Value.bool true)) (Operand.tmp 94), type := 4, pos := "outright.go:31", after := #[{ on := 26, ground := Ground.data }, { on := 30, ground := Ground.data }], guard := none }) (v := ?_) rfl (by kernel_rfl) (by kernel_rfl) (by kernel_rfl) (fun _ _ _ h => h) (Or.inl ⟨by rfl, ?_⟩) (by assumption) ?_
        rotate_left
        · intro W hSw
          clear hSw
          go_simp
          try with_reducible rfl
        simp only [Act.put, List.setIfInBounds_toArray, List.set_cons_zero, List.set_cons_succ]
        refine wpAnyH_done (by kernel_rfl) (NoPanic.normal ?_) _
        clear hHeld
        go_wp2_with fail
        go_meet
        exact ⟨rfl, st5, S5, _, HXc.out, HI5.out, HBc.out⟩))
  case rest =>
  obtain ⟨rfl, st5, S5, nd5, hx, hi5, hb⟩ := hcut
  obtain ⟨w9, rfl⟩ : ∃ w : World, w = wc := ⟨_, rfl⟩
  have HX9 := Lib.hid hx
  have HB9 := Lib.hid hb
  have HUS5 := Lib.hid (show usA st5 = 1 by
    have e1 := hi5 y1 HR1.out
    have e2 := hi5 y2 HR2.out
    rw [hx.us (by decide), List.countP_cons, List.countP_cons, List.countP_nil, e1, e2]
    simp [HNE.out])
  have hrd := chread_any w1.heap.size q cS a 3 st5 S5 nd5 _ _ w9 hx.cr hx.ci y1 HR1.out
  rw [hi5 y1 HR1.out] at hrd
  simp only [decide_true, Bool.true_or, ne_eq, not_true_eq_false, decide_false, Bool.and_false, Bool.false_eq_true, if_false] at hrd
  unfold ndv nd0 at hrd
  have HRD := Lib.hid hrd
  clear hx hi5 hb hrd HI3 HN3 HUS HL3 hbt3
  go_wp2_with fail
  refine HRD.out.mono ?_
  rintro e wa ⟨rfl, hb⟩
  have hb2 := hb.alloc hb.size (.cells #[.int .i64 0, .int .i64 0, .bool false, .string { data := #[] }, .int .u64 0] 31)
  have HXa := Lib.hid (HX9.out.later hb2)
  have HBa := Lib.hid (stepB HB9.out hb2)
  clear hb hb2 HRD HX9 HB9
  go_wp2_with fail
  have hus := chused_any w1.heap.size q cS a 3 st5 S5 _ HXa.out.cr
  rw [HUS5.out] at hus
  refine hus.mono ?_
  clear hus
  rintro e wb ⟨rfl, rfl⟩
  go_wp2
  go_ret
  exact ⟨rfl, HBa.out⟩
end Go.Proofs.Ytbncpfkoeahhpaa
