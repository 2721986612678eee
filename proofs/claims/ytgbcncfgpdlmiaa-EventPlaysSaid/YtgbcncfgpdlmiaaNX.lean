/- The document's Next: a history with an event more, if it may come. -/
import Derived.Test.YtgbcncfgpdlmiaaU6
import Derived.Test.YtgbcncfgpdlmiaaF
namespace Go.Proofs.Ytgbcncfgpdlmiaa
open Go.ChangeShapes Go.WideShapes Go.ChangeAt Go.RowKit Go.Maps
set_option linter.unusedVariables false
set_option linter.unusedSimpArgs false

theorem built40n (wh t y er : Int) (fo : Bool) (va : ByteArray) (A : Option Addr) (n c : Nat) : Try.prog.built 40 [(0, .int .u8 wh), (1, .int .i64 t), (2, .int .i64 y), (3, .agg #[.int .i64 er, .bool fo, .string va, .slice A n c])] = some #[.int .u8 wh, .int .i64 t, .int .i64 y, .int .i64 er, .bool fo, .string va, .slice A n c] := by kernel_rfl
/-- what the document's Next tells: with the event more; or the history that was handed in -/
def NxtEnd (tasks : Int) (A : Option Addr) (m c : Nat) (Xs : List RE) (r : RE) (w : World) (e : Ending) (w' : World) : Prop :=
  ∃ b : Bool, b = legalL tasks ((Xs ++ [r]).map Prod.fst) ∧ Below w.heap.size w w' ∧ ∃ A2 n2 c2, e = .returned (.tuple #[.slice A2 n2 c2, .bool b]) ∧ (b = false → A2 = A ∧ n2 = m ∧ c2 = c) ∧ (b = true → n2 = m + 1 ∧ ROwn evc 7 w' w.heap.size 40 (.slice A2 n2 c2) n2 (Xs ++ [r]))
abbrev SX (q : Nat) (c : Array Value) (W : World) : Prop := Blk W q c 31
def nxA (wh : Int) (a : An) : An := if wh = 3 then a else an0
def nxH (wh : Int) (h : Hd) : Hd := if wh = 3 then h else (none, 0, 0)
set_option maxRecDepth 100000 in
set_option maxHeartbeats 16000000 in
theorem rnext_any (tasks : Int) (A : Option Addr) (m c : Nat) (Xs : List RE) (wh t er : Int) (fo : Bool) (va : ByteArray) (ps : List Pr) (A1 : Option Addr) (n1 c1 : Nat) (w : World) (h : EvS w A m Xs) (hm : m ≤ 10000) (hnil : A = none → m = 0 ∧ c = 0) (hp : ∀ r ∈ Xs, r.2.2.1 ≤ 100000) (hn1 : n1 ≤ 100000) (hw : ∀ r ∈ Xs, 0 ≤ r.1.1 ∧ r.1.1 ≤ 255) (hwh : 0 ≤ wh ∧ wh ≤ 255) (hpo : ∀ W, Below w.heap.size w W → PO W (A1, n1, c1) ps) : Calls Try.prog 24 #[.int .i64 tasks, .slice A m c, .int .u8 wh, .int .i64 t, .agg #[.int .i64 er, .bool fo, .string va, .slice A1 n1 c1]] w (NxtEnd tasks A m c Xs ((wh, t, ((cnt (Xs.map Prod.fst) t / 3 : Nat) : Int), nxA wh (er, fo, va, ps)), nxH wh (A1, n1, c1)) w) := by
  have HS : Hid (∀ W, Below w.heap.size w W → EvS W A m Xs) := fun W hb => h.later hb
  have HL : Hid (Xs.length = m) := h.rd.1
  have HPO : Hid (∀ W, Below w.heap.size w W → PO W (A1, n1, c1) ps) := hpo
  have HP := Lib.hid hp
  have HW := Lib.hid hw
  have HOF : Hid (∀ W, Below w.heap.size w W → Calls Try.prog 46 #[.slice A m c, .int .i64 t] W fun e W' => ∃ A6 c6, e = .returned (.slice A6 (cnt (Xs.map Prod.fst) t) c6) ∧ Below W.heap.size W W') := fun W hb => (of_any A m c Xs t W (h.later hb) (by omega)).mono (fun e W' ⟨A6, c6, h1, _, h3⟩ => ⟨A6, c6, by rw [← ofR_cnt h.rd.1]; exact h1, h3⟩)
  obtain ⟨u, hu⟩ : ∃ u, cnt (Xs.map Prod.fst) t = u := ⟨_, rfl⟩
  have hul : u ≤ 10000 := by
    rw [← hu]
    have := cnt_le (Xs.map Prod.fst) t
    rw [List.length_map, h.rd.1] at this
    omega
  rw [hu] at HOF
  rw [hu]
  obtain ⟨y, hy⟩ : ∃ y : Int, ((u / 3 : Nat) : Int) = y := ⟨_, rfl⟩
  have q3 : ((u : Nat) : Int).tdiv 3 = y := by rw [← hy]; rfl
  have wy : IntKind.i64.wrap y = y := IntWalk.i64_in _ (by omega)
  rw [hy]
  clear h hp hw hpo hu hy
  by_cases h3 : wh = 3
  · have d3 : (wh != 3) = false := by rw [h3]; rfl
    have HNA : Hid (nxA wh (er, fo, va, ps) = (er, fo, va, ps) ∧ nxH wh (A1, n1, c1) = (A1, n1, c1)) := ⟨if_pos h3, if_pos h3⟩
    rw [HNA.out.1, HNA.out.2]
    have HE0 : Hid (Blk (w.alloc (.cells #[.int .i64 er, .bool fo, .string va, .slice A1 n1 c1] 31)) w.heap.size #[.int .i64 er, .bool fo, .string va, .slice A1 n1 c1] 31) := Blk.new _ _ _
    have HB0 : Hid (Below w.heap.size w (w.alloc (.cells #[.int .i64 er, .bool fo, .string va, .slice A1 n1 c1] 31))) := (Below.refl _ _).alloc (Nat.le_refl _) _
    clear HNA h3
    go_enter Try.func24, Try.ntmps24
    go_upto_region 3 with (fail)
    obtain ⟨q, hq⟩ : ∃ q, w.heap.size = q := ⟨_, rfl⟩
    generalize w.alloc (.cells #[.int .i64 er, .bool fo, .string va, .slice A1 n1 c1] 31) = w4 at *
    rw [hq] at HE0
    try rw [hq]
    clear hq d3
    have hbt := built40n wh t y er fo va A1 n1 c1
    go_cut [12] (fun s12 W => ∃ A9 c9, s12 = .slice A9 (m + 1) c9 ∧ ROwn evc 7 W w.heap.size 40 (.slice A9 (m + 1) c9) (m + 1) (Xs ++ [((wh, t, y, er, fo, va, ps), (A1, n1, c1))]) ∧ Below w.heap.size w W)
    case first =>
      refine wp_region_noPanic ?_
      have hbd : Below w4.heap.size w4 w4.drew := Below.drew (Below.refl _ _)
      have HE5 := Lib.hid (HE0.out.later hbd)
      have HB5 := Lib.hid (stepB HB0.out hbd)
      clear hbd HE0 HB0
      refine wp_region_held_drew (S := SX q #[.int .i64 er, .bool fo, .string va, .slice A1 n1 c1]) (by kernel_rfl) HE5.out (fun hHeld => ?_)
      generalize w4.drew = z00 at *
      refine wpAnyH_take (i := 1) (oi := { dst := some 17, op := Op.move (Operand.tmp 1), type := 32, pos := "ref.go:65", after := #[], guard := none }) (v := ?_) rfl (by kernel_rfl) (by kernel_rfl) (by kernel_rfl) (fun _ _ _ h => h) (Or.inl ⟨by rfl, ?_⟩) (by assumption) ?_
      rotate_left
      · intro W hSw
        clear hSw
        go_simp
        try with_reducible rfl
      simp only [Act.put, List.setIfInBounds_toArray, List.set_cons_zero, List.set_cons_succ]
      refine wpAnyH_take (i := 3) (oi := { dst := some 19, op := Op.move (Operand.tmp 2), type := 5, pos := "ref.go:65", after := #[], guard := none }) (v := ?_) rfl (by kernel_rfl) (by kernel_rfl) (by kernel_rfl) (fun _ _ _ h => h) (Or.inl ⟨by rfl, ?_⟩) (by assumption) ?_
      rotate_left
      · intro W hSw
        clear hSw
        go_simp
        try with_reducible rfl
      simp only [Act.put, List.setIfInBounds_toArray, List.set_cons_zero, List.set_cons_succ]
      refine wpAnyH_take (i := 4) (oi := { dst := some 20, op := Op.move (Operand.tmp 3), type := 3, pos := "ref.go:65", after := #[], guard := none }) (v := ?_) rfl (by kernel_rfl) (by kernel_rfl) (by kernel_rfl) (fun _ _ _ h => h) (Or.inl ⟨by rfl, ?_⟩) (by assumption) ?_
      rotate_left
      · intro W hSw
        clear hSw
        go_simp
        try with_reducible rfl
      simp only [Act.put, List.setIfInBounds_toArray, List.set_cons_zero, List.set_cons_succ]
      refine wpAnyH_take (i := 5) (oi := { dst := some 21, op := Op.move (Operand.tmp 1), type := 32, pos := "ref.go:65", after := #[], guard := none }) (v := ?_) rfl (by kernel_rfl) (by kernel_rfl) (by kernel_rfl) (fun _ _ _ h => h) (Or.inl ⟨by rfl, ?_⟩) (by assumption) ?_
      rotate_left
      · intro W hSw
        clear hSw
        go_simp
        try with_reducible rfl
      simp only [Act.put, List.setIfInBounds_toArray, List.set_cons_zero, List.set_cons_succ]
      refine wpAnyH_take (i := 6) (oi := { dst := some 22, op := Op.move (Operand.tmp 3), type := 3, pos := "ref.go:65", after := #[], guard := none }) (v := ?_) rfl (by kernel_rfl) (by kernel_rfl) (by kernel_rfl) (fun _ _ _ h => h) (Or.inl ⟨by rfl, ?_⟩) (by assumption) ?_
      rotate_left
      · intro W hSw
        clear hSw
        go_simp
        try with_reducible rfl
      simp only [Act.put, List.setIfInBounds_toArray, List.set_cons_zero, List.set_cons_succ]
      refine wpAnyH_take (i := 10) (oi := { dst := some 26, op := Op.load 31 (Operand.tmp 9), type := 31, pos := "ref.go:65", after := #[], guard := none }) (v := ?_) rfl (by kernel_rfl) (by kernel_rfl) (by kernel_rfl) (fun _ _ _ h => h) (Or.inl ⟨by rfl, ?_⟩) (by assumption) ?_
      rotate_left
      · intro W hSw
        have hbk : Blk W q _ 31 := hSw
        have k0 := hbk.cell 0
        have k1 := hbk.cell 1
        have k2 := hbk.cell 2
        have k3 := hbk.cell 3
        simp only [List.getElem?_toArray, List.getElem?_cons_zero, List.getElem?_cons_succ] at k0 k1 k2 k3
        go_simp
        try with_reducible rfl
      simp only [Act.put, List.setIfInBounds_toArray, List.set_cons_zero, List.set_cons_succ]
      refine wpAnyH_ready (rs := [0]) (by kernel_rfl) (by simp) (AllReadyH.cons (o := { dst := some 16, op := Op.buildSlice 32 0 #[], type := 32, pos := "ref.go:65", after := #[], guard := none }) rfl (fun K hK => ?_) AllReadyH.nil)
      have hbx : Below z00.heap.size z00 (z00.alloc (.cells #[] 40)) := (Below.refl _ _).alloc (Nat.le_refl _) _
      have HA : Hid (ROwn evc 7 (z00.alloc (.cells #[] 40)) w.heap.size 40 (.slice (some ⟨z00.heap.size, 0, none⟩) 0 0) 0 []) := ROwn.fresh z00 40 HB5.out.size rfl
      replace HE5 := Lib.hid (HE5.out.later hbx)
      replace HB5 := Lib.hid (stepB HB5.out hbx)
      clear hbx
      go_simp
      refine hK.out _ _ HE5.out (fun hHeld2 => ?_)
      clear hK K
      try clear hHeld
      have hHeld := hHeld2
      clear hHeld2
      try simp only [Act.put, List.setIfInBounds_toArray, List.set_cons_zero, List.set_cons_succ]
      generalize z00.alloc (.cells #[] 40) = z10 at *
      generalize z00.heap.size = xa at *
      refine wpAnyH_ready (rs := [2]) (by kernel_rfl) (by simp) (AllReadyH.cons (o := { dst := some 18, op := Op.call { callee := Callee.builtin Builtin.append, args := #[Operand.tmp 16, Operand.tmp 17], argTypes := #[32, 32] }, type := 32, pos := "ref.go:65", after := #[{ on := 0, ground := Ground.data }, { on := 1, ground := Ground.data }], guard := none }) rfl (fun K hK => ?_) AllReadyH.nil)
      refine step_append_row elemEv rfl (.tmp 16) (.tmp 17) rfl w.heap.size (.slice (some ⟨xa, 0, none⟩) 0 0) 0 [] rfl HA.out A m c Xs rfl (HS.out _ HB5.out).rd hnil (by omega) (by decide) HB5.out.size (fun va_ z20 ho hg => ?_)
      have HE6 := Lib.hid (HE5.out.grown hg (fun e => HA.out.nq HE5.out (by decide) e.symm))
      have HB6 : Hid (Below w.heap.size w z20) := HB5.out.grown hg HB5.out.size (fun j e => (HA.out.lt j e).1)
      have HA6 : Hid (ROwn evc 7 z20 w.heap.size 40 va_ m Xs) := by
        have h := ho
        rw [Nat.zero_add, List.nil_append] at h
        exact h
      clear ho hg HE5 HB5 HA
      have HE5 := HE6
      have HB5 := HB6
      have HA := HA6
      clear HE6 HB6 HA6
      refine hK.out _ _ HE5.out (fun hHeld2 => ?_)
      clear hK K
      try clear hHeld
      have hHeld := hHeld2
      clear hHeld2
      try simp only [Act.put, List.setIfInBounds_toArray, List.set_cons_zero, List.set_cons_succ]
      refine wpAnyH_ready (rs := [7]) (by kernel_rfl) (by simp) (AllReadyH.cons (o := { dst := some 23, op := Op.call { callee := Callee.value (Operand.func 46), args := #[Operand.tmp 21, Operand.tmp 22], argTypes := #[32, 3] }, type := 32, pos := "ref.go:65", after := #[{ on := 5, ground := Ground.data }, { on := 6, ground := Ground.data }, { on := 2, ground := Ground.chain }], guard := none }) rfl (fun K hK => ?_) AllReadyH.nil)
      refine step_callw (by rfl) 46 #[.slice A m c, .int .i64 t] (by go_simp) ?_
      refine (HOF.out z20 HB5.out).mono ?_
      rintro z z21 ⟨A6, c6, rfl, hb⟩
      replace HE5 := Lib.hid (HE5.out.later hb)
      replace HB5 := Lib.hid (stepB HB5.out hb)
      replace HA := Lib.hid (HA.out.later hb)
      clear hb
      refine ⟨_, rfl, hK.out _ _ HE5.out (fun hHeld2 => ?_)⟩
      clear hK K hHeld
      have hHeld := hHeld2
      clear hHeld2
      try simp only [Act.put, List.setIfInBounds_toArray, List.set_cons_zero, List.set_cons_succ]
      refine wpAnyH_take (i := 8) (oi := { dst := some 24, op := Op.call { callee := Callee.builtin Builtin.len, args := #[Operand.tmp 23], argTypes := #[32] }, type := 3, pos := "ref.go:65", after := #[{ on := 7, ground := Ground.data }], guard := none }) (v := ?_) rfl (by kernel_rfl) (by kernel_rfl) (by kernel_rfl) (fun _ _ _ h => h) (Or.inl ⟨by rfl, ?_⟩) (by assumption) ?_
      rotate_left
      · intro W hSw
        clear hSw
        go_simp
        try with_reducible rfl
      simp only [Act.put, List.setIfInBounds_toArray, List.set_cons_zero, List.set_cons_succ]
      refine wpAnyH_take (i := 9) (oi := { dst := some 25, op := Op.binOp BinOp.quo 3 (Operand.tmp 24) (Operand.const (Value.int IntKind.i64 3)) 3, type := 3, pos := "ref.go:65", after := #[{ on := 8, ground := Ground.data }], guard := none }) (v := ?_) rfl (by kernel_rfl) (by kernel_rfl) (by kernel_rfl) (fun _ _ _ h => h) (Or.inl ⟨by rfl, ?_⟩) (by assumption) ?_
      rotate_left
      · intro W hSw
        clear hSw
        go_simp
        try with_reducible rfl
      simp only [Act.put, List.setIfInBounds_toArray, List.set_cons_zero, List.set_cons_succ]
      refine wpAnyH_take (i := 11) (oi := { dst := some 27, op := Op.build 40 #[(0, Operand.tmp 19), (1, Operand.tmp 20), (2, Operand.tmp 25), (3, Operand.tmp 26)], type := 40, pos := "ref.go:65", after := #[{ on := 3, ground := Ground.data }, { on := 4, ground := Ground.data }, { on := 9, ground := Ground.data }, { on := 10, ground := Ground.data }], guard := none }) (v := ?_) rfl (by kernel_rfl) (by kernel_rfl) (by kernel_rfl) (fun _ _ _ h => h) (Or.inl ⟨by rfl, ?_⟩) (by assumption) ?_
      rotate_left
      · intro W hSw
        clear hSw
        go_simp
        try with_reducible rfl
      simp only [Act.put, List.setIfInBounds_toArray, List.set_cons_zero, List.set_cons_succ]
      refine wpAnyH_ready (rs := [12]) (by kernel_rfl) (by simp) (AllReadyH.cons (o := { dst := some 28, op := Op.buildSlice 32 1 #[(0, Operand.tmp 27)], type := 32, pos := "ref.go:65", after := #[{ on := 11, ground := Ground.data }], guard := none }) rfl (fun K hK => ?_) AllReadyH.nil)
      have hbx : Below z21.heap.size z21 (z21.alloc (.cells #[.int .u8 wh, .int .i64 t, .int .i64 y, .int .i64 er, .bool fo, .string va, .slice A1 n1 c1] 40)) := (Below.refl _ _).alloc (Nat.le_refl _) _
      have HX : Hid (Blk (z21.alloc (.cells #[.int .u8 wh, .int .i64 t, .int .i64 y, .int .i64 er, .bool fo, .string va, .slice A1 n1 c1] 40)) z21.heap.size #[.int .u8 wh, .int .i64 t, .int .i64 y, .int .i64 er, .bool fo, .string va, .slice A1 n1 c1] 40) := Blk.new _ _ _
      replace HE5 := Lib.hid (HE5.out.later hbx)
      replace HB5 := Lib.hid (stepB HB5.out hbx)
      replace HA := Lib.hid (HA.out.later hbx)
      clear hbx
      go_simp
      refine hK.out _ _ HE5.out (fun hHeld2 => ?_)
      clear hK K
      try clear hHeld
      have hHeld := hHeld2
      clear hHeld2
      try simp only [Act.put, List.setIfInBounds_toArray, List.set_cons_zero, List.set_cons_succ]
      generalize z21.alloc (.cells #[.int .u8 wh, .int .i64 t, .int .i64 y, .int .i64 er, .bool fo, .string va, .slice A1 n1 c1] 40) = z22 at *
      generalize z21.heap.size = xq at *
      refine wpAnyH_ready (rs := [13]) (by kernel_rfl) (by simp) (AllReadyH.cons (o := { dst := some 29, op := Op.call { callee := Callee.builtin Builtin.append, args := #[Operand.tmp 18, Operand.tmp 28], argTypes := #[32, 32] }, type := 32, pos := "ref.go:65", after := #[{ on := 2, ground := Ground.data }, { on := 12, ground := Ground.data }, { on := 7, ground := Ground.chain }], guard := none }) rfl (fun K hK => ?_) AllReadyH.nil)
      refine step_append_row1 elemEv rfl (.tmp 18) (.tmp 28) rfl w.heap.size va_ m Xs rfl HA.out xq 1 ((wh, t, y, er, fo, va, ps), (A1, n1, c1)) rfl (Blk.rsl (x := ((wh, t, y, er, fo, va, ps), (A1, n1, c1))) HX.out) (by omega) (by decide) HB5.out.size (fun A8 c8 w8 ho8 hg8 hn8 hl8 => ?_)
      have HE8 := Lib.hid (HE5.out.grown hg8 (fun e => HA.out.nq HE5.out (by decide) e.symm))
      have HB8 : Hid (Below w.heap.size w w8) := HB5.out.grown hg8 HB5.out.size (fun j e => (HA.out.lt j e).1)
      have HO8 := Lib.hid ho8
      clear ho8 hg8 hn8 hl8 HA HX HE5 HB5
      refine hK.out _ _ HE8.out (fun hHeld2 => ?_)
      clear hK K
      try clear hHeld
      have hHeld := hHeld2
      clear hHeld2
      try simp only [Act.put, List.setIfInBounds_toArray, List.set_cons_zero, List.set_cons_succ]
      refine wpAnyH_take (i := 14) (oi := { dst := some 12, op := Op.assign (Operand.tmp 29), type := 32, pos := "ref.go:65", after := #[{ on := 13, ground := Ground.data }, { on := 13, ground := Ground.chain }, { on := 0, ground := Ground.phase }, { on := 1, ground := Ground.phase }, { on := 2, ground := Ground.phase }, { on := 3, ground := Ground.phase }, { on := 4, ground := Ground.phase }, { on := 5, ground := Ground.phase }, { on := 6, ground := Ground.phase }, { on := 7, ground := Ground.phase }, { on := 8, ground := Ground.phase }, { on := 9, ground := Ground.phase }, { on := 10, ground := Ground.phase }, { on := 11, ground := Ground.phase }, { on := 12, ground := Ground.phase }, { on := 13, ground := Ground.phase }], guard := none }) (v := ?_) rfl (by kernel_rfl) (by kernel_rfl) (by kernel_rfl) (fun _ _ _ h => h) (Or.inl ⟨by rfl, ?_⟩) (by assumption) ?_
      rotate_left
      · intro W hSw
        clear hSw
        go_simp
        try with_reducible rfl
      simp only [Act.put, List.setIfInBounds_toArray, List.set_cons_zero, List.set_cons_succ]
      refine wpAnyH_done (by kernel_rfl) (NoPanic.normal ?_) _
      clear hHeld
      go_wp2_with fail
      go_meet
      exact ⟨_, _, rfl, HO8.out, HB8.out⟩
    case rest =>
      obtain ⟨A9, c9, rfl, ho, hb⟩ := hcut
      obtain ⟨w5, rfl⟩ : ∃ w : World, w = wc := ⟨_, rfl⟩
      have HB5 := Lib.hid hb
      have HO5 := Lib.hid ho
      clear hb ho hbt q3 wy HE0 HB0
      have HEV : Hid (EvS w5 A9 (m + 1) (Xs ++ [((wh, t, y, er, fo, va, ps), (A1, n1, c1))])) := ⟨HO5.out.rsl evc_len, fun r hr => by
        rcases List.mem_append.1 hr with hr | hr
        · exact (HS.out _ HB5.out).po r hr
        · rw [List.mem_singleton.1 hr]; exact HPO.out _ HB5.out⟩
      have HRL := Lib.hid (rlegalA_any tasks A9 (m + 1) c9 _ w5 HEV.out (by omega) (fun r hr => by
        rcases List.mem_append.1 hr with hr | hr
        · exact HP.out r hr
        · rw [List.mem_singleton.1 hr]; exact hn1) (fun r hr => by
        rcases List.mem_append.1 hr with hr | hr
        · exact HW.out r hr
        · rw [List.mem_singleton.1 hr]; exact hwh))
      obtain ⟨lg, hlg⟩ : ∃ b, legalL tasks ((Xs ++ [((wh, t, y, er, fo, va, ps), (A1, n1, c1))]).map Prod.fst) = b := ⟨_, rfl⟩
      rw [hlg] at HRL
      have HLG := Lib.hid hlg.symm
      clear hlg HEV
      go_wp2_with fail
      refine HRL.out.mono ?_
      rintro e w6 ⟨rfl, hb⟩
      have HB6 := Lib.hid (stepB HB5.out hb)
      have HO6 := Lib.hid (HO5.out.later hb)
      clear hb HRL HB5 HO5
      cases lg with
      | true =>
        go_wp2
        go_ret2
        exact ⟨true, HLG.out, HB6.out, _, _, _, rfl, (fun h => by cases h), fun _ => ⟨rfl, HO6.out⟩⟩
      | false =>
        go_wp2
        go_ret2
        exact ⟨false, HLG.out, HB6.out, _, _, _, rfl, (fun _ => ⟨rfl, rfl, rfl⟩), fun h => by cases h⟩
  · have d3 : (wh != 3) = true := by simpa using h3
    have HNA : Hid (nxA wh (er, fo, va, ps) = an0 ∧ nxH wh (A1, n1, c1) = (none, 0, 0)) := ⟨if_neg h3, if_neg h3⟩
    rw [HNA.out.1, HNA.out.2]
    have HE0 : Hid (Blk (w.alloc (.cells #[.int .i64 0, .bool false, .string { data := #[] }, .slice none 0 0] 31)) w.heap.size #[.int .i64 0, .bool false, .string { data := #[] }, .slice none 0 0] 31) := Blk.new _ _ _
    have HB0 : Hid (Below w.heap.size w (w.alloc (.cells #[.int .i64 0, .bool false, .string { data := #[] }, .slice none 0 0] 31))) := (Below.refl _ _).alloc (Nat.le_refl _) _
    have hbt := built31
    clear HNA h3
    go_enter Try.func24, Try.ntmps24
    go_upto_region 3 with (first
      | (refine wpl_build rfl 31 _ rfl _ hbt ?_)
      | fail)
    obtain ⟨q, hq⟩ : ∃ q, w.heap.size = q := ⟨_, rfl⟩
    generalize w.alloc (.cells #[.int .i64 0, .bool false, .string { data := #[] }, .slice none 0 0] 31) = w4 at *
    rw [hq] at HE0
    try rw [hq]
    clear hq d3 hbt HPO hn1
    obtain ⟨⟨er, fo, va, ps⟩, ⟨A1, n1, c1⟩, h0⟩ : ∃ (a : An) (hd : Hd), a = an0 ∧ hd = (none, 0, 0) := ⟨_, _, rfl, rfl⟩
    have HPO : Hid (∀ W, Below w.heap.size w W → PO W (A1, n1, c1) ps) := fun W _ => by
      obtain ⟨h1, h2⟩ := h0
      simp only [an0, Prod.mk.injEq] at h1 h2
      obtain ⟨_, _, _, rfl⟩ := h1
      obtain ⟨rfl, rfl, rfl⟩ := h2
      exact PO.empty W
    have hn1 : n1 ≤ 100000 := by
      have h2 := h0.2
      simp only [Prod.mk.injEq] at h2
      omega
    replace HE0 : Hid (Blk w4 q #[.int .i64 er, .bool fo, .string va, .slice A1 n1 c1] 31) := by
      obtain ⟨h1, h2⟩ := h0
      simp only [an0, Prod.mk.injEq] at h1 h2
      obtain ⟨rfl, rfl, rfl, rfl⟩ := h1
      obtain ⟨rfl, rfl, rfl⟩ := h2
      exact HE0.out
    have HQ0 : Hid (∀ (e : Ending) (w' : World), NxtEnd tasks A m c Xs ((wh, t, y, er, fo, va, ps), A1, n1, c1) w e w' → NxtEnd tasks A m c Xs ((wh, t, y, an0), none, 0, 0) w e w') := by
      intro e w' h
      rw [h0.1, h0.2] at h
      exact h
    clear h0
    have hbt := built40n wh t y er fo va A1 n1 c1
    go_cut [12] (fun s12 W => ∃ A9 c9, s12 = .slice A9 (m + 1) c9 ∧ ROwn evc 7 W w.heap.size 40 (.slice A9 (m + 1) c9) (m + 1) (Xs ++ [((wh, t, y, er, fo, va, ps), (A1, n1, c1))]) ∧ Below w.heap.size w W)
    case first =>
      refine wp_region_noPanic ?_
      have hbd : Below w4.heap.size w4 w4.drew := Below.drew (Below.refl _ _)
      have HE5 := Lib.hid (HE0.out.later hbd)
      have HB5 := Lib.hid (stepB HB0.out hbd)
      clear hbd HE0 HB0
      refine wp_region_held_drew (S := SX q #[.int .i64 er, .bool fo, .string va, .slice A1 n1 c1]) (by kernel_rfl) HE5.out (fun hHeld => ?_)
      generalize w4.drew = z00 at *
      refine wpAnyH_take (i := 1) (oi := { dst := some 17, op := Op.move (Operand.tmp 1), type := 32, pos := "ref.go:65", after := #[], guard := none }) (v := ?_) rfl (by kernel_rfl) (by kernel_rfl) (by kernel_rfl) (fun _ _ _ h => h) (Or.inl ⟨by rfl, ?_⟩) (by assumption) ?_
      rotate_left
      · intro W hSw
        clear hSw
        go_simp
        try with_reducible rfl
      simp only [Act.put, List.setIfInBounds_toArray, List.set_cons_zero, List.set_cons_succ]
      refine wpAnyH_take (i := 3) (oi := { dst := some 19, op := Op.move (Operand.tmp 2), type := 5, pos := "ref.go:65", after := #[], guard := none }) (v := ?_) rfl (by kernel_rfl) (by kernel_rfl) (by kernel_rfl) (fun _ _ _ h => h) (Or.inl ⟨by rfl, ?_⟩) (by assumption) ?_
      rotate_left
      · intro W hSw
        clear hSw
        go_simp
        try with_reducible rfl
      simp only [Act.put, List.setIfInBounds_toArray, List.set_cons_zero, List.set_cons_succ]
      refine wpAnyH_take (i := 4) (oi := { dst := some 20, op := Op.move (Operand.tmp 3), type := 3, pos := "ref.go:65", after := #[], guard := none }) (v := ?_) rfl (by kernel_rfl) (by kernel_rfl) (by kernel_rfl) (fun _ _ _ h => h) (Or.inl ⟨by rfl, ?_⟩) (by assumption) ?_
      rotate_left
      · intro W hSw
        clear hSw
        go_simp
        try with_reducible rfl
      simp only [Act.put, List.setIfInBounds_toArray, List.set_cons_zero, List.set_cons_succ]
      refine wpAnyH_take (i := 5) (oi := { dst := some 21, op := Op.move (Operand.tmp 1), type := 32, pos := "ref.go:65", after := #[], guard := none }) (v := ?_) rfl (by kernel_rfl) (by kernel_rfl) (by kernel_rfl) (fun _ _ _ h => h) (Or.inl ⟨by rfl, ?_⟩) (by assumption) ?_
      rotate_left
      · intro W hSw
        clear hSw
        go_simp
        try with_reducible rfl
      simp only [Act.put, List.setIfInBounds_toArray, List.set_cons_zero, List.set_cons_succ]
      refine wpAnyH_take (i := 6) (oi := { dst := some 22, op := Op.move (Operand.tmp 3), type := 3, pos := "ref.go:65", after := #[], guard := none }) (v := ?_) rfl (by kernel_rfl) (by kernel_rfl) (by kernel_rfl) (fun _ _ _ h => h) (Or.inl ⟨by rfl, ?_⟩) (by assumption) ?_
      rotate_left
      · intro W hSw
        clear hSw
        go_simp
        try with_reducible rfl
      simp only [Act.put, List.setIfInBounds_toArray, List.set_cons_zero, List.set_cons_succ]
      refine wpAnyH_take (i := 10) (oi := { dst := some 26, op := Op.load 31 (Operand.tmp 9), type := 31, pos := "ref.go:65", after := #[], guard := none }) (v := ?_) rfl (by kernel_rfl) (by kernel_rfl) (by kernel_rfl) (fun _ _ _ h => h) (Or.inl ⟨by rfl, ?_⟩) (by assumption) ?_
      rotate_left
      · intro W hSw
        have hbk : Blk W q _ 31 := hSw
        have k0 := hbk.cell 0
        have k1 := hbk.cell 1
        have k2 := hbk.cell 2
        have k3 := hbk.cell 3
        simp only [List.getElem?_toArray, List.getElem?_cons_zero, List.getElem?_cons_succ] at k0 k1 k2 k3
        go_simp
        try with_reducible rfl
      simp only [Act.put, List.setIfInBounds_toArray, List.set_cons_zero, List.set_cons_succ]
      refine wpAnyH_ready (rs := [0]) (by kernel_rfl) (by simp) (AllReadyH.cons (o := { dst := some 16, op := Op.buildSlice 32 0 #[], type := 32, pos := "ref.go:65", after := #[], guard := none }) rfl (fun K hK => ?_) AllReadyH.nil)
      have hbx : Below z00.heap.size z00 (z00.alloc (.cells #[] 40)) := (Below.refl _ _).alloc (Nat.le_refl _) _
      have HA : Hid (ROwn evc 7 (z00.alloc (.cells #[] 40)) w.heap.size 40 (.slice (some ⟨z00.heap.size, 0, none⟩) 0 0) 0 []) := ROwn.fresh z00 40 HB5.out.size rfl
      replace HE5 := Lib.hid (HE5.out.later hbx)
      replace HB5 := Lib.hid (stepB HB5.out hbx)
      clear hbx
      go_simp
      refine hK.out _ _ HE5.out (fun hHeld2 => ?_)
      clear hK K
      try clear hHeld
      have hHeld := hHeld2
      clear hHeld2
      try simp only [Act.put, List.setIfInBounds_toArray, List.set_cons_zero, List.set_cons_succ]
      generalize z00.alloc (.cells #[] 40) = z10 at *
      generalize z00.heap.size = xa at *
      refine wpAnyH_ready (rs := [2]) (by kernel_rfl) (by simp) (AllReadyH.cons (o := { dst := some 18, op := Op.call { callee := Callee.builtin Builtin.append, args := #[Operand.tmp 16, Operand.tmp 17], argTypes := #[32, 32] }, type := 32, pos := "ref.go:65", after := #[{ on := 0, ground := Ground.data }, { on := 1, ground := Ground.data }], guard := none }) rfl (fun K hK => ?_) AllReadyH.nil)
      refine step_append_row elemEv rfl (.tmp 16) (.tmp 17) rfl w.heap.size (.slice (some ⟨xa, 0, none⟩) 0 0) 0 [] rfl HA.out A m c Xs rfl (HS.out _ HB5.out).rd hnil (by omega) (by decide) HB5.out.size (fun va_ z20 ho hg => ?_)
      have HE6 := Lib.hid (HE5.out.grown hg (fun e => HA.out.nq HE5.out (by decide) e.symm))
      have HB6 : Hid (Below w.heap.size w z20) := HB5.out.grown hg HB5.out.size (fun j e => (HA.out.lt j e).1)
      have HA6 : Hid (ROwn evc 7 z20 w.heap.size 40 va_ m Xs) := by
        have h := ho
        rw [Nat.zero_add, List.nil_append] at h
        exact h
      clear ho hg HE5 HB5 HA
      have HE5 := HE6
      have HB5 := HB6
      have HA := HA6
      clear HE6 HB6 HA6
      refine hK.out _ _ HE5.out (fun hHeld2 => ?_)
      clear hK K
      try clear hHeld
      have hHeld := hHeld2
      clear hHeld2
      try simp only [Act.put, List.setIfInBounds_toArray, List.set_cons_zero, List.set_cons_succ]
      refine wpAnyH_ready (rs := [7]) (by kernel_rfl) (by simp) (AllReadyH.cons (o := { dst := some 23, op := Op.call { callee := Callee.value (Operand.func 46), args := #[Operand.tmp 21, Operand.tmp 22], argTypes := #[32, 3] }, type := 32, pos := "ref.go:65", after := #[{ on := 5, ground := Ground.data }, { on := 6, ground := Ground.data }, { on := 2, ground := Ground.chain }], guard := none }) rfl (fun K hK => ?_) AllReadyH.nil)
      refine step_callw (by rfl) 46 #[.slice A m c, .int .i64 t] (by go_simp) ?_
      refine (HOF.out z20 HB5.out).mono ?_
      rintro z z21 ⟨A6, c6, rfl, hb⟩
      replace HE5 := Lib.hid (HE5.out.later hb)
      replace HB5 := Lib.hid (stepB HB5.out hb)
      replace HA := Lib.hid (HA.out.later hb)
      clear hb
      refine ⟨_, rfl, hK.out _ _ HE5.out (fun hHeld2 => ?_)⟩
      clear hK K hHeld
      have hHeld := hHeld2
      clear hHeld2
      try simp only [Act.put, List.setIfInBounds_toArray, List.set_cons_zero, List.set_cons_succ]
      refine wpAnyH_take (i := 8) (oi := { dst := some 24, op := Op.call { callee := Callee.builtin Builtin.len, args := #[Operand.tmp 23], argTypes := #[32] }, type := 3, pos := "ref.go:65", after := #[{ on := 7, ground := Ground.data }], guard := none }) (v := ?_) rfl (by kernel_rfl) (by kernel_rfl) (by kernel_rfl) (fun _ _ _ h => h) (Or.inl ⟨by rfl, ?_⟩) (by assumption) ?_
      rotate_left
      · intro W hSw
        clear hSw
        go_simp
        try with_reducible rfl
      simp only [Act.put, List.setIfInBounds_toArray, List.set_cons_zero, List.set_cons_succ]
      refine wpAnyH_take (i := 9) (oi := { dst := some 25, op := Op.binOp BinOp.quo 3 (Operand.tmp 24) (Operand.const (Value.int IntKind.i64 3)) 3, type := 3, pos := "ref.go:65", after := #[{ on := 8, ground := Ground.data }], guard := none }) (v := ?_) rfl (by kernel_rfl) (by kernel_rfl) (by kernel_rfl) (fun _ _ _ h => h) (Or.inl ⟨by rfl, ?_⟩) (by assumption) ?_
      rotate_left
      · intro W hSw
        clear hSw
        go_simp
        try with_reducible rfl
      simp only [Act.put, List.setIfInBounds_toArray, List.set_cons_zero, List.set_cons_succ]
      refine wpAnyH_take (i := 11) (oi := { dst := some 27, op := Op.build 40 #[(0, Operand.tmp 19), (1, Operand.tmp 20), (2, Operand.tmp 25), (3, Operand.tmp 26)], type := 40, pos := "ref.go:65", after := #[{ on := 3, ground := Ground.data }, { on := 4, ground := Ground.data }, { on := 9, ground := Ground.data }, { on := 10, ground := Ground.data }], guard := none }) (v := ?_) rfl (by kernel_rfl) (by kernel_rfl) (by kernel_rfl) (fun _ _ _ h => h) (Or.inl ⟨by rfl, ?_⟩) (by assumption) ?_
      rotate_left
      · intro W hSw
        clear hSw
        go_simp
        try with_reducible rfl
      simp only [Act.put, List.setIfInBounds_toArray, List.set_cons_zero, List.set_cons_succ]
      refine wpAnyH_ready (rs := [12]) (by kernel_rfl) (by simp) (AllReadyH.cons (o := { dst := some 28, op := Op.buildSlice 32 1 #[(0, Operand.tmp 27)], type := 32, pos := "ref.go:65", after := #[{ on := 11, ground := Ground.data }], guard := none }) rfl (fun K hK => ?_) AllReadyH.nil)
      have hbx : Below z21.heap.size z21 (z21.alloc (.cells #[.int .u8 wh, .int .i64 t, .int .i64 y, .int .i64 er, .bool fo, .string va, .slice A1 n1 c1] 40)) := (Below.refl _ _).alloc (Nat.le_refl _) _
      have HX : Hid (Blk (z21.alloc (.cells #[.int .u8 wh, .int .i64 t, .int .i64 y, .int .i64 er, .bool fo, .string va, .slice A1 n1 c1] 40)) z21.heap.size #[.int .u8 wh, .int .i64 t, .int .i64 y, .int .i64 er, .bool fo, .string va, .slice A1 n1 c1] 40) := Blk.new _ _ _
      replace HE5 := Lib.hid (HE5.out.later hbx)
      replace HB5 := Lib.hid (stepB HB5.out hbx)
      replace HA := Lib.hid (HA.out.later hbx)
      clear hbx
      go_simp
      refine hK.out _ _ HE5.out (fun hHeld2 => ?_)
      clear hK K
      try clear hHeld
      have hHeld := hHeld2
      clear hHeld2
      try simp only [Act.put, List.setIfInBounds_toArray, List.set_cons_zero, List.set_cons_succ]
      generalize z21.alloc (.cells #[.int .u8 wh, .int .i64 t, .int .i64 y, .int .i64 er, .bool fo, .string va, .slice A1 n1 c1] 40) = z22 at *
      generalize z21.heap.size = xq at *
      refine wpAnyH_ready (rs := [13]) (by kernel_rfl) (by simp) (AllReadyH.cons (o := { dst := some 29, op := Op.call { callee := Callee.builtin Builtin.append, args := #[Operand.tmp 18, Operand.tmp 28], argTypes := #[32, 32] }, type := 32, pos := "ref.go:65", after := #[{ on := 2, ground := Ground.data }, { on := 12, ground := Ground.data }, { on := 7, ground := Ground.chain }], guard := none }) rfl (fun K hK => ?_) AllReadyH.nil)
      refine step_append_row1 elemEv rfl (.tmp 18) (.tmp 28) rfl w.heap.size va_ m Xs rfl HA.out xq 1 ((wh, t, y, er, fo, va, ps), (A1, n1, c1)) rfl (Blk.rsl (x := ((wh, t, y, er, fo, va, ps), (A1, n1, c1))) HX.out) (by omega) (by decide) HB5.out.size (fun A8 c8 w8 ho8 hg8 hn8 hl8 => ?_)
      have HE8 := Lib.hid (HE5.out.grown hg8 (fun e => HA.out.nq HE5.out (by decide) e.symm))
      have HB8 : Hid (Below w.heap.size w w8) := HB5.out.grown hg8 HB5.out.size (fun j e => (HA.out.lt j e).1)
      have HO8 := Lib.hid ho8
      clear ho8 hg8 hn8 hl8 HA HX HE5 HB5
      refine hK.out _ _ HE8.out (fun hHeld2 => ?_)
      clear hK K
      try clear hHeld
      have hHeld := hHeld2
      clear hHeld2
      try simp only [Act.put, List.setIfInBounds_toArray, List.set_cons_zero, List.set_cons_succ]
      refine wpAnyH_take (i := 14) (oi := { dst := some 12, op := Op.assign (Operand.tmp 29), type := 32, pos := "ref.go:65", after := #[{ on := 13, ground := Ground.data }, { on := 13, ground := Ground.chain }, { on := 0, ground := Ground.phase }, { on := 1, ground := Ground.phase }, { on := 2, ground := Ground.phase }, { on := 3, ground := Ground.phase }, { on := 4, ground := Ground.phase }, { on := 5, ground := Ground.phase }, { on := 6, ground := Ground.phase }, { on := 7, ground := Ground.phase }, { on := 8, ground := Ground.phase }, { on := 9, ground := Ground.phase }, { on := 10, ground := Ground.phase }, { on := 11, ground := Ground.phase }, { on := 12, ground := Ground.phase }, { on := 13, ground := Ground.phase }], guard := none }) (v := ?_) rfl (by kernel_rfl) (by kernel_rfl) (by kernel_rfl) (fun _ _ _ h => h) (Or.inl ⟨by rfl, ?_⟩) (by assumption) ?_
      rotate_left
      · intro W hSw
        clear hSw
        go_simp
        try with_reducible rfl
      simp only [Act.put, List.setIfInBounds_toArray, List.set_cons_zero, List.set_cons_succ]
      refine wpAnyH_done (by kernel_rfl) (NoPanic.normal ?_) _
      clear hHeld
      go_wp2_with fail
      go_meet
      exact ⟨_, _, rfl, HO8.out, HB8.out⟩
    case rest =>
      obtain ⟨A9, c9, rfl, ho, hb⟩ := hcut
      obtain ⟨w5, rfl⟩ : ∃ w : World, w = wc := ⟨_, rfl⟩
      have HB5 := Lib.hid hb
      have HO5 := Lib.hid ho
      clear hb ho hbt q3 wy HE0 HB0
      have HEV : Hid (EvS w5 A9 (m + 1) (Xs ++ [((wh, t, y, er, fo, va, ps), (A1, n1, c1))])) := ⟨HO5.out.rsl evc_len, fun r hr => by
        rcases List.mem_append.1 hr with hr | hr
        · exact (HS.out _ HB5.out).po r hr
        · rw [List.mem_singleton.1 hr]; exact HPO.out _ HB5.out⟩
      have HRL := Lib.hid (rlegalA_any tasks A9 (m + 1) c9 _ w5 HEV.out (by omega) (fun r hr => by
        rcases List.mem_append.1 hr with hr | hr
        · exact HP.out r hr
        · rw [List.mem_singleton.1 hr]; exact hn1) (fun r hr => by
        rcases List.mem_append.1 hr with hr | hr
        · exact HW.out r hr
        · rw [List.mem_singleton.1 hr]; exact hwh))
      obtain ⟨lg, hlg⟩ : ∃ b, legalL tasks ((Xs ++ [((wh, t, y, er, fo, va, ps), (A1, n1, c1))]).map Prod.fst) = b := ⟨_, rfl⟩
      rw [hlg] at HRL
      have HLG := Lib.hid hlg.symm
      clear hlg HEV
      go_wp2_with fail
      refine HRL.out.mono ?_
      rintro e w6 ⟨rfl, hb⟩
      have HB6 := Lib.hid (stepB HB5.out hb)
      have HO6 := Lib.hid (HO5.out.later hb)
      clear hb HRL HB5 HO5
      cases lg with
      | true =>
        go_wp2
        go_ret2
        exact HQ0.out _ _ ⟨true, HLG.out, HB6.out, _, _, _, rfl, (fun h => by cases h), fun _ => ⟨rfl, HO6.out⟩⟩
      | false =>
        go_wp2
        go_ret2
        exact HQ0.out _ _ ⟨false, HLG.out, HB6.out, _, _, _, rfl, (fun _ => ⟨rfl, rfl, rfl⟩), fun h => by cases h⟩
end Go.Proofs.Ytgbcncfgpdlmiaa
