/- A writer is turned. -/
import Derived.Test.YtmkgipbepipjkaaDoorE
namespace Go.Proofs.YtmkgipbepipjkaaDoor
open Go.ChangeShapes Go.WideShapes Go.ChangeAt Go.RowKit
set_option linter.unusedVariables false
set_option linter.unusedSimpArgs false

set_option maxRecDepth 100000 in
set_option maxHeartbeats 4000000 in
theorem turn_fallen (B p : Nat) (v : Value) (L : List Wr) (la : Int) (en k : Nat) (t : Int) (w : World) (h : WrAt w B p v L la en) (hT : TabAt w) (hB0 : 0 < B) (hk : k < L.length) (hn : L.length ≤ 1000000) (hx : L.getD k w0r = (2, t)) : Calls Tryd.prog 31 #[.pointer (some ⟨p, 0, none⟩), .int .i64 ((k : Int) + 1), .int .u8 4, .int .i64 0] w (TurnEnd B p v L la ((k : Int) + 1) 4 0 w) := by
  have HE : Hid (turnE L la ((k : Int) + 1) 4 0 = 0) := by
    show _ = _
    rw [turnE_in hk hx, if_neg (show ¬ canB 2 4 = false by decide), if_neg (by simp)]
  have hla := h.la0
  have hlb := h.la1
  have H := Lib.hid h
  obtain ⟨A, c, rfl, hc, k0, k1, k2, f0, f1, f2⟩ := h.cells
  obtain ⟨A', c', e, _, hat⟩ := h.own.sl
  cases e
  obtain ⟨g, rfl, hg, hBg, hgl, x0, x1, z0, z1⟩ := hat k hk
  rw [hx] at x0 x1
  simp only at x0 x1
  have hgp : g ≠ p := h.own.ne h.blk (by decide) g hg
  have i1 := windex g L.length c k (k : Int) rfl hk
  have i2 := bindex 2 2 rfl (by decide)
  have w1 : IntKind.i64.wrap ((k : Int) + 1 - 1) = (k : Int) := (IntWalk.i64_in _ (by omega)).trans (by omega)
  have w3 : wrap64 (k : Int) = (k : Int) := by unfold wrap64; omega
  have w4 : IntKind.i64.wrap (k : Int) = (k : Int) := IntWalk.i64_in _ (by omega)
  have d1 : decide ((k : Int) + 1 < 1) = false := decide_eq_false (by omega)
  have d2 : decide ((L.length : Int) < (k : Int) + 1) = false := decide_eq_false (by omega)
  have d3 : ¬ la < 0 := by omega
  have hm := turn_mid (y := (4, 0)) (lb := la) h hk hx rfl hg ⟨show (0 : Int) ≤ 4 by decide, show (4 : Int) ≤ 4 by decide⟩ (by omega) (by omega)
  have HMID := Lib.hid hm
  have HLEN : Hid ((L.set k (4, 0)).length = L.length) := List.length_set ..
  have HMAX : Hid (max la 0 = la) := by show _ = _; omega
  obtain ⟨t0, t1, t2, t3, t4⟩ := hT
  clear h hat hx hm hc
  go_enter Tryd.func31, Tryd.ntmps31
  go_wp2
  have HC := Lib.hid HMID.out.1
  have HF := Lib.hid HMID.out.2
  clear HMID x0 x1 z0 z1 hgp i1 i2 w1 w3 w4 d1 d2 t0 t1 t2 t3 t4 k0 k1 k2 f0 f1 f2 hk d3
  generalize (((w.setCell ⟨g, k * 2, none⟩ (.int .u8 4)).setCell ⟨g, k * 2 + 1, none⟩ (.int .i64 0)).setCell ⟨p, 2, none⟩ (.int .i64 la)) = w2 at *
  obtain ⟨M, hM⟩ : ∃ M, L.set k (4, 0) = M := ⟨_, rfl⟩
  rw [hM] at HC HLEN
  have HMM : Hid (L.set (((k : Int) + 1 - 1).toNat) (4, 0) = M) := by show _ = _; rw [show ((k : Int) + 1 - 1).toNat = k by omega]; exact hM
  obtain ⟨n, hnL⟩ : ∃ n, L.length = n := ⟨_, rfl⟩
  rw [hnL] at HC HF HLEN hn H ⊢
  have hen := HC.out.le
  rw [HLEN.out] at hen
  have HNL := Lib.hid hnL
  clear hM hnL H
  go_loopg [93] (n - en) (fun q z wr => ∃ j, j + q = n ∧ WrAt wr B p (.slice (some ⟨g, 0, none⟩) n c) M la j ∧ Fr w wr p (.slice (some ⟨g, 0, none⟩) n c))
  case atStart => exact ⟨en, by omega, HC.out, HF.out⟩
  case round =>
    obtain ⟨j, hj, hwr, hfr⟩ := hrel
    have HWR := Lib.hid hwr
    have HFR := Lib.hid hfr
    have K0 := Lib.hid (hwr.blk.cell 0)
    have K1 := Lib.hid (hwr.blk.cell 1)
    simp only [List.getElem?_toArray, List.getElem?_cons_zero, List.getElem?_cons_succ] at K0 K1
    obtain ⟨A2, c2, e2, _, hat2⟩ := hwr.own.sl
    rw [HLEN.out] at hat2 e2
    cases e2
    clear hwr hfr HC HF
    by_cases hlt : j < n
    · obtain ⟨g2, e3, _, _, _, x0, x1, _⟩ := hat2 j hlt
      cases e3
      obtain ⟨x, hx⟩ : ∃ x, M.getD j w0r = x := ⟨_, rfl⟩
      rw [hx] at x0 x1
      obtain ⟨xs, xt⟩ := x
      simp only at x0 x1
      have X0 := Lib.hid x0
      have X1 := Lib.hid x1
      have HX := Lib.hid hx
      have i1 := windex g n c j (j : Int) rfl hlt
      have dj : decide ((j : Int) < (n : Int)) = true := decide_eq_true (by omega)
      clear x0 x1 hx hat2
      obtain ⟨bz, hbz⟩ : ∃ b, busyB (xs, xt) = b := ⟨_, rfl⟩
      have HBZ := Lib.hid hbz
      go_wp2_with fail
      refine wp_region_noPanic ?_
      refine wp_region_held_drew (S := Aft wr) (by kernel_rfl) (Aft.drew0 wr) (fun hHeld => ?_)
      refine wpAnyH_take (i := 0) (oi := { dst := some 70, op := Op.move (Operand.tmp 0), type := 22, pos := "status.go:66", after := #[], guard := none }) (v := ?_) rfl (by kernel_rfl) (by kernel_rfl) (by kernel_rfl) (fun _ _ _ h => h) (Or.inl ⟨by rfl, ?_⟩) (by assumption) ?_
      rotate_left
      · intro W hSw
        clear hSw
        go_simp
        try with_reducible rfl
      simp only [Act.put, List.setIfInBounds_toArray, List.set_cons_zero, List.set_cons_succ]
      refine wpAnyH_take (i := 1) (oi := { dst := some 71, op := Op.nilCheck (Operand.tmp 70), type := 0, pos := "status.go:66", after := #[{ on := 0, ground := Ground.data }], guard := none }) (v := ?_) rfl (by kernel_rfl) (by kernel_rfl) (by kernel_rfl) (fun _ _ _ h => h) (Or.inl ⟨by rfl, ?_⟩) (by assumption) ?_
      rotate_left
      · intro W hSw
        clear hSw
        go_simp
        try with_reducible rfl
      simp only [Act.put, List.setIfInBounds_toArray, List.set_cons_zero, List.set_cons_succ]
      refine wpAnyH_take (i := 2) (oi := { dst := some 72, op := Op.fieldAddr 47 (Operand.tmp 71) 1, type := 0, pos := "status.go:66", after := #[{ on := 1, ground := Ground.data }], guard := none }) (v := ?_) rfl (by kernel_rfl) (by kernel_rfl) (by kernel_rfl) (fun _ _ _ h => h) (Or.inl ⟨by rfl, ?_⟩) (by assumption) ?_
      rotate_left
      · intro W hSw
        clear hSw
        go_simp
        try with_reducible rfl
      simp only [Act.put, List.setIfInBounds_toArray, List.set_cons_zero, List.set_cons_succ]
      refine wpAnyH_take (i := 3) (oi := { dst := some 73, op := Op.load 3 (Operand.tmp 72), type := 3, pos := "status.go:66", after := #[{ on := 2, ground := Ground.data }], guard := none }) (v := ?_) rfl (by kernel_rfl) (by kernel_rfl) (by kernel_rfl) (fun _ _ _ h => h) (Or.inl ⟨by rfl, ?_⟩) (by assumption) ?_
      rotate_left
      · intro W hSw
        have kc := cell_later K1.out hSw
        go_simp
        try with_reducible rfl
      simp only [Act.put, List.setIfInBounds_toArray, List.set_cons_zero, List.set_cons_succ]
      refine wpAnyH_take (i := 4) (oi := { dst := some 74, op := Op.move (Operand.tmp 0), type := 22, pos := "status.go:66", after := #[], guard := none }) (v := ?_) rfl (by kernel_rfl) (by kernel_rfl) (by kernel_rfl) (fun _ _ _ h => h) (Or.inl ⟨by rfl, ?_⟩) (by assumption) ?_
      rotate_left
      · intro W hSw
        clear hSw
        go_simp
        try with_reducible rfl
      simp only [Act.put, List.setIfInBounds_toArray, List.set_cons_zero, List.set_cons_succ]
      refine wpAnyH_take (i := 5) (oi := { dst := some 75, op := Op.nilCheck (Operand.tmp 74), type := 0, pos := "status.go:66", after := #[{ on := 4, ground := Ground.data }], guard := none }) (v := ?_) rfl (by kernel_rfl) (by kernel_rfl) (by kernel_rfl) (fun _ _ _ h => h) (Or.inl ⟨by rfl, ?_⟩) (by assumption) ?_
      rotate_left
      · intro W hSw
        clear hSw
        go_simp
        try with_reducible rfl
      simp only [Act.put, List.setIfInBounds_toArray, List.set_cons_zero, List.set_cons_succ]
      refine wpAnyH_take (i := 6) (oi := { dst := some 76, op := Op.fieldAddr 47 (Operand.tmp 75) 0, type := 0, pos := "status.go:66", after := #[{ on := 5, ground := Ground.data }], guard := none }) (v := ?_) rfl (by kernel_rfl) (by kernel_rfl) (by kernel_rfl) (fun _ _ _ h => h) (Or.inl ⟨by rfl, ?_⟩) (by assumption) ?_
      rotate_left
      · intro W hSw
        clear hSw
        go_simp
        try with_reducible rfl
      simp only [Act.put, List.setIfInBounds_toArray, List.set_cons_zero, List.set_cons_succ]
      refine wpAnyH_take (i := 7) (oi := { dst := some 77, op := Op.load 45 (Operand.tmp 76), type := 45, pos := "status.go:66", after := #[{ on := 6, ground := Ground.data }], guard := none }) (v := ?_) rfl (by kernel_rfl) (by kernel_rfl) (by kernel_rfl) (fun _ _ _ h => h) (Or.inl ⟨by rfl, ?_⟩) (by assumption) ?_
      rotate_left
      · intro W hSw
        have kc := cell_later K0.out hSw
        go_simp
        try with_reducible rfl
      simp only [Act.put, List.setIfInBounds_toArray, List.set_cons_zero, List.set_cons_succ]
      refine wpAnyH_take (i := 8) (oi := { dst := some 78, op := Op.call { callee := Callee.builtin Builtin.len, args := #[Operand.tmp 77], argTypes := #[45] }, type := 3, pos := "status.go:66", after := #[{ on := 7, ground := Ground.data }], guard := none }) (v := ?_) rfl (by kernel_rfl) (by kernel_rfl) (by kernel_rfl) (fun _ _ _ h => h) (Or.inl ⟨by rfl, ?_⟩) (by assumption) ?_
      rotate_left
      · intro W hSw
        clear hSw
        go_simp
        try with_reducible rfl
      simp only [Act.put, List.setIfInBounds_toArray, List.set_cons_zero, List.set_cons_succ]
      refine wpAnyH_take (i := 9) (oi := { dst := some 79, op := Op.binOp BinOp.lss 3 (Operand.tmp 73) (Operand.tmp 78) 3, type := 4, pos := "status.go:66", after := #[{ on := 3, ground := Ground.data }, { on := 8, ground := Ground.data }], guard := none }) (v := ?_) rfl (by kernel_rfl) (by kernel_rfl) (by kernel_rfl) (fun _ _ _ h => h) (Or.inl ⟨by rfl, ?_⟩) (by assumption) ?_
      rotate_left
      · intro W hSw
        clear hSw
        go_simp
        try with_reducible rfl
      simp only [Act.put, List.setIfInBounds_toArray, List.set_cons_zero, List.set_cons_succ]
      refine wpAnyH_take (i := 10) (oi := { dst := some 80, op := Op.move (Operand.tmp 79), type := 4, pos := "status.go:66", after := #[{ on := 9, ground := Ground.data }], guard := none }) (v := ?_) rfl (by kernel_rfl) (by kernel_rfl) (by kernel_rfl) (fun _ _ _ h => h) (Or.inl ⟨by rfl, ?_⟩) (by assumption) ?_
      rotate_left
      · intro W hSw
        clear hSw
        go_simp
        try with_reducible rfl
      simp only [Act.put, List.setIfInBounds_toArray, List.set_cons_zero, List.set_cons_succ]
      refine wpAnyH_take (i := 11) (oi := { dst := some 81, op := Op.move (Operand.tmp 0), type := 22, pos := "status.go:66", after := #[{ on := 10, ground := Ground.guard }], guard := some (10, true) }) (v := ?_) rfl (by kernel_rfl) (by kernel_rfl) (by kernel_rfl) (fun _ _ _ h => h) (Or.inl ⟨by rfl, ?_⟩) (by assumption) ?_
      rotate_left
      · intro W hSw
        clear hSw
        go_simp
        try with_reducible rfl
      simp only [Act.put, List.setIfInBounds_toArray, List.set_cons_zero, List.set_cons_succ]
      refine wpAnyH_take (i := 12) (oi := { dst := some 82, op := Op.nilCheck (Operand.tmp 81), type := 0, pos := "status.go:66", after := #[{ on := 11, ground := Ground.data }, { on := 10, ground := Ground.guard }], guard := some (10, true) }) (v := ?_) rfl (by kernel_rfl) (by kernel_rfl) (by kernel_rfl) (fun _ _ _ h => h) (Or.inl ⟨by rfl, ?_⟩) (by assumption) ?_
      rotate_left
      · intro W hSw
        clear hSw
        go_simp
        try with_reducible rfl
      simp only [Act.put, List.setIfInBounds_toArray, List.set_cons_zero, List.set_cons_succ]
      refine wpAnyH_take (i := 13) (oi := { dst := some 83, op := Op.fieldAddr 47 (Operand.tmp 82) 0, type := 0, pos := "status.go:66", after := #[{ on := 12, ground := Ground.data }, { on := 10, ground := Ground.guard }], guard := some (10, true) }) (v := ?_) rfl (by kernel_rfl) (by kernel_rfl) (by kernel_rfl) (fun _ _ _ h => h) (Or.inl ⟨by rfl, ?_⟩) (by assumption) ?_
      rotate_left
      · intro W hSw
        clear hSw
        go_simp
        try with_reducible rfl
      simp only [Act.put, List.setIfInBounds_toArray, List.set_cons_zero, List.set_cons_succ]
      refine wpAnyH_take (i := 14) (oi := { dst := some 84, op := Op.load 45 (Operand.tmp 83), type := 45, pos := "status.go:66", after := #[{ on := 13, ground := Ground.data }, { on := 10, ground := Ground.guard }], guard := some (10, true) }) (v := ?_) rfl (by kernel_rfl) (by kernel_rfl) (by kernel_rfl) (fun _ _ _ h => h) (Or.inl ⟨by rfl, ?_⟩) (by assumption) ?_
      rotate_left
      · intro W hSw
        have kc := cell_later K0.out hSw
        go_simp
        try with_reducible rfl
      simp only [Act.put, List.setIfInBounds_toArray, List.set_cons_zero, List.set_cons_succ]
      refine wpAnyH_take (i := 15) (oi := { dst := some 85, op := Op.move (Operand.tmp 0), type := 22, pos := "status.go:66", after := #[{ on := 10, ground := Ground.guard }], guard := some (10, true) }) (v := ?_) rfl (by kernel_rfl) (by kernel_rfl) (by kernel_rfl) (fun _ _ _ h => h) (Or.inl ⟨by rfl, ?_⟩) (by assumption) ?_
      rotate_left
      · intro W hSw
        clear hSw
        go_simp
        try with_reducible rfl
      simp only [Act.put, List.setIfInBounds_toArray, List.set_cons_zero, List.set_cons_succ]
      refine wpAnyH_take (i := 16) (oi := { dst := some 86, op := Op.nilCheck (Operand.tmp 85), type := 0, pos := "status.go:66", after := #[{ on := 15, ground := Ground.data }, { on := 10, ground := Ground.guard }], guard := some (10, true) }) (v := ?_) rfl (by kernel_rfl) (by kernel_rfl) (by kernel_rfl) (fun _ _ _ h => h) (Or.inl ⟨by rfl, ?_⟩) (by assumption) ?_
      rotate_left
      · intro W hSw
        clear hSw
        go_simp
        try with_reducible rfl
      simp only [Act.put, List.setIfInBounds_toArray, List.set_cons_zero, List.set_cons_succ]
      refine wpAnyH_take (i := 17) (oi := { dst := some 87, op := Op.fieldAddr 47 (Operand.tmp 86) 1, type := 0, pos := "status.go:66", after := #[{ on := 16, ground := Ground.data }, { on := 10, ground := Ground.guard }], guard := some (10, true) }) (v := ?_) rfl (by kernel_rfl) (by kernel_rfl) (by kernel_rfl) (fun _ _ _ h => h) (Or.inl ⟨by rfl, ?_⟩) (by assumption) ?_
      rotate_left
      · intro W hSw
        clear hSw
        go_simp
        try with_reducible rfl
      simp only [Act.put, List.setIfInBounds_toArray, List.set_cons_zero, List.set_cons_succ]
      refine wpAnyH_take (i := 18) (oi := { dst := some 88, op := Op.load 3 (Operand.tmp 87), type := 3, pos := "status.go:66", after := #[{ on := 17, ground := Ground.data }, { on := 10, ground := Ground.guard }], guard := some (10, true) }) (v := ?_) rfl (by kernel_rfl) (by kernel_rfl) (by kernel_rfl) (fun _ _ _ h => h) (Or.inl ⟨by rfl, ?_⟩) (by assumption) ?_
      rotate_left
      · intro W hSw
        have kc := cell_later K1.out hSw
        go_simp
        try with_reducible rfl
      simp only [Act.put, List.setIfInBounds_toArray, List.set_cons_zero, List.set_cons_succ]
      refine wpAnyH_take (i := 19) (oi := { dst := some 89, op := Op.indexAddr 45 (Operand.tmp 84) (Operand.tmp 88), type := 0, pos := "status.go:66", after := #[{ on := 14, ground := Ground.data }, { on := 18, ground := Ground.data }, { on := 10, ground := Ground.guard }], guard := some (10, true) }) (v := ?_) rfl (by kernel_rfl) (by kernel_rfl) (by kernel_rfl) (fun _ _ _ h => h) (Or.inl ⟨by rfl, ?_⟩) (by assumption) ?_
      rotate_left
      · intro W hSw
        clear hSw
        go_simp
        try with_reducible rfl
      simp only [Act.put, List.setIfInBounds_toArray, List.set_cons_zero, List.set_cons_succ]
      refine wpAnyH_take (i := 20) (oi := { dst := some 90, op := Op.load 49 (Operand.tmp 89), type := 49, pos := "status.go:66", after := #[{ on := 19, ground := Ground.data }, { on := 10, ground := Ground.guard }], guard := some (10, true) }) (v := ?_) rfl (by kernel_rfl) (by kernel_rfl) (by kernel_rfl) (fun _ _ _ h => h) (Or.inl ⟨by rfl, ?_⟩) (by assumption) ?_
      rotate_left
      · intro W hSw
        have kx := cell_later X0.out hSw
        have ky := cell_later X1.out hSw
        go_simp
        try with_reducible rfl
      simp only [Act.put, List.setIfInBounds_toArray, List.set_cons_zero, List.set_cons_succ]
      refine wpAnyH_ready (rs := [21]) (by kernel_rfl) (by simp) (AllReadyH.cons (o := { dst := some 91, op := Op.call { callee := Callee.value (Operand.func 33), args := #[Operand.tmp 90], argTypes := #[49] }, type := 4, pos := "status.go:66", after := #[{ on := 20, ground := Ground.data }, { on := 10, ground := Ground.chain }, { on := 10, ground := Ground.guard }], guard := some (10, true) }) rfl (fun K hK => ?_) AllReadyH.nil)
      refine step_callw (by rfl) 33 #[.agg #[.int .u8 xs, .int .i64 xt]] (by go_simp) ?_
      refine (isbusy_any xs xt wr.drew).mono ?_
      rintro z W' ⟨rfl, hb⟩
      rw [hbz]
      refine ⟨_, rfl, hK.out _ _ (Aft.below (Aft.drew0 _) hb) (fun hHeld2 => ?_)⟩
      have HBE := Lib.hid hHeld2
      clear hK K hHeld hb
      simp only [Act.put, List.setIfInBounds_toArray, List.set_cons_zero, List.set_cons_succ]
      refine wpAnyH_take (i := 22) (oi := { dst := some 92, op := Op.unOp UnOp.not 4 (Operand.tmp 91), type := 4, pos := "status.go:66", after := #[{ on := 21, ground := Ground.data }, { on := 10, ground := Ground.guard }], guard := some (10, true) }) (v := ?_) rfl (by kernel_rfl) (by kernel_rfl) (by kernel_rfl) (fun _ _ _ h => h) (Or.inl ⟨by rfl, ?_⟩) (by assumption) ?_
      rotate_left
      · intro W hSw
        clear hSw
        go_simp
        try with_reducible rfl
      simp only [Act.put, List.setIfInBounds_toArray, List.set_cons_zero, List.set_cons_succ]
      refine wpAnyH_take (i := 23) (oi := { dst := some 93, op := Op.pick (Operand.tmp 80) (Operand.tmp 92) (Operand.const (Value.bool false)), type := 4, pos := "status.go:66", after := #[{ on := 10, ground := Ground.data }, { on := 22, ground := Ground.data }], guard := none }) (v := ?_) rfl (by kernel_rfl) (by kernel_rfl) (by kernel_rfl) (fun _ _ _ h => h) (Or.inl ⟨by rfl, ?_⟩) (by assumption) ?_
      rotate_left
      · intro W hSw
        clear hSw
        go_simp
        try with_reducible rfl
      simp only [Act.put, List.setIfInBounds_toArray, List.set_cons_zero, List.set_cons_succ]
      refine wpAnyH_done (by kernel_rfl) (NoPanic.normal ?_) _
      have HW3 := Lib.hid (HWR.out.later (Aft.below (Aft.refl _) HBE.out))
      have HF3 := Lib.hid (HFR.out.trans (Fr.of_below (p := p) (v := .slice (some ⟨g, 0, none⟩) n c) HBE.out))
      clear HBE K0 K1 X0 X1 HWR HFR i1 dj hbz
      cases bz
      · have HN := Lib.hid (turn_next HW3.out (by rw [HLEN.out]; exact hlt) (by rw [HX.out]; exact HBZ.out))
        have q1 := HW3.out.blk.cell 1
        have q2 := HW3.out.blk.frozen 1
        simp only [List.getElem?_toArray, List.getElem?_cons_zero, List.getElem?_cons_succ] at q1
        have wj : IntKind.i64.wrap ((j : Int) + 1) = (j : Int) + 1 := IntWalk.i64_in _ (by omega)
        go_wp2
        go_roundg (gk - 1)
        case rel => exact ⟨j + 1, by omega, HN.out.1, HF3.out.trans HN.out.2⟩
        case measure => omega
      · go_wp2
        go_ret
        rw [HNL.out]
        exact turn_yes HE.out HW3.out HMM.out HMAX.out HF3.out
    · obtain rfl : n = j := by omega
      have dj : decide ((n : Int) < (n : Int)) = false := decide_eq_false (by omega)
      clear hat2
      go_wp2_with fail
      refine wp_region_noPanic ?_
      refine wp_region_held_drew (S := Aft wr) (by kernel_rfl) (Aft.drew0 wr) (fun hHeld => ?_)
      refine wpAnyH_take (i := 0) (oi := { dst := some 70, op := Op.move (Operand.tmp 0), type := 22, pos := "status.go:66", after := #[], guard := none }) (v := ?_) rfl (by kernel_rfl) (by kernel_rfl) (by kernel_rfl) (fun _ _ _ h => h) (Or.inl ⟨by rfl, ?_⟩) (by assumption) ?_
      rotate_left
      · intro W hSw
        clear hSw
        go_simp
        try with_reducible rfl
      simp only [Act.put, List.setIfInBounds_toArray, List.set_cons_zero, List.set_cons_succ]
      refine wpAnyH_take (i := 1) (oi := { dst := some 71, op := Op.nilCheck (Operand.tmp 70), type := 0, pos := "status.go:66", after := #[{ on := 0, ground := Ground.data }], guard := none }) (v := ?_) rfl (by kernel_rfl) (by kernel_rfl) (by kernel_rfl) (fun _ _ _ h => h) (Or.inl ⟨by rfl, ?_⟩) (by assumption) ?_
      rotate_left
      · intro W hSw
        clear hSw
        go_simp
        try with_reducible rfl
      simp only [Act.put, List.setIfInBounds_toArray, List.set_cons_zero, List.set_cons_succ]
      refine wpAnyH_take (i := 2) (oi := { dst := some 72, op := Op.fieldAddr 47 (Operand.tmp 71) 1, type := 0, pos := "status.go:66", after := #[{ on := 1, ground := Ground.data }], guard := none }) (v := ?_) rfl (by kernel_rfl) (by kernel_rfl) (by kernel_rfl) (fun _ _ _ h => h) (Or.inl ⟨by rfl, ?_⟩) (by assumption) ?_
      rotate_left
      · intro W hSw
        clear hSw
        go_simp
        try with_reducible rfl
      simp only [Act.put, List.setIfInBounds_toArray, List.set_cons_zero, List.set_cons_succ]
      refine wpAnyH_take (i := 3) (oi := { dst := some 73, op := Op.load 3 (Operand.tmp 72), type := 3, pos := "status.go:66", after := #[{ on := 2, ground := Ground.data }], guard := none }) (v := ?_) rfl (by kernel_rfl) (by kernel_rfl) (by kernel_rfl) (fun _ _ _ h => h) (Or.inl ⟨by rfl, ?_⟩) (by assumption) ?_
      rotate_left
      · intro W hSw
        have kc := cell_later K1.out hSw
        go_simp
        try with_reducible rfl
      simp only [Act.put, List.setIfInBounds_toArray, List.set_cons_zero, List.set_cons_succ]
      refine wpAnyH_take (i := 4) (oi := { dst := some 74, op := Op.move (Operand.tmp 0), type := 22, pos := "status.go:66", after := #[], guard := none }) (v := ?_) rfl (by kernel_rfl) (by kernel_rfl) (by kernel_rfl) (fun _ _ _ h => h) (Or.inl ⟨by rfl, ?_⟩) (by assumption) ?_
      rotate_left
      · intro W hSw
        clear hSw
        go_simp
        try with_reducible rfl
      simp only [Act.put, List.setIfInBounds_toArray, List.set_cons_zero, List.set_cons_succ]
      refine wpAnyH_take (i := 5) (oi := { dst := some 75, op := Op.nilCheck (Operand.tmp 74), type := 0, pos := "status.go:66", after := #[{ on := 4, ground := Ground.data }], guard := none }) (v := ?_) rfl (by kernel_rfl) (by kernel_rfl) (by kernel_rfl) (fun _ _ _ h => h) (Or.inl ⟨by rfl, ?_⟩) (by assumption) ?_
      rotate_left
      · intro W hSw
        clear hSw
        go_simp
        try with_reducible rfl
      simp only [Act.put, List.setIfInBounds_toArray, List.set_cons_zero, List.set_cons_succ]
      refine wpAnyH_take (i := 6) (oi := { dst := some 76, op := Op.fieldAddr 47 (Operand.tmp 75) 0, type := 0, pos := "status.go:66", after := #[{ on := 5, ground := Ground.data }], guard := none }) (v := ?_) rfl (by kernel_rfl) (by kernel_rfl) (by kernel_rfl) (fun _ _ _ h => h) (Or.inl ⟨by rfl, ?_⟩) (by assumption) ?_
      rotate_left
      · intro W hSw
        clear hSw
        go_simp
        try with_reducible rfl
      simp only [Act.put, List.setIfInBounds_toArray, List.set_cons_zero, List.set_cons_succ]
      refine wpAnyH_take (i := 7) (oi := { dst := some 77, op := Op.load 45 (Operand.tmp 76), type := 45, pos := "status.go:66", after := #[{ on := 6, ground := Ground.data }], guard := none }) (v := ?_) rfl (by kernel_rfl) (by kernel_rfl) (by kernel_rfl) (fun _ _ _ h => h) (Or.inl ⟨by rfl, ?_⟩) (by assumption) ?_
      rotate_left
      · intro W hSw
        have kc := cell_later K0.out hSw
        go_simp
        try with_reducible rfl
      simp only [Act.put, List.setIfInBounds_toArray, List.set_cons_zero, List.set_cons_succ]
      refine wpAnyH_take (i := 8) (oi := { dst := some 78, op := Op.call { callee := Callee.builtin Builtin.len, args := #[Operand.tmp 77], argTypes := #[45] }, type := 3, pos := "status.go:66", after := #[{ on := 7, ground := Ground.data }], guard := none }) (v := ?_) rfl (by kernel_rfl) (by kernel_rfl) (by kernel_rfl) (fun _ _ _ h => h) (Or.inl ⟨by rfl, ?_⟩) (by assumption) ?_
      rotate_left
      · intro W hSw
        clear hSw
        go_simp
        try with_reducible rfl
      simp only [Act.put, List.setIfInBounds_toArray, List.set_cons_zero, List.set_cons_succ]
      refine wpAnyH_take (i := 9) (oi := { dst := some 79, op := Op.binOp BinOp.lss 3 (Operand.tmp 73) (Operand.tmp 78) 3, type := 4, pos := "status.go:66", after := #[{ on := 3, ground := Ground.data }, { on := 8, ground := Ground.data }], guard := none }) (v := ?_) rfl (by kernel_rfl) (by kernel_rfl) (by kernel_rfl) (fun _ _ _ h => h) (Or.inl ⟨by rfl, ?_⟩) (by assumption) ?_
      rotate_left
      · intro W hSw
        clear hSw
        go_simp
        try with_reducible rfl
      simp only [Act.put, List.setIfInBounds_toArray, List.set_cons_zero, List.set_cons_succ]
      refine wpAnyH_take (i := 10) (oi := { dst := some 80, op := Op.move (Operand.tmp 79), type := 4, pos := "status.go:66", after := #[{ on := 9, ground := Ground.data }], guard := none }) (v := ?_) rfl (by kernel_rfl) (by kernel_rfl) (by kernel_rfl) (fun _ _ _ h => h) (Or.inl ⟨by rfl, ?_⟩) (by assumption) ?_
      rotate_left
      · intro W hSw
        clear hSw
        go_simp
        try with_reducible rfl
      simp only [Act.put, List.setIfInBounds_toArray, List.set_cons_zero, List.set_cons_succ]
      refine wpAnyH_take (i := 11) (oi := { dst := some 81, op := Op.move (Operand.tmp 0), type := 22, pos := "status.go:66", after := #[{ on := 10, ground := Ground.guard }], guard := some (10, true) }) (v := undef) rfl (by kernel_rfl) (by kernel_rfl) (by kernel_rfl) (fun _ _ _ h => h) (Or.inr ⟨by rfl, rfl⟩) (by assumption) ?_
      simp only [Act.put, List.setIfInBounds_toArray, List.set_cons_zero, List.set_cons_succ]
      refine wpAnyH_take (i := 12) (oi := { dst := some 82, op := Op.nilCheck (Operand.tmp 81), type := 0, pos := "status.go:66", after := #[{ on := 11, ground := Ground.data }, { on := 10, ground := Ground.guard }], guard := some (10, true) }) (v := undef) rfl (by kernel_rfl) (by kernel_rfl) (by kernel_rfl) (fun _ _ _ h => h) (Or.inr ⟨by rfl, rfl⟩) (by assumption) ?_
      simp only [Act.put, List.setIfInBounds_toArray, List.set_cons_zero, List.set_cons_succ]
      refine wpAnyH_take (i := 13) (oi := { dst := some 83, op := Op.fieldAddr 47 (Operand.tmp 82) 0, type := 0, pos := "status.go:66", after := #[{ on := 12, ground := Ground.data }, { on := 10, ground := Ground.guard }], guard := some (10, true) }) (v := undef) rfl (by kernel_rfl) (by kernel_rfl) (by kernel_rfl) (fun _ _ _ h => h) (Or.inr ⟨by rfl, rfl⟩) (by assumption) ?_
      simp only [Act.put, List.setIfInBounds_toArray, List.set_cons_zero, List.set_cons_succ]
      refine wpAnyH_take (i := 14) (oi := { dst := some 84, op := Op.load 45 (Operand.tmp 83), type := 45, pos := "status.go:66", after := #[{ on := 13, ground := Ground.data }, { on := 10, ground := Ground.guard }], guard := some (10, true) }) (v := undef) rfl (by kernel_rfl) (by kernel_rfl) (by kernel_rfl) (fun _ _ _ h => h) (Or.inr ⟨by rfl, rfl⟩) (by assumption) ?_
      simp only [Act.put, List.setIfInBounds_toArray, List.set_cons_zero, List.set_cons_succ]
      refine wpAnyH_take (i := 15) (oi := { dst := some 85, op := Op.move (Operand.tmp 0), type := 22, pos := "status.go:66", after := #[{ on := 10, ground := Ground.guard }], guard := some (10, true) }) (v := undef) rfl (by kernel_rfl) (by kernel_rfl) (by kernel_rfl) (fun _ _ _ h => h) (Or.inr ⟨by rfl, rfl⟩) (by assumption) ?_
      simp only [Act.put, List.setIfInBounds_toArray, List.set_cons_zero, List.set_cons_succ]
      refine wpAnyH_take (i := 16) (oi := { dst := some 86, op := Op.nilCheck (Operand.tmp 85), type := 0, pos := "status.go:66", after := #[{ on := 15, ground := Ground.data }, { on := 10, ground := Ground.guard }], guard := some (10, true) }) (v := undef) rfl (by kernel_rfl) (by kernel_rfl) (by kernel_rfl) (fun _ _ _ h => h) (Or.inr ⟨by rfl, rfl⟩) (by assumption) ?_
      simp only [Act.put, List.setIfInBounds_toArray, List.set_cons_zero, List.set_cons_succ]
      refine wpAnyH_take (i := 17) (oi := { dst := some 87, op := Op.fieldAddr 47 (Operand.tmp 86) 1, type := 0, pos := "status.go:66", after := #[{ on := 16, ground := Ground.data }, { on := 10, ground := Ground.guard }], guard := some (10, true) }) (v := undef) rfl (by kernel_rfl) (by kernel_rfl) (by kernel_rfl) (fun _ _ _ h => h) (Or.inr ⟨by rfl, rfl⟩) (by assumption) ?_
      simp only [Act.put, List.setIfInBounds_toArray, List.set_cons_zero, List.set_cons_succ]
      refine wpAnyH_take (i := 18) (oi := { dst := some 88, op := Op.load 3 (Operand.tmp 87), type := 3, pos := "status.go:66", after := #[{ on := 17, ground := Ground.data }, { on := 10, ground := Ground.guard }], guard := some (10, true) }) (v := undef) rfl (by kernel_rfl) (by kernel_rfl) (by kernel_rfl) (fun _ _ _ h => h) (Or.inr ⟨by rfl, rfl⟩) (by assumption) ?_
      simp only [Act.put, List.setIfInBounds_toArray, List.set_cons_zero, List.set_cons_succ]
      refine wpAnyH_take (i := 19) (oi := { dst := some 89, op := Op.indexAddr 45 (Operand.tmp 84) (Operand.tmp 88), type := 0, pos := "status.go:66", after := #[{ on := 14, ground := Ground.data }, { on := 18, ground := Ground.data }, { on := 10, ground := Ground.guard }], guard := some (10, true) }) (v := undef) rfl (by kernel_rfl) (by kernel_rfl) (by kernel_rfl) (fun _ _ _ h => h) (Or.inr ⟨by rfl, rfl⟩) (by assumption) ?_
      simp only [Act.put, List.setIfInBounds_toArray, List.set_cons_zero, List.set_cons_succ]
      refine wpAnyH_take (i := 20) (oi := { dst := some 90, op := Op.load 49 (Operand.tmp 89), type := 49, pos := "status.go:66", after := #[{ on := 19, ground := Ground.data }, { on := 10, ground := Ground.guard }], guard := some (10, true) }) (v := undef) rfl (by kernel_rfl) (by kernel_rfl) (by kernel_rfl) (fun _ _ _ h => h) (Or.inr ⟨by rfl, rfl⟩) (by assumption) ?_
      simp only [Act.put, List.setIfInBounds_toArray, List.set_cons_zero, List.set_cons_succ]
      refine wpAnyH_take (i := 21) (oi := { dst := some 91, op := Op.call { callee := Callee.value (Operand.func 33), args := #[Operand.tmp 90], argTypes := #[49] }, type := 4, pos := "status.go:66", after := #[{ on := 20, ground := Ground.data }, { on := 10, ground := Ground.chain }, { on := 10, ground := Ground.guard }], guard := some (10, true) }) (v := undef) rfl (by kernel_rfl) (by kernel_rfl) (by kernel_rfl) (fun _ _ _ h => h) (Or.inr ⟨by rfl, rfl⟩) (by assumption) ?_
      simp only [Act.put, List.setIfInBounds_toArray, List.set_cons_zero, List.set_cons_succ]
      refine wpAnyH_take (i := 22) (oi := { dst := some 92, op := Op.unOp UnOp.not 4 (Operand.tmp 91), type := 4, pos := "status.go:66", after := #[{ on := 21, ground := Ground.data }, { on := 10, ground := Ground.guard }], guard := some (10, true) }) (v := undef) rfl (by kernel_rfl) (by kernel_rfl) (by kernel_rfl) (fun _ _ _ h => h) (Or.inr ⟨by rfl, rfl⟩) (by assumption) ?_
      simp only [Act.put, List.setIfInBounds_toArray, List.set_cons_zero, List.set_cons_succ]
      refine wpAnyH_take (i := 23) (oi := { dst := some 93, op := Op.pick (Operand.tmp 80) (Operand.tmp 92) (Operand.const (Value.bool false)), type := 4, pos := "status.go:66", after := #[{ on := 10, ground := Ground.data }, { on := 22, ground := Ground.data }], guard := none }) (v := ?_) rfl (by kernel_rfl) (by kernel_rfl) (by kernel_rfl) (fun _ _ _ h => h) (Or.inl ⟨by rfl, ?_⟩) (by assumption) ?_
      rotate_left
      · intro W hSw
        clear hSw
        go_simp
        try with_reducible rfl
      simp only [Act.put, List.setIfInBounds_toArray, List.set_cons_zero, List.set_cons_succ]
      refine wpAnyH_done (by kernel_rfl) (NoPanic.normal ?_) _
      have HB3 := Lib.hid (Aft.drew0 wr)
      go_wp2
      go_ret
      rw [HNL.out]
      exact turn_yes HE.out (HWR.out.later HB3.out) HMM.out HMAX.out (HFR.out.trans (Fr.of_below HB3.out))
set_option maxRecDepth 100000 in
set_option maxHeartbeats 4000000 in
theorem turn_ts (B p : Nat) (v : Value) (L : List Wr) (la : Int) (en k : Nat) (t ts : Int) (w : World) (h : WrAt w B p v L la en) (hT : TabAt w) (hk : k < L.length) (hn : L.length ≤ 1000000) (hx : L.getD k w0r = (1, t)) (h0 : ts ≠ 0) (h1 : ts ≤ la ∨ 1048576 < ts) : Calls Tryd.prog 31 #[.pointer (some ⟨p, 0, none⟩), .int .i64 ((k : Int) + 1), .int .u8 3, .int .i64 ts] w (TurnEnd B p v L la ((k : Int) + 1) 3 ts w) := by
  have H := Lib.hid h
  have HE : Hid (turnE L la ((k : Int) + 1) 3 ts = 1) := by
    show _ = _
    rw [turnE_in hk hx, if_neg (show ¬ canB 1 3 = false by decide), if_pos ⟨h0, h1⟩]
  obtain ⟨A, c, rfl, hc, k0, k1, k2, _⟩ := h.cells
  obtain ⟨A', c', e, _, hat⟩ := h.own.sl
  cases e
  obtain ⟨g, rfl, _, _, _, x0, x1, _⟩ := hat k hk
  rw [hx] at x0 x1
  simp only at x0 x1
  have i1 := windex g L.length c k (k : Int) rfl hk
  have i2 := bindex 1 1 rfl (by decide)
  have w1 : IntKind.i64.wrap ((k : Int) + 1 - 1) = (k : Int) := (IntWalk.i64_in _ (by omega)).trans (by omega)
  have w3 : wrap64 (k : Int) = (k : Int) := by unfold wrap64; omega
  have w4 : IntKind.i64.wrap (k : Int) = (k : Int) := IntWalk.i64_in _ (by omega)
  have d1 : decide ((k : Int) + 1 < 1) = false := decide_eq_false (by omega)
  have d2 : decide ((L.length : Int) < (k : Int) + 1) = false := decide_eq_false (by omega)
  have d3 : (ts != 0) = true := by rw [bne_iff_ne]; omega
  obtain ⟨t0, t1, t2, t3, t4⟩ := hT
  clear h hat hx hn hk
  by_cases c1 : ts ≤ la
  · have d4 : decide (ts ≤ la) = true := decide_eq_true c1
    clear h1 h0
    go_enter Tryd.func31, Tryd.ntmps31
    go_wp2
    go_ret
    exact turn_no H.out HE.out (by decide) (Below.refl _ _)
  · have d4 : decide (ts ≤ la) = false := decide_eq_false c1
    have d5 : decide (1048576 < ts) = true := decide_eq_true (by omega)
    clear h1 h0
    go_enter Tryd.func31, Tryd.ntmps31
    go_wp2
    go_ret
    exact turn_no H.out HE.out (by decide) (Below.refl _ _)
end Go.Proofs.YtmkgipbepipjkaaDoor
