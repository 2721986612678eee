/- begin. -/
import Derived.Test.YtoinjnocopejjaaNP
import Derived.StillTailTactics
namespace Go.Proofs.Ytoinjnocopejjaa
open Go.ChangeShapes Go.WideShapes Go.ChangeAt Go.RowKit Go.Maps
set_option linter.unusedVariables false
set_option linter.unusedSimpArgs false
set_option maxRecDepth 100000 in
set_option maxHeartbeats 1600000 in
theorem begin_any (B p : Nat) (s : MS) (S : Nat → Prop) (t : Int) (tx li : Int) (ke en va : ByteArray) (kn eg : Nat) (w : World) (h : MR w B p s S) (h0 : refM s t (kn, tx, ke, en, va, li, eg) = 0) (hkn : kn = 1) (hn : s.txns.length ≤ 100000) : Calls Try.prog 52 #[.pointer (some ⟨p, 0, none⟩), .int .i64 t, .agg #[.int .u8 (kn : Int), .int .i64 tx, .string ke, .string en, .string va, .int .i64 li, .int .u8 (eg : Int)]] w (AnEnd (actM s t (txW s t tx) (kn, tx, ke, en, va, li, eg)).2 (actM s t (txW s t tx) (kn, tx, ke, en, va, li, eg)).1 B p S w) := by
  obtain ⟨x, h, rfl⟩ := h
  obtain ⟨ht, _⟩ := refM_0 h0
  obtain ⟨i, rfl⟩ : ∃ i : Nat, t = (i : Int) := ⟨t.toNat, by omega⟩
  have hi : i < s.tasks.length := by omega
  have HAC : Hid (∀ W : World, Below w.heap.size w W → Calls Try.prog 23 #[.pointer (some ⟨p, 0, none⟩)] W fun e w' => e = .returned (.int .i64 (actN s.txns : Nat)) ∧ Below W.heap.size W w') := Lib.hid (fun W hW => active_any B p s _ W ⟨x, h.later hW, rfl⟩ hn)
  have HA1 : Hid (s.cf.ac ≤ (actN s.txns : Int) → actM s (i : Int) (txW s (i : Int) tx) (kn, tx, ke, en, va, li, eg) = (s, asE_ 34)) := Lib.hid (fun hg => by
    rw [hkn]
    show (if s.cf.ac ≤ (actN s.txns : Int) then (s, asE_ 34) else (beginM s (i : Int), as0)) = _
    rw [if_pos hg])
  have HA2 : Hid (¬ s.cf.ac ≤ (actN s.txns : Int) → actM s (i : Int) (txW s (i : Int) tx) (kn, tx, ke, en, va, li, eg) = (beginM s (i : Int), as0) ∧ OkM (beginM s (i : Int)) ∧ OkM ⟨s.cf, s.clock, s.floor, s.txns ++ [(1, s.clock)], s.tasks, s.rows⟩) := Lib.hid (fun hg => ⟨by
    rw [hkn]
    show (if s.cf.ac ≤ (actN s.txns : Int) then (s, asE_ 34) else (beginM s (i : Int), as0)) = _
    rw [if_neg hg], h.ok.begin ht (by omega), h.ok.newTx (by omega)⟩)
  generalize actM s (i : Int) (txW s (i : Int) tx) (kn, tx, ke, en, va, li, eg) = R at *
  obtain ⟨na, hna⟩ : ∃ na, actN s.txns = na := ⟨_, rfl⟩
  rw [hna] at HAC HA1 HA2
  have hb2 : Below w.heap.size w ((w.alloc (.cells #[.int .u8 (kn : Int), .int .i64 tx, .string ke, .string en, .string va, .int .i64 li, .int .u8 (eg : Int)] 36)).alloc (.cells #[.int .i64 0, .bool false, .string ⟨#[]⟩, .slice none 0 0] 33)) := ((Below.refl _ _).alloc (Nat.le_refl _) _).alloc (by simp) _
  have HB := Lib.hid hb2
  have K6 : Hid (Blk ((w.alloc (.cells #[.int .u8 (kn : Int), .int .i64 tx, .string ke, .string en, .string va, .int .i64 li, .int .u8 (eg : Int)] 36)).alloc (.cells #[.int .i64 0, .bool false, .string ⟨#[]⟩, .slice none 0 0] 33)) (w.heap.size + 1) #[.int .i64 0, .bool false, .string ⟨#[]⟩, .slice none 0 0] 33) := Lib.hid (Blk.new2 _ _ 33 (by simp))
  have HM := Lib.hid h
  have HPL : Hid (∀ k, MxS p x k → k < w.heap.size) := Lib.hid (fun k e => (h.lt k e).2)
  have HBS : Hid (B ≤ w.heap.size) := Lib.hid (by have := h.lt p (.inl rfl); omega)
  have c1 := h.c0 1
  simp only [mdC, List.getElem?_cons_succ, List.getElem?_cons_zero] at c1
  have C1 := Lib.hid c1
  have HN := Lib.hid hn
  have HI := Lib.hid hi
  clear hb2 h ht h0 hkn hna c1 hn hi
  go_enter Try.func52, Try.ntmps52
  go_upto_region 1 with (fail)
  generalize ((w.alloc (.cells #[.int .u8 (kn : Int), .int .i64 tx, .string ke, .string en, .string va, .int .i64 li, .int .u8 (eg : Int)] 36)).alloc (.cells #[.int .i64 0, .bool false, .string ⟨#[]⟩, .slice none 0 0] 33)) = w2 at *
  obtain ⟨b, hb⟩ : ∃ b, decide (s.cf.ac ≤ (na : Int)) = b := ⟨_, rfl⟩
  have hb' : decide ((na : Int) ≥ s.cf.ac) = b := hb
  refine wp_region_noPanic ?_
  obtain ⟨W0, rfl⟩ : ∃ W0 : World, W0 = w2 := ⟨_, rfl⟩
  refine wp_region_held_drew (S := fun W => Below w.heap.size w W) (by kernel_rfl) (Below.drew HB.out) (fun hHeld => ?_)
  replace HB : Hid (Below w.heap.size w (World.drew W0)) := Lib.hid (Below.drew HB.out)
  replace K6 : Hid (Blk (World.drew W0) (w.heap.size + 1) #[.int .i64 0, .bool false, .string ⟨#[]⟩, .slice none 0 0] 33) := Lib.hid K6.out
  generalize World.drew W0 = Wd at *
  refine wpAnyH_take (i := 0) (oi := { dst := some 7, op := Op.move (Operand.tmp 0), type := 22, pos := "model.go:116", after := #[], guard := none }) (v := ?_) rfl (by kernel_rfl) (by kernel_rfl) (by kernel_rfl) (fun _ _ _ h => h) (Or.inl ⟨by rfl, ?_⟩) (by assumption) ?_
  rotate_left
  · intro W hSw
    clear hSw
    go_simp
    try with_reducible rfl
  simp only [Act.put, List.setIfInBounds_toArray, List.set_cons_zero, List.set_cons_succ]
  refine wpAnyH_take (i := 2) (oi := { dst := some 9, op := Op.move (Operand.tmp 0), type := 22, pos := "model.go:116", after := #[], guard := none }) (v := ?_) rfl (by kernel_rfl) (by kernel_rfl) (by kernel_rfl) (fun _ _ _ h => h) (Or.inl ⟨by rfl, ?_⟩) (by assumption) ?_
  rotate_left
  · intro W hSw
    clear hSw
    go_simp
    try with_reducible rfl
  simp only [Act.put, List.setIfInBounds_toArray, List.set_cons_zero, List.set_cons_succ]
  refine wpAnyH_take (i := 3) (oi := { dst := some 10, op := Op.nilCheck (Operand.tmp 9), type := 0, pos := "model.go:116", after := #[{ on := 2, ground := Ground.data }], guard := none }) (v := ?_) rfl (by kernel_rfl) (by kernel_rfl) (by kernel_rfl) (fun _ _ _ h => h) (Or.inl ⟨by rfl, ?_⟩) (by assumption) ?_
  rotate_left
  · intro W hSw
    clear hSw
    go_simp
    try with_reducible rfl
  simp only [Act.put, List.setIfInBounds_toArray, List.set_cons_zero, List.set_cons_succ]
  refine wpAnyH_take (i := 4) (oi := { dst := some 11, op := Op.fieldAddr 110 (Operand.tmp 10) 0, type := 0, pos := "model.go:116", after := #[{ on := 3, ground := Ground.data }], guard := none }) (v := ?_) rfl (by kernel_rfl) (by kernel_rfl) (by kernel_rfl) (fun _ _ _ h => h) (Or.inl ⟨by rfl, ?_⟩) (by assumption) ?_
  rotate_left
  · intro W hSw
    clear hSw
    go_simp
    try with_reducible rfl
  simp only [Act.put, List.setIfInBounds_toArray, List.set_cons_zero, List.set_cons_succ]
  refine wpAnyH_take (i := 5) (oi := { dst := some 12, op := Op.fieldAddr 45 (Operand.tmp 11) 1, type := 0, pos := "model.go:116", after := #[{ on := 4, ground := Ground.data }], guard := none }) (v := ?_) rfl (by kernel_rfl) (by kernel_rfl) (by kernel_rfl) (fun _ _ _ h => h) (Or.inl ⟨by rfl, ?_⟩) (by assumption) ?_
  rotate_left
  · intro W hSw
    clear hSw
    go_simp
    try with_reducible rfl
  simp only [Act.put, List.setIfInBounds_toArray, List.set_cons_zero, List.set_cons_succ]
  refine wpAnyH_take (i := 6) (oi := { dst := some 13, op := Op.load 3 (Operand.tmp 12), type := 3, pos := "model.go:116", after := #[{ on := 5, ground := Ground.data }], guard := none }) (v := ?_) rfl (by kernel_rfl) (by kernel_rfl) (by kernel_rfl) (fun _ _ _ h => h) (Or.inl ⟨by rfl, ?_⟩) (by assumption) ?_
  rotate_left
  · intro W hSw
    have q1 := (hSw.cell (p := ⟨p, 1, none⟩) (lt_of_cell C1.out)).trans C1.out
    clear hSw
    go_simp
    try with_reducible rfl
  simp only [Act.put, List.setIfInBounds_toArray, List.set_cons_zero, List.set_cons_succ]
  refine wpAnyH_ready (rs := [1]) (by kernel_rfl) (by simp) (AllReadyH.cons (o := { dst := some 8, op := Op.call { callee := Callee.value (Operand.func 23), args := #[Operand.tmp 7], argTypes := #[22] }, type := 3, pos := "model.go:116", after := #[{ on := 0, ground := Ground.data }], guard := none }) rfl (fun K hK => ?_) AllReadyH.nil)
  have HCL := Lib.hid (HAC.out Wd HB.out)
  go_simp
  refine HCL.out.mono ?_
  rintro e w3 ⟨rfl, hb3⟩
  replace HB := Lib.hid (stepB HB.out hb3)
  replace K6 := Lib.hid (K6.out.later hb3)
  clear hb3 hHeld HCL HAC
  refine hK.out _ _ (HB.out) (fun hHeld => ?_)
  clear hK K
  refine wpAnyH_take (i := 7) (oi := { dst := some 14, op := Op.binOp BinOp.geq 3 (Operand.tmp 8) (Operand.tmp 13) 3, type := 4, pos := "model.go:116", after := #[{ on := 1, ground := Ground.data }, { on := 6, ground := Ground.data }], guard := none }) (v := ?_) rfl (by kernel_rfl) (by kernel_rfl) (by kernel_rfl) (fun _ _ _ h => h) (Or.inl ⟨by rfl, ?_⟩) (by assumption) ?_
  rotate_left
  · intro W hSw
    clear hSw
    go_simp
    try with_reducible rfl
  simp only [Act.put, List.setIfInBounds_toArray, List.set_cons_zero, List.set_cons_succ]
  refine wpAnyH_done (by kernel_rfl) (NoPanic.normal ?_) _
  clear hHeld
  cases b with
  | true =>
    have HG := Lib.hid (of_decide_eq_true hb)
    have u0 := K6.out.cell 0
    have u1 := K6.out.cell 1
    have u2 := K6.out.cell 2
    have u3 := K6.out.cell 3
    simp only [List.getElem?_toArray, List.getElem?_cons_zero, List.getElem?_cons_succ] at u0 u1 u2 u3
    have v0 := K6.out.frozen 0
    have v1 := K6.out.frozen 1
    have v2 := K6.out.frozen 2
    have v3 := K6.out.frozen 3
    have HS := Lib.hid (setB4 K6.out rfl (.int .i64 34) (.bool false) (.string ⟨#[]⟩) (.slice none 0 0) HB.out (Nat.le_succ _))
    go_wp2
    refine bodyPost_ret (results_cell_row rfl _ _ (w.heap.size + 1) 33 _ (0, 0) _ rfl HS.out.1 Try.underlying33 rfl (by kernel_rfl)) rfl ?_
    exact AnEnd.of (HA1.out HG.out) (anEnd0 ((Mv.same ⟨x, HM.out, rfl⟩ HS.out.2)))
  | false =>
    have HA := Lib.hid (HA2.out (of_decide_eq_false hb))
    have HMB := HM
    replace HM := Lib.hid (HM.out.later HB.out)
    clear HA1 HA2 C1
    obtain ⟨At, ct, etv, _, _⟩ := HM.out.txr
    have HTX := Lib.hid HM.out.tx
    rw [etv] at HTX
    have ETV := Lib.hid etv
    clear etv
    obtain ⟨N, hN⟩ : ∃ N, s.txns.length = N := ⟨_, rfl⟩
    rw [hN] at HTX ETV HN
    have HNL := Lib.hid hN
    clear hN
    go_upto_region 3 with (fail)
    clear hb hb' 
    refine wp_region_noPanic ?_
    obtain ⟨W0, rfl⟩ : ∃ W0 : World, W0 = w3 := ⟨_, rfl⟩
    refine wp_region_held_drew (S := fun W => ∃ v, Blk W p (mdC s.cf s.clock s.floor v x.tb s.tasks.length x.b).toArray 110) (by kernel_rfl) (⟨_, HM.out.blk⟩) (fun hHeld => ?_)
    replace HM : Hid (MdAt (World.drew W0) B p s x) := Lib.hid (HM.out.later (Below.drew (Below.refl _ _)))
    replace HB : Hid (Below w.heap.size w (World.drew W0)) := Lib.hid (Below.drew HB.out)
    replace K6 : Hid (Blk (World.drew W0) (w.heap.size + 1) #[.int .i64 0, .bool false, .string ⟨#[]⟩, .slice none 0 0] 33) := Lib.hid K6.out
    replace HTX : Hid (ROwn txE 2 (World.drew W0) B 112 (.slice At N ct) N s.txns) := Lib.hid (HTX.out.later (Below.drew (Below.refl _ _)))
    generalize World.drew W0 = Wd at *
    refine wpAnyH_take (i := 0) (oi := { dst := some 16, op := Op.move (Operand.tmp 0), type := 22, pos := "model.go:119", after := #[], guard := none }) (v := ?_) rfl (by kernel_rfl) (by kernel_rfl) (by kernel_rfl) (fun _ _ _ h => h) (Or.inl ⟨by rfl, ?_⟩) (by assumption) ?_
    rotate_left
    · intro W hSw
      clear hSw
      go_simp
      try with_reducible rfl
    simp only [Act.put, List.setIfInBounds_toArray, List.set_cons_zero, List.set_cons_succ]
    refine wpAnyH_take (i := 1) (oi := { dst := some 17, op := Op.move (Operand.tmp 0), type := 22, pos := "model.go:119", after := #[], guard := none }) (v := ?_) rfl (by kernel_rfl) (by kernel_rfl) (by kernel_rfl) (fun _ _ _ h => h) (Or.inl ⟨by rfl, ?_⟩) (by assumption) ?_
    rotate_left
    · intro W hSw
      clear hSw
      go_simp
      try with_reducible rfl
    simp only [Act.put, List.setIfInBounds_toArray, List.set_cons_zero, List.set_cons_succ]
    refine wpAnyH_take (i := 2) (oi := { dst := some 18, op := Op.nilCheck (Operand.tmp 17), type := 0, pos := "model.go:119", after := #[{ on := 1, ground := Ground.data }], guard := none }) (v := ?_) rfl (by kernel_rfl) (by kernel_rfl) (by kernel_rfl) (fun _ _ _ h => h) (Or.inl ⟨by rfl, ?_⟩) (by assumption) ?_
    rotate_left
    · intro W hSw
      clear hSw
      go_simp
      try with_reducible rfl
    simp only [Act.put, List.setIfInBounds_toArray, List.set_cons_zero, List.set_cons_succ]
    refine wpAnyH_take (i := 3) (oi := { dst := some 19, op := Op.fieldAddr 110 (Operand.tmp 18) 3, type := 0, pos := "model.go:119", after := #[{ on := 2, ground := Ground.data }], guard := none }) (v := ?_) rfl (by kernel_rfl) (by kernel_rfl) (by kernel_rfl) (fun _ _ _ h => h) (Or.inl ⟨by rfl, ?_⟩) (by assumption) ?_
    rotate_left
    · intro W hSw
      clear hSw
      go_simp
      try with_reducible rfl
    simp only [Act.put, List.setIfInBounds_toArray, List.set_cons_zero, List.set_cons_succ]
    refine wpAnyH_take (i := 5) (oi := { dst := some 21, op := Op.move (Operand.tmp 0), type := 22, pos := "model.go:119", after := #[], guard := none }) (v := ?_) rfl (by kernel_rfl) (by kernel_rfl) (by kernel_rfl) (fun _ _ _ h => h) (Or.inl ⟨by rfl, ?_⟩) (by assumption) ?_
    rotate_left
    · intro W hSw
      clear hSw
      go_simp
      try with_reducible rfl
    simp only [Act.put, List.setIfInBounds_toArray, List.set_cons_zero, List.set_cons_succ]
    refine wpAnyH_take (i := 6) (oi := { dst := some 22, op := Op.nilCheck (Operand.tmp 21), type := 0, pos := "model.go:119", after := #[{ on := 5, ground := Ground.data }], guard := none }) (v := ?_) rfl (by kernel_rfl) (by kernel_rfl) (by kernel_rfl) (fun _ _ _ h => h) (Or.inl ⟨by rfl, ?_⟩) (by assumption) ?_
    rotate_left
    · intro W hSw
      clear hSw
      go_simp
      try with_reducible rfl
    simp only [Act.put, List.setIfInBounds_toArray, List.set_cons_zero, List.set_cons_succ]
    refine wpAnyH_take (i := 7) (oi := { dst := some 23, op := Op.fieldAddr 110 (Operand.tmp 22) 1, type := 0, pos := "model.go:119", after := #[{ on := 6, ground := Ground.data }], guard := none }) (v := ?_) rfl (by kernel_rfl) (by kernel_rfl) (by kernel_rfl) (fun _ _ _ h => h) (Or.inl ⟨by rfl, ?_⟩) (by assumption) ?_
    rotate_left
    · intro W hSw
      clear hSw
      go_simp
      try with_reducible rfl
    simp only [Act.put, List.setIfInBounds_toArray, List.set_cons_zero, List.set_cons_succ]
    refine wpAnyH_take (i := 8) (oi := { dst := some 24, op := Op.load 3 (Operand.tmp 23), type := 3, pos := "model.go:119", after := #[{ on := 7, ground := Ground.data }], guard := none }) (v := ?_) rfl (by kernel_rfl) (by kernel_rfl) (by kernel_rfl) (fun _ _ _ h => h) (Or.inl ⟨by rfl, ?_⟩) (by assumption) ?_
    rotate_left
    · intro W hSw
      obtain ⟨v9, hv9⟩ := hSw
      have q8 := hv9.cell 8
      simp only [mdC, List.getElem?_toArray, List.getElem?_cons_succ, List.getElem?_cons_zero] at q8
      clear hv9
      go_simp
      try with_reducible rfl
    simp only [Act.put, List.setIfInBounds_toArray, List.set_cons_zero, List.set_cons_succ]
    refine wpAnyH_take (i := 9) (oi := { dst := some 25, op := Op.build 112 #[(0, Operand.const (Value.int IntKind.u8 1)), (1, Operand.tmp 24)], type := 112, pos := "model.go:119", after := #[{ on := 8, ground := Ground.data }], guard := none }) (v := ?_) rfl (by kernel_rfl) (by kernel_rfl) (by kernel_rfl) (fun _ _ _ h => h) (Or.inl ⟨by rfl, ?_⟩) (by assumption) ?_
    rotate_left
    · intro W hSw
      clear hSw
      go_simp
      try with_reducible rfl
    simp only [Act.put, List.setIfInBounds_toArray, List.set_cons_zero, List.set_cons_succ]
    refine wpAnyH_ready (rs := [4, 10]) (by kernel_rfl) (by simp) (AllReadyH.cons (o := { dst := some 20, op := Op.load 106 (Operand.tmp 19), type := 106, pos := "model.go:119", after := #[{ on := 3, ground := Ground.data }], guard := none }) rfl (fun K hK => ?_) (AllReadyH.cons (o := { dst := some 26, op := Op.buildSlice 106 1 #[(0, Operand.tmp 25)], type := 106, pos := "model.go:119", after := #[{ on := 9, ground := Ground.data }], guard := none }) rfl (fun K hK => ?_) AllReadyH.nil))
    · have q10 := HM.out.c0 10
      simp only [mdC, List.getElem?_cons_succ, List.getElem?_cons_zero] at q10
      rw [ETV.out] at q10
      go_simp
      clear q10 hHeld
      refine hK.out _ _ (⟨_, HM.out.blk⟩) (fun hHeld => ?_)
      clear hK K
      refine wpAnyH_ready (rs := [10]) (by kernel_rfl) (by simp) (AllReadyH.cons (o := { dst := some 26, op := Op.buildSlice 106 1 #[(0, Operand.tmp 25)], type := 106, pos := "model.go:119", after := #[{ on := 9, ground := Ground.data }], guard := none }) rfl (fun K hK => ?_) AllReadyH.nil)
      go_simp
      have hb : Below Wd.heap.size Wd (Wd.alloc (.cells #[.int .u8 1, .int .i64 s.clock] 112)) := (Below.refl _ _).alloc (Nat.le_refl _) _
      have KV : Hid (Blk (Wd.alloc (.cells #[.int .u8 1, .int .i64 s.clock] 112)) Wd.heap.size #[.int .u8 1, .int .i64 s.clock] 112) := Lib.hid (Blk.new Wd _ 112)
      replace HM := Lib.hid (HM.out.later hb)
      replace HB := Lib.hid (stepB HB.out hb)
      replace K6 := Lib.hid (K6.out.later hb)
      replace HTX := Lib.hid (HTX.out.later hb)
      clear hb hHeld
      refine hK.out _ _ (⟨_, HM.out.blk⟩) (fun hHeld => ?_)
      clear hK K
      generalize Wd.alloc (.cells #[.int .u8 1, .int .i64 s.clock] 112) = Wf at *
      obtain ⟨qv, hqv⟩ : ∃ x, Wd.heap.size = x := ⟨_, rfl⟩
      rw [hqv] at KV ⊢
      clear hqv
      refine wpAnyH_ready (rs := [11]) (by kernel_rfl) (by simp) (AllReadyH.cons (o := { dst := some 27, op := Op.call { callee := Callee.builtin Builtin.append, args := #[Operand.tmp 20, Operand.tmp 26], argTypes := #[106, 106] }, type := 106, pos := "model.go:119", after := #[{ on := 4, ground := Ground.data }, { on := 10, ground := Ground.data }], guard := none }) rfl (fun K hK => ?_) AllReadyH.nil)
      refine wp_append_row1 elemX (.tmp 20) (.tmp 26) rfl B (.slice At N ct) N s.txns rfl HTX.out qv 1 (1, s.clock) rfl KV.out.rsl1 (by have := HN.out; omega) (by decide) (Nat.le_trans HBS.out HB.out.size) ?_
      intro A6 c6 w6 ho6 hg6 hn6 _
      rw [← ETV.out] at hg6 hn6
      have hbg := HM.out.begun (n1 := N + 1) (by rw [List.length_append, HNL.out]; rfl) ho6 hg6 HA.out.2.2
      have HM7 := Lib.hid hbg.1
      have HF7 : Hid (FrS w (w6.setCell ⟨p, 10, none⟩ (.slice A6 (N + 1) c6)) (MxS p x)) := Lib.hid ((FrS.of_below HB.out (S := MxS p x)).trans hbg.2.1 (fun i hi => .inl hi))
      have HSB : Hid (∀ k, MxS p { x with tv := .slice A6 (N + 1) c6 } k → MxS p x k ∨ w.heap.size ≤ k) := Lib.hid (fun k e => by
        rcases e with e | e | e | e | e
        · exact .inl (.inl e)
        · rcases hn6 k e with e2 | e2
          · exact .inl (.inr (.inl e2))
          · exact .inr (Nat.le_trans HB.out.size e2)
        · exact .inl (.inr (.inr (.inl e)))
        · exact .inl (.inr (.inr (.inr (.inl e))))
        · exact .inl (.inr (.inr (.inr (.inr e)))))
      have K67 := Lib.hid (hbg.2.1.blk K6.out (fun e => by have := HPL.out _ e; omega))
      have HP6 := Lib.hid hbg.2.2
      clear hbg ho6 hg6 hn6 HM K6 HTX HB KV hHeld
      refine hK.out _ _ (⟨_, HP6.out⟩) (fun hHeld => ?_)
      clear hK K
      refine wpAnyH_take (i := 12) (oi := { dst := some 28, op := Op.nilCheck (Operand.tmp 16), type := 0, pos := "model.go:119", after := #[{ on := 0, ground := Ground.data }, { on := 0, ground := Ground.phase }, { on := 1, ground := Ground.phase }, { on := 2, ground := Ground.phase }, { on := 3, ground := Ground.phase }, { on := 4, ground := Ground.phase }, { on := 5, ground := Ground.phase }, { on := 6, ground := Ground.phase }, { on := 7, ground := Ground.phase }, { on := 8, ground := Ground.phase }, { on := 9, ground := Ground.phase }, { on := 10, ground := Ground.phase }, { on := 11, ground := Ground.phase }], guard := none }) (v := ?_) rfl (by kernel_rfl) (by kernel_rfl) (by kernel_rfl) (fun _ _ _ h => h) (Or.inl ⟨by rfl, ?_⟩) (by assumption) ?_
      rotate_left
      · intro W hSw
        clear hSw
        go_simp
        try with_reducible rfl
      simp only [Act.put, List.setIfInBounds_toArray, List.set_cons_zero, List.set_cons_succ]
      refine wpAnyH_take (i := 13) (oi := { dst := some 29, op := Op.fieldAddr 110 (Operand.tmp 28) 3, type := 0, pos := "model.go:119", after := #[{ on := 12, ground := Ground.data }, { on := 0, ground := Ground.phase }, { on := 1, ground := Ground.phase }, { on := 2, ground := Ground.phase }, { on := 3, ground := Ground.phase }, { on := 4, ground := Ground.phase }, { on := 5, ground := Ground.phase }, { on := 6, ground := Ground.phase }, { on := 7, ground := Ground.phase }, { on := 8, ground := Ground.phase }, { on := 9, ground := Ground.phase }, { on := 10, ground := Ground.phase }, { on := 11, ground := Ground.phase }], guard := none }) (v := ?_) rfl (by kernel_rfl) (by kernel_rfl) (by kernel_rfl) (fun _ _ _ h => h) (Or.inl ⟨by rfl, ?_⟩) (by assumption) ?_
      rotate_left
      · intro W hSw
        clear hSw
        go_simp
        try with_reducible rfl
      simp only [Act.put, List.setIfInBounds_toArray, List.set_cons_zero, List.set_cons_succ]
      refine wpAnyH_ready (rs := [14]) (by kernel_rfl) (by simp) (AllReadyH.cons (o := { dst := none, op := Op.store 106 (Operand.tmp 29) (Operand.tmp 27), type := 0, pos := "model.go:119", after := #[{ on := 13, ground := Ground.data }, { on := 11, ground := Ground.data }, { on := 11, ground := Ground.chain }, { on := 0, ground := Ground.phase }, { on := 1, ground := Ground.phase }, { on := 2, ground := Ground.phase }, { on := 3, ground := Ground.phase }, { on := 4, ground := Ground.phase }, { on := 5, ground := Ground.phase }, { on := 6, ground := Ground.phase }, { on := 7, ground := Ground.phase }, { on := 8, ground := Ground.phase }, { on := 9, ground := Ground.phase }, { on := 10, ground := Ground.phase }, { on := 11, ground := Ground.phase }], guard := none }) rfl (fun K hK => ?_) AllReadyH.nil)
      have f10 := HP6.out.frozen 10
      have z10 := HP6.out.cell 10
      simp only [mdC, List.getElem?_toArray, List.getElem?_cons_succ, List.getElem?_cons_zero] at z10
      go_simp
      clear f10 z10 hHeld
      refine hK.out _ _ (⟨_, HP6.out.set (j := 10) _⟩) (fun hHeld => ?_)
      clear hK K
      refine wpAnyH_done (by kernel_rfl) (NoPanic.normal ?_) _
      clear hHeld HP6
      generalize w6.setCell ⟨p, 10, none⟩ (.slice A6 (N + 1) c6) = w7 at *
      obtain ⟨n1, hn1⟩ : ∃ n1, N + 1 = n1 := ⟨_, rfl⟩
      have HN1 := Lib.hid hn1
      rw [hn1] at HM7 HSB
      clear hn1
      obtain ⟨l, hl⟩ : ∃ l, s.tasks.getD i [] = l := ⟨_, rfl⟩
      obtain ⟨A0, c0, hk0, _, _⟩ := HM7.out.task (t := i) HI.out
      simp only at hk0
      rw [hl] at hk0
      have HTK : Hid (s.tasks[i]? = some l) := Lib.hid (by rw [← hl, List.getD_eq_getElem?_getD, List.getElem?_eq_getElem HI.out]; rfl)
      have HLB : Hid (l.length ≤ 100001) := Lib.hid (by
        have h1 := (HMB.out.ok.nums l (List.mem_of_getElem? HTK.out)).1
        have := HN.out; have := HNL.out; omega)
      have HBE : Hid (beginM s (i : Int) = ⟨s.cf, s.clock, s.floor, s.txns ++ [(1, s.clock)], s.tasks.set i (l ++ [(n1 : Int)]), s.rows⟩) := Lib.hid (by
        have e : ((n1 : Nat) : Int) = ((s.txns.length + 1 : Nat) : Int) := by rw [HNL.out, HN1.out]
        rw [← hl, e]; rfl)
      have HO2 : Hid (OkM ⟨s.cf, s.clock, s.floor, s.txns ++ [(1, s.clock)], s.tasks.set i (l ++ [(n1 : Int)]), s.rows⟩) := Lib.hid (by rw [← HBE.out]; exact HA.out.2.1)
      obtain ⟨nl, hnl⟩ : ∃ nl, l.length = nl := ⟨_, rfl⟩
      rw [hnl] at hk0 HLB
      have HLL := Lib.hid hnl
      have KV0 : Hid (x.kv[i]? = some (.slice A0 nl c0)) := Lib.hid hk0
      obtain ⟨m, hm⟩ : ∃ m, s.tasks.length = m := ⟨_, rfl⟩
      have HP : Hid (Blk w7 p (mdC s.cf s.clock s.floor (.slice A6 n1 c6) x.tb m x.b).toArray 110) := Lib.hid (by have := HM7.out.blk; simp only at this; rw [hm] at this; exact this)
      have i1 := idx107 x.tb 0 m m i (i : Int) rfl (by rw [← hm]; exact HI.out)
      simp only [Nat.zero_add] at i1
      have HNE : Hid (p ≠ x.tb) := Lib.hid (fun e => by
        have h1 := HP.out
        have h2 : Blk w7 x.tb x.kv.toArray 85 := HM7.out.tb
        unfold Blk at h1 h2
        rw [e, h2] at h1; simp only [Option.some.injEq, Obj.cells.injEq] at h1; exact absurd h1.2.1 (by decide))
      clear hl hk0 hnl hm HMB
      go_upto_region 4 with (fail)
      refine wp_region_noPanic ?_
      obtain ⟨W0, rfl⟩ : ∃ W0 : World, W0 = w7 := ⟨_, rfl⟩
      refine wp_region_held_drew (S := fun W => Blk W p (mdC s.cf s.clock s.floor (.slice A6 n1 c6) x.tb m x.b).toArray 110) (by kernel_rfl) (HP.out) (fun hHeld => ?_)
      replace HM7 : Hid (MdAt (World.drew W0) B p ⟨s.cf, s.clock, s.floor, s.txns ++ [(1, s.clock)], s.tasks, s.rows⟩ { x with tv := .slice A6 n1 c6 }) := Lib.hid (HM7.out.later (Below.drew (Below.refl _ _)))
      replace HF7 : Hid (FrS w (World.drew W0) (MxS p x)) := Lib.hid (HF7.out.trans (FrS.of_below (Below.drew (Below.refl _ _)) (S := fun _ => False)) (fun i hi => hi.elim))
      replace K67 : Hid (Blk (World.drew W0) (w.heap.size + 1) #[.int .i64 0, .bool false, .string ⟨#[]⟩, .slice none 0 0] 33) := Lib.hid K67.out
      replace HP : Hid (Blk (World.drew W0) p (mdC s.cf s.clock s.floor (.slice A6 n1 c6) x.tb m x.b).toArray 110) := Lib.hid HP.out
      generalize World.drew W0 = We at *
      refine wpAnyH_take (i := 0) (oi := { dst := some 30, op := Op.move (Operand.tmp 0), type := 22, pos := "model.go:120", after := #[], guard := none }) (v := ?_) rfl (by kernel_rfl) (by kernel_rfl) (by kernel_rfl) (fun _ _ _ h => h) (Or.inl ⟨by rfl, ?_⟩) (by assumption) ?_
      rotate_left
      · intro W hSw
        clear hSw
        go_simp
        try with_reducible rfl
      simp only [Act.put, List.setIfInBounds_toArray, List.set_cons_zero, List.set_cons_succ]
      refine wpAnyH_take (i := 1) (oi := { dst := some 31, op := Op.nilCheck (Operand.tmp 30), type := 0, pos := "model.go:120", after := #[{ on := 0, ground := Ground.data }], guard := none }) (v := ?_) rfl (by kernel_rfl) (by kernel_rfl) (by kernel_rfl) (fun _ _ _ h => h) (Or.inl ⟨by rfl, ?_⟩) (by assumption) ?_
      rotate_left
      · intro W hSw
        clear hSw
        go_simp
        try with_reducible rfl
      simp only [Act.put, List.setIfInBounds_toArray, List.set_cons_zero, List.set_cons_succ]
      refine wpAnyH_take (i := 2) (oi := { dst := some 32, op := Op.fieldAddr 110 (Operand.tmp 31) 4, type := 0, pos := "model.go:120", after := #[{ on := 1, ground := Ground.data }], guard := none }) (v := ?_) rfl (by kernel_rfl) (by kernel_rfl) (by kernel_rfl) (fun _ _ _ h => h) (Or.inl ⟨by rfl, ?_⟩) (by assumption) ?_
      rotate_left
      · intro W hSw
        clear hSw
        go_simp
        try with_reducible rfl
      simp only [Act.put, List.setIfInBounds_toArray, List.set_cons_zero, List.set_cons_succ]
      refine wpAnyH_take (i := 3) (oi := { dst := some 33, op := Op.load 107 (Operand.tmp 32), type := 107, pos := "model.go:120", after := #[{ on := 2, ground := Ground.data }], guard := none }) (v := ?_) rfl (by kernel_rfl) (by kernel_rfl) (by kernel_rfl) (fun _ _ _ h => h) (Or.inl ⟨by rfl, ?_⟩) (by assumption) ?_
      rotate_left
      · intro W hSw
        have q11 := hSw.cell 11
        simp only [mdC, List.getElem?_toArray, List.getElem?_cons_succ, List.getElem?_cons_zero] at q11
        clear hSw
        go_simp
        try with_reducible rfl
      simp only [Act.put, List.setIfInBounds_toArray, List.set_cons_zero, List.set_cons_succ]
      refine wpAnyH_take (i := 4) (oi := { dst := some 34, op := Op.move (Operand.tmp 1), type := 3, pos := "model.go:120", after := #[], guard := none }) (v := ?_) rfl (by kernel_rfl) (by kernel_rfl) (by kernel_rfl) (fun _ _ _ h => h) (Or.inl ⟨by rfl, ?_⟩) (by assumption) ?_
      rotate_left
      · intro W hSw
        clear hSw
        go_simp
        try with_reducible rfl
      simp only [Act.put, List.setIfInBounds_toArray, List.set_cons_zero, List.set_cons_succ]
      refine wpAnyH_take (i := 5) (oi := { dst := some 35, op := Op.move (Operand.tmp 0), type := 22, pos := "model.go:120", after := #[], guard := none }) (v := ?_) rfl (by kernel_rfl) (by kernel_rfl) (by kernel_rfl) (fun _ _ _ h => h) (Or.inl ⟨by rfl, ?_⟩) (by assumption) ?_
      rotate_left
      · intro W hSw
        clear hSw
        go_simp
        try with_reducible rfl
      simp only [Act.put, List.setIfInBounds_toArray, List.set_cons_zero, List.set_cons_succ]
      refine wpAnyH_take (i := 6) (oi := { dst := some 36, op := Op.nilCheck (Operand.tmp 35), type := 0, pos := "model.go:120", after := #[{ on := 5, ground := Ground.data }], guard := none }) (v := ?_) rfl (by kernel_rfl) (by kernel_rfl) (by kernel_rfl) (fun _ _ _ h => h) (Or.inl ⟨by rfl, ?_⟩) (by assumption) ?_
      rotate_left
      · intro W hSw
        clear hSw
        go_simp
        try with_reducible rfl
      simp only [Act.put, List.setIfInBounds_toArray, List.set_cons_zero, List.set_cons_succ]
      refine wpAnyH_take (i := 7) (oi := { dst := some 37, op := Op.fieldAddr 110 (Operand.tmp 36) 4, type := 0, pos := "model.go:120", after := #[{ on := 6, ground := Ground.data }], guard := none }) (v := ?_) rfl (by kernel_rfl) (by kernel_rfl) (by kernel_rfl) (fun _ _ _ h => h) (Or.inl ⟨by rfl, ?_⟩) (by assumption) ?_
      rotate_left
      · intro W hSw
        clear hSw
        go_simp
        try with_reducible rfl
      simp only [Act.put, List.setIfInBounds_toArray, List.set_cons_zero, List.set_cons_succ]
      refine wpAnyH_take (i := 8) (oi := { dst := some 38, op := Op.load 107 (Operand.tmp 37), type := 107, pos := "model.go:120", after := #[{ on := 7, ground := Ground.data }], guard := none }) (v := ?_) rfl (by kernel_rfl) (by kernel_rfl) (by kernel_rfl) (fun _ _ _ h => h) (Or.inl ⟨by rfl, ?_⟩) (by assumption) ?_
      rotate_left
      · intro W hSw
        have q11 := hSw.cell 11
        simp only [mdC, List.getElem?_toArray, List.getElem?_cons_succ, List.getElem?_cons_zero] at q11
        clear hSw
        go_simp
        try with_reducible rfl
      simp only [Act.put, List.setIfInBounds_toArray, List.set_cons_zero, List.set_cons_succ]
      refine wpAnyH_take (i := 9) (oi := { dst := some 39, op := Op.move (Operand.tmp 1), type := 3, pos := "model.go:120", after := #[], guard := none }) (v := ?_) rfl (by kernel_rfl) (by kernel_rfl) (by kernel_rfl) (fun _ _ _ h => h) (Or.inl ⟨by rfl, ?_⟩) (by assumption) ?_
      rotate_left
      · intro W hSw
        clear hSw
        go_simp
        try with_reducible rfl
      simp only [Act.put, List.setIfInBounds_toArray, List.set_cons_zero, List.set_cons_succ]
      refine wpAnyH_take (i := 10) (oi := { dst := some 40, op := Op.indexAddr 107 (Operand.tmp 38) (Operand.tmp 39), type := 0, pos := "model.go:120", after := #[{ on := 8, ground := Ground.data }, { on := 9, ground := Ground.data }], guard := none }) (v := ?_) rfl (by kernel_rfl) (by kernel_rfl) (by kernel_rfl) (fun _ _ _ h => h) (Or.inl ⟨by rfl, ?_⟩) (by assumption) ?_
      rotate_left
      · intro W hSw
        clear hSw
        go_simp
        try with_reducible rfl
      simp only [Act.put, List.setIfInBounds_toArray, List.set_cons_zero, List.set_cons_succ]
      refine wpAnyH_take (i := 12) (oi := { dst := some 42, op := Op.move (Operand.tmp 0), type := 22, pos := "model.go:120", after := #[], guard := none }) (v := ?_) rfl (by kernel_rfl) (by kernel_rfl) (by kernel_rfl) (fun _ _ _ h => h) (Or.inl ⟨by rfl, ?_⟩) (by assumption) ?_
      rotate_left
      · intro W hSw
        clear hSw
        go_simp
        try with_reducible rfl
      simp only [Act.put, List.setIfInBounds_toArray, List.set_cons_zero, List.set_cons_succ]
      refine wpAnyH_take (i := 13) (oi := { dst := some 43, op := Op.nilCheck (Operand.tmp 42), type := 0, pos := "model.go:120", after := #[{ on := 12, ground := Ground.data }], guard := none }) (v := ?_) rfl (by kernel_rfl) (by kernel_rfl) (by kernel_rfl) (fun _ _ _ h => h) (Or.inl ⟨by rfl, ?_⟩) (by assumption) ?_
      rotate_left
      · intro W hSw
        clear hSw
        go_simp
        try with_reducible rfl
      simp only [Act.put, List.setIfInBounds_toArray, List.set_cons_zero, List.set_cons_succ]
      refine wpAnyH_take (i := 14) (oi := { dst := some 44, op := Op.fieldAddr 110 (Operand.tmp 43) 3, type := 0, pos := "model.go:120", after := #[{ on := 13, ground := Ground.data }], guard := none }) (v := ?_) rfl (by kernel_rfl) (by kernel_rfl) (by kernel_rfl) (fun _ _ _ h => h) (Or.inl ⟨by rfl, ?_⟩) (by assumption) ?_
      rotate_left
      · intro W hSw
        clear hSw
        go_simp
        try with_reducible rfl
      simp only [Act.put, List.setIfInBounds_toArray, List.set_cons_zero, List.set_cons_succ]
      refine wpAnyH_take (i := 15) (oi := { dst := some 45, op := Op.load 106 (Operand.tmp 44), type := 106, pos := "model.go:120", after := #[{ on := 14, ground := Ground.data }], guard := none }) (v := ?_) rfl (by kernel_rfl) (by kernel_rfl) (by kernel_rfl) (fun _ _ _ h => h) (Or.inl ⟨by rfl, ?_⟩) (by assumption) ?_
      rotate_left
      · intro W hSw
        have q10 := hSw.cell 10
        simp only [mdC, List.getElem?_toArray, List.getElem?_cons_succ, List.getElem?_cons_zero] at q10
        clear hSw
        go_simp
        try with_reducible rfl
      simp only [Act.put, List.setIfInBounds_toArray, List.set_cons_zero, List.set_cons_succ]
      refine wpAnyH_take (i := 16) (oi := { dst := some 46, op := Op.call { callee := Callee.builtin Builtin.len, args := #[Operand.tmp 45], argTypes := #[106] }, type := 3, pos := "model.go:120", after := #[{ on := 15, ground := Ground.data }], guard := none }) (v := ?_) rfl (by kernel_rfl) (by kernel_rfl) (by kernel_rfl) (fun _ _ _ h => h) (Or.inl ⟨by rfl, ?_⟩) (by assumption) ?_
      rotate_left
      · intro W hSw
        clear hSw
        go_simp
        try with_reducible rfl
      simp only [Act.put, List.setIfInBounds_toArray, List.set_cons_zero, List.set_cons_succ]
      refine wpAnyH_ready (rs := [11, 17]) (by kernel_rfl) (by simp) (AllReadyH.cons (o := { dst := some 41, op := Op.load 85 (Operand.tmp 40), type := 85, pos := "model.go:120", after := #[{ on := 10, ground := Ground.data }], guard := none }) rfl (fun K hK => ?_) (AllReadyH.cons (o := { dst := some 47, op := Op.buildSlice 85 1 #[(0, Operand.tmp 46)], type := 85, pos := "model.go:120", after := #[{ on := 16, ground := Ground.data }], guard := none }) rfl (fun K hK => ?_) AllReadyH.nil))
      · have qt := (HM7.out.tb).cell i
        rw [show x.kv.toArray[i]? = some (.slice A0 nl c0) from by simpa using KV0.out] at qt
        go_simp
        clear qt hHeld
        refine hK.out _ _ (HP.out) (fun hHeld => ?_)
        clear hK K
        refine wpAnyH_ready (rs := [17]) (by kernel_rfl) (by simp) (AllReadyH.cons (o := { dst := some 47, op := Op.buildSlice 85 1 #[(0, Operand.tmp 46)], type := 85, pos := "model.go:120", after := #[{ on := 16, ground := Ground.data }], guard := none }) rfl (fun K hK => ?_) AllReadyH.nil)
        go_simp
        have hb : Below We.heap.size We (We.alloc (.cells #[.int .i64 (n1 : Int)] 3)) := (Below.refl _ _).alloc (Nat.le_refl _) _
        have KW : Hid (Blk (We.alloc (.cells #[.int .i64 (n1 : Int)] 3)) We.heap.size #[.int .i64 (n1 : Int)] 3) := Lib.hid (Blk.new We _ 3)
        replace HM7 := Lib.hid (HM7.out.later hb)
        replace HF7 := Lib.hid (HF7.out.trans (FrS.of_below hb (S := fun _ => False)) (fun i hi => hi.elim))
        replace K67 := Lib.hid (K67.out.later hb)
        replace HP := Lib.hid (HP.out.later hb)
        clear hb hHeld
        refine hK.out _ _ (HP.out) (fun hHeld => ?_)
        clear hK K
        generalize We.alloc (.cells #[.int .i64 (n1 : Int)] 3) = Wg at *
        obtain ⟨qw, hqw⟩ : ∃ x, We.heap.size = x := ⟨_, rfl⟩
        rw [hqw] at KW ⊢
        clear hqw
        refine wpAnyH_ready (rs := [18]) (by kernel_rfl) (by simp) (AllReadyH.cons (o := { dst := some 48, op := Op.call { callee := Callee.builtin Builtin.append, args := #[Operand.tmp 41, Operand.tmp 47], argTypes := #[85, 85] }, type := 85, pos := "model.go:120", after := #[{ on := 11, ground := Ground.data }, { on := 17, ground := Ground.data }], guard := none }) rfl (fun K hK => ?_) AllReadyH.nil)
        have HNum : Hid (Ow iE Wg B 3 (.slice A0 nl c0) nl l) := Lib.hid (by have := HM7.out.num i _ l KV0.out HTK.out; rw [HLL.out] at this; exact this)
        refine wp_append_sl1 elemI (.tmp 41) (.tmp 47) rfl B (.slice A0 nl c0) nl l rfl HNum.out qw 1 (n1 : Int) rfl (Blk.sl (enc := iE) (xs := [(n1 : Int)]) KW.out) (by have := HLB.out; omega) (by decide) (Nat.le_trans HBS.out HF7.out.size) ?_
        intro A8 c8 w8 ho8 hg8 hn8
        have hbn := HM7.out.numbered (n1 := nl + 1) KV0.out HTK.out (by rw [List.length_append, HLL.out]; rfl) ho8 hg8 hn8 HO2.out
        have HM8 := Lib.hid hbn.1
        have HF8 : Hid (FrS w (w8.setCell ⟨x.tb, i, none⟩ (.slice A8 (nl + 1) c8)) (MxS p x)) := Lib.hid (HF7.out.trans hbn.2.1 HSB.out)
        have HSB8 : Hid (∀ k, MxS p { { x with tv := .slice A6 n1 c6 } with kv := x.kv.set i (.slice A8 (nl + 1) c8) } k → MxS p x k ∨ w.heap.size ≤ k) := Lib.hid (fun k e => by
          rcases e with e | e | e | e | e
          · exact HSB.out k (.inl e)
          · exact HSB.out k (.inr (.inl e))
          · exact HSB.out k (.inr (.inr (.inl e)))
          · obtain ⟨v, hm, e2⟩ := e
            rcases List.mem_or_eq_of_mem_set (show v ∈ x.kv.set i (.slice A8 (nl + 1) c8) from hm) with h1 | rfl
            · exact HSB.out k (.inr (.inr (.inr (.inl ⟨v, h1, e2⟩))))
            · rcases hn8 k e2 with e3 | e3
              · exact HSB.out k (.inr (.inr (.inr (.inl ⟨_, List.mem_of_getElem? KV0.out, e3⟩))))
              · exact .inr (Nat.le_trans HF7.out.size e3)
          · exact HSB.out k (.inr (.inr (.inr (.inr e)))))
        have K68 := Lib.hid (hbn.2.1.blk K67.out (fun e => (HM7.out.tags _ e).not K67.out (by decide) (by decide) (by decide) (by decide)))
        have HT8 : Hid (Blk w8 x.tb x.kv.toArray 85) := Lib.hid hbn.2.2
        have HP8 : Hid (Blk w8 p (mdC s.cf s.clock s.floor (.slice A6 n1 c6) x.tb m x.b).toArray 110) := Lib.hid (HP.out.grown hg8 (fun e => by
          obtain ⟨cur, hc⟩ := HNum.out.tag p e.symm
          have hp := HP.out
          unfold Blk at hp
          rw [hp] at hc; simp only [Option.some.injEq, Obj.cells.injEq] at hc; exact absurd hc.2.1 (by decide)))
        clear hbn ho8 hg8 hn8 HM7 HF7 HSB K67 HP HNum KW hHeld
        refine hK.out _ _ (HP8.out) (fun hHeld => ?_)
        clear hK K
        refine wpAnyH_take (i := 19) (oi := { dst := some 49, op := Op.indexAddr 107 (Operand.tmp 33) (Operand.tmp 34), type := 0, pos := "model.go:120", after := #[{ on := 3, ground := Ground.data }, { on := 4, ground := Ground.data }, { on := 0, ground := Ground.phase }, { on := 1, ground := Ground.phase }, { on := 2, ground := Ground.phase }, { on := 3, ground := Ground.phase }, { on := 4, ground := Ground.phase }, { on := 5, ground := Ground.phase }, { on := 6, ground := Ground.phase }, { on := 7, ground := Ground.phase }, { on := 8, ground := Ground.phase }, { on := 9, ground := Ground.phase }, { on := 10, ground := Ground.phase }, { on := 11, ground := Ground.phase }, { on := 12, ground := Ground.phase }, { on := 13, ground := Ground.phase }, { on := 14, ground := Ground.phase }, { on := 15, ground := Ground.phase }, { on := 16, ground := Ground.phase }, { on := 17, ground := Ground.phase }, { on := 18, ground := Ground.phase }], guard := none }) (v := ?_) rfl (by kernel_rfl) (by kernel_rfl) (by kernel_rfl) (fun _ _ _ h => h) (Or.inl ⟨by rfl, ?_⟩) (by assumption) ?_
        rotate_left
        · intro W hSw
          clear hSw
          go_simp
          try with_reducible rfl
        simp only [Act.put, List.setIfInBounds_toArray, List.set_cons_zero, List.set_cons_succ]
        refine wpAnyH_ready (rs := [20]) (by kernel_rfl) (by simp) (AllReadyH.cons (o := { dst := none, op := Op.store 85 (Operand.tmp 49) (Operand.tmp 48), type := 0, pos := "model.go:120", after := #[{ on := 19, ground := Ground.data }, { on := 18, ground := Ground.data }, { on := 18, ground := Ground.chain }, { on := 0, ground := Ground.phase }, { on := 1, ground := Ground.phase }, { on := 2, ground := Ground.phase }, { on := 3, ground := Ground.phase }, { on := 4, ground := Ground.phase }, { on := 5, ground := Ground.phase }, { on := 6, ground := Ground.phase }, { on := 7, ground := Ground.phase }, { on := 8, ground := Ground.phase }, { on := 9, ground := Ground.phase }, { on := 10, ground := Ground.phase }, { on := 11, ground := Ground.phase }, { on := 12, ground := Ground.phase }, { on := 13, ground := Ground.phase }, { on := 14, ground := Ground.phase }, { on := 15, ground := Ground.phase }, { on := 16, ground := Ground.phase }, { on := 17, ground := Ground.phase }, { on := 18, ground := Ground.phase }], guard := none }) rfl (fun K hK => ?_) AllReadyH.nil)
        have ft := HT8.out.frozen i
        have qt := (HT8.out).cell i
        rw [show x.kv.toArray[i]? = some (.slice A0 nl c0) from by simpa using KV0.out] at qt
        go_simp
        clear ft qt hHeld
        refine hK.out _ _ (HP8.out.other HNE.out _) (fun hHeld => ?_)
        clear hK K
        refine wpAnyH_done (by kernel_rfl) (NoPanic.normal ?_) _
        clear hHeld HP8 HT8
        generalize w8.setCell ⟨x.tb, i, none⟩ (.slice A8 (nl + 1) c8) = w9 at *
        have HMV : Hid (Mv (beginM s (i : Int)) B p (MxS p x) w w9) := Lib.hid (by
          rw [HBE.out]
          exact ⟨_, ⟨_, HM8.out, rfl⟩, HF8.out, HSB8.out⟩)
        clear HM8 HF8 HSB8
        have u0 := K68.out.cell 0
        have u1 := K68.out.cell 1
        have u2 := K68.out.cell 2
        have u3 := K68.out.cell 3
        simp only [List.getElem?_toArray, List.getElem?_cons_zero, List.getElem?_cons_succ] at u0 u1 u2 u3
        have v0 := K68.out.frozen 0
        have v1 := K68.out.frozen 1
        have v2 := K68.out.frozen 2
        have v3 := K68.out.frozen 3
        have HS := Lib.hid (setB4 K68.out rfl (.int .i64 0) (.bool false) (.string ⟨#[]⟩) (.slice none 0 0) (Below.refl (w.heap.size + 1) w9) (Nat.le_refl _))
        go_wp2
        refine bodyPost_ret (results_cell_row rfl _ _ (w.heap.size + 1) 33 _ (0, 0) _ rfl HS.out.1 Try.underlying33 rfl (by kernel_rfl)) rfl ?_
        exact AnEnd.of HA.out.1 (anEnd0 (mv_set4 HMV.out K68.out))
      · go_simp
        have hb : Below We.heap.size We (We.alloc (.cells #[.int .i64 (n1 : Int)] 3)) := (Below.refl _ _).alloc (Nat.le_refl _) _
        have KW : Hid (Blk (We.alloc (.cells #[.int .i64 (n1 : Int)] 3)) We.heap.size #[.int .i64 (n1 : Int)] 3) := Lib.hid (Blk.new We _ 3)
        replace HM7 := Lib.hid (HM7.out.later hb)
        replace HF7 := Lib.hid (HF7.out.trans (FrS.of_below hb (S := fun _ => False)) (fun i hi => hi.elim))
        replace K67 := Lib.hid (K67.out.later hb)
        replace HP := Lib.hid (HP.out.later hb)
        clear hb hHeld
        refine hK.out _ _ (HP.out) (fun hHeld => ?_)
        clear hK K
        generalize We.alloc (.cells #[.int .i64 (n1 : Int)] 3) = Wg at *
        obtain ⟨qw, hqw⟩ : ∃ x, We.heap.size = x := ⟨_, rfl⟩
        rw [hqw] at KW ⊢
        clear hqw
        refine wpAnyH_ready (rs := [11]) (by kernel_rfl) (by simp) (AllReadyH.cons (o := { dst := some 41, op := Op.load 85 (Operand.tmp 40), type := 85, pos := "model.go:120", after := #[{ on := 10, ground := Ground.data }], guard := none }) rfl (fun K hK => ?_) AllReadyH.nil)
        have qt := (HM7.out.tb).cell i
        rw [show x.kv.toArray[i]? = some (.slice A0 nl c0) from by simpa using KV0.out] at qt
        go_simp
        clear qt hHeld
        refine hK.out _ _ (HP.out) (fun hHeld => ?_)
        clear hK K
        refine wpAnyH_ready (rs := [18]) (by kernel_rfl) (by simp) (AllReadyH.cons (o := { dst := some 48, op := Op.call { callee := Callee.builtin Builtin.append, args := #[Operand.tmp 41, Operand.tmp 47], argTypes := #[85, 85] }, type := 85, pos := "model.go:120", after := #[{ on := 11, ground := Ground.data }, { on := 17, ground := Ground.data }], guard := none }) rfl (fun K hK => ?_) AllReadyH.nil)
        have HNum : Hid (Ow iE Wg B 3 (.slice A0 nl c0) nl l) := Lib.hid (by have := HM7.out.num i _ l KV0.out HTK.out; rw [HLL.out] at this; exact this)
        refine wp_append_sl1 elemI (.tmp 41) (.tmp 47) rfl B (.slice A0 nl c0) nl l rfl HNum.out qw 1 (n1 : Int) rfl (Blk.sl (enc := iE) (xs := [(n1 : Int)]) KW.out) (by have := HLB.out; omega) (by decide) (Nat.le_trans HBS.out HF7.out.size) ?_
        intro A8 c8 w8 ho8 hg8 hn8
        have hbn := HM7.out.numbered (n1 := nl + 1) KV0.out HTK.out (by rw [List.length_append, HLL.out]; rfl) ho8 hg8 hn8 HO2.out
        have HM8 := Lib.hid hbn.1
        have HF8 : Hid (FrS w (w8.setCell ⟨x.tb, i, none⟩ (.slice A8 (nl + 1) c8)) (MxS p x)) := Lib.hid (HF7.out.trans hbn.2.1 HSB.out)
        have HSB8 : Hid (∀ k, MxS p { { x with tv := .slice A6 n1 c6 } with kv := x.kv.set i (.slice A8 (nl + 1) c8) } k → MxS p x k ∨ w.heap.size ≤ k) := Lib.hid (fun k e => by
          rcases e with e | e | e | e | e
          · exact HSB.out k (.inl e)
          · exact HSB.out k (.inr (.inl e))
          · exact HSB.out k (.inr (.inr (.inl e)))
          · obtain ⟨v, hm, e2⟩ := e
            rcases List.mem_or_eq_of_mem_set (show v ∈ x.kv.set i (.slice A8 (nl + 1) c8) from hm) with h1 | rfl
            · exact HSB.out k (.inr (.inr (.inr (.inl ⟨v, h1, e2⟩))))
            · rcases hn8 k e2 with e3 | e3
              · exact HSB.out k (.inr (.inr (.inr (.inl ⟨_, List.mem_of_getElem? KV0.out, e3⟩))))
              · exact .inr (Nat.le_trans HF7.out.size e3)
          · exact HSB.out k (.inr (.inr (.inr (.inr e)))))
        have K68 := Lib.hid (hbn.2.1.blk K67.out (fun e => (HM7.out.tags _ e).not K67.out (by decide) (by decide) (by decide) (by decide)))
        have HT8 : Hid (Blk w8 x.tb x.kv.toArray 85) := Lib.hid hbn.2.2
        have HP8 : Hid (Blk w8 p (mdC s.cf s.clock s.floor (.slice A6 n1 c6) x.tb m x.b).toArray 110) := Lib.hid (HP.out.grown hg8 (fun e => by
          obtain ⟨cur, hc⟩ := HNum.out.tag p e.symm
          have hp := HP.out
          unfold Blk at hp
          rw [hp] at hc; simp only [Option.some.injEq, Obj.cells.injEq] at hc; exact absurd hc.2.1 (by decide)))
        clear hbn ho8 hg8 hn8 HM7 HF7 HSB K67 HP HNum KW hHeld
        refine hK.out _ _ (HP8.out) (fun hHeld => ?_)
        clear hK K
        refine wpAnyH_take (i := 19) (oi := { dst := some 49, op := Op.indexAddr 107 (Operand.tmp 33) (Operand.tmp 34), type := 0, pos := "model.go:120", after := #[{ on := 3, ground := Ground.data }, { on := 4, ground := Ground.data }, { on := 0, ground := Ground.phase }, { on := 1, ground := Ground.phase }, { on := 2, ground := Ground.phase }, { on := 3, ground := Ground.phase }, { on := 4, ground := Ground.phase }, { on := 5, ground := Ground.phase }, { on := 6, ground := Ground.phase }, { on := 7, ground := Ground.phase }, { on := 8, ground := Ground.phase }, { on := 9, ground := Ground.phase }, { on := 10, ground := Ground.phase }, { on := 11, ground := Ground.phase }, { on := 12, ground := Ground.phase }, { on := 13, ground := Ground.phase }, { on := 14, ground := Ground.phase }, { on := 15, ground := Ground.phase }, { on := 16, ground := Ground.phase }, { on := 17, ground := Ground.phase }, { on := 18, ground := Ground.phase }], guard := none }) (v := ?_) rfl (by kernel_rfl) (by kernel_rfl) (by kernel_rfl) (fun _ _ _ h => h) (Or.inl ⟨by rfl, ?_⟩) (by assumption) ?_
        rotate_left
        · intro W hSw
          clear hSw
          go_simp
          try with_reducible rfl
        simp only [Act.put, List.setIfInBounds_toArray, List.set_cons_zero, List.set_cons_succ]
        refine wpAnyH_ready (rs := [20]) (by kernel_rfl) (by simp) (AllReadyH.cons (o := { dst := none, op := Op.store 85 (Operand.tmp 49) (Operand.tmp 48), type := 0, pos := "model.go:120", after := #[{ on := 19, ground := Ground.data }, { on := 18, ground := Ground.data }, { on := 18, ground := Ground.chain }, { on := 0, ground := Ground.phase }, { on := 1, ground := Ground.phase }, { on := 2, ground := Ground.phase }, { on := 3, ground := Ground.phase }, { on := 4, ground := Ground.phase }, { on := 5, ground := Ground.phase }, { on := 6, ground := Ground.phase }, { on := 7, ground := Ground.phase }, { on := 8, ground := Ground.phase }, { on := 9, ground := Ground.phase }, { on := 10, ground := Ground.phase }, { on := 11, ground := Ground.phase }, { on := 12, ground := Ground.phase }, { on := 13, ground := Ground.phase }, { on := 14, ground := Ground.phase }, { on := 15, ground := Ground.phase }, { on := 16, ground := Ground.phase }, { on := 17, ground := Ground.phase }, { on := 18, ground := Ground.phase }], guard := none }) rfl (fun K hK => ?_) AllReadyH.nil)
        have ft := HT8.out.frozen i
        have qt := (HT8.out).cell i
        rw [show x.kv.toArray[i]? = some (.slice A0 nl c0) from by simpa using KV0.out] at qt
        go_simp
        clear ft qt hHeld
        refine hK.out _ _ (HP8.out.other HNE.out _) (fun hHeld => ?_)
        clear hK K
        refine wpAnyH_done (by kernel_rfl) (NoPanic.normal ?_) _
        clear hHeld HP8 HT8
        generalize w8.setCell ⟨x.tb, i, none⟩ (.slice A8 (nl + 1) c8) = w9 at *
        have HMV : Hid (Mv (beginM s (i : Int)) B p (MxS p x) w w9) := Lib.hid (by
          rw [HBE.out]
          exact ⟨_, ⟨_, HM8.out, rfl⟩, HF8.out, HSB8.out⟩)
        clear HM8 HF8 HSB8
        have u0 := K68.out.cell 0
        have u1 := K68.out.cell 1
        have u2 := K68.out.cell 2
        have u3 := K68.out.cell 3
        simp only [List.getElem?_toArray, List.getElem?_cons_zero, List.getElem?_cons_succ] at u0 u1 u2 u3
        have v0 := K68.out.frozen 0
        have v1 := K68.out.frozen 1
        have v2 := K68.out.frozen 2
        have v3 := K68.out.frozen 3
        have HS := Lib.hid (setB4 K68.out rfl (.int .i64 0) (.bool false) (.string ⟨#[]⟩) (.slice none 0 0) (Below.refl (w.heap.size + 1) w9) (Nat.le_refl _))
        go_wp2
        refine bodyPost_ret (results_cell_row rfl _ _ (w.heap.size + 1) 33 _ (0, 0) _ rfl HS.out.1 Try.underlying33 rfl (by kernel_rfl)) rfl ?_
        exact AnEnd.of HA.out.1 (anEnd0 (mv_set4 HMV.out K68.out))
    · go_simp
      have hb : Below Wd.heap.size Wd (Wd.alloc (.cells #[.int .u8 1, .int .i64 s.clock] 112)) := (Below.refl _ _).alloc (Nat.le_refl _) _
      have KV : Hid (Blk (Wd.alloc (.cells #[.int .u8 1, .int .i64 s.clock] 112)) Wd.heap.size #[.int .u8 1, .int .i64 s.clock] 112) := Lib.hid (Blk.new Wd _ 112)
      replace HM := Lib.hid (HM.out.later hb)
      replace HB := Lib.hid (stepB HB.out hb)
      replace K6 := Lib.hid (K6.out.later hb)
      replace HTX := Lib.hid (HTX.out.later hb)
      clear hb hHeld
      refine hK.out _ _ (⟨_, HM.out.blk⟩) (fun hHeld => ?_)
      clear hK K
      generalize Wd.alloc (.cells #[.int .u8 1, .int .i64 s.clock] 112) = Wf at *
      obtain ⟨qv, hqv⟩ : ∃ x, Wd.heap.size = x := ⟨_, rfl⟩
      rw [hqv] at KV ⊢
      clear hqv
      refine wpAnyH_ready (rs := [4]) (by kernel_rfl) (by simp) (AllReadyH.cons (o := { dst := some 20, op := Op.load 106 (Operand.tmp 19), type := 106, pos := "model.go:119", after := #[{ on := 3, ground := Ground.data }], guard := none }) rfl (fun K hK => ?_) AllReadyH.nil)
      have q10 := HM.out.c0 10
      simp only [mdC, List.getElem?_cons_succ, List.getElem?_cons_zero] at q10
      rw [ETV.out] at q10
      go_simp
      clear q10 hHeld
      refine hK.out _ _ (⟨_, HM.out.blk⟩) (fun hHeld => ?_)
      clear hK K
      refine wpAnyH_ready (rs := [11]) (by kernel_rfl) (by simp) (AllReadyH.cons (o := { dst := some 27, op := Op.call { callee := Callee.builtin Builtin.append, args := #[Operand.tmp 20, Operand.tmp 26], argTypes := #[106, 106] }, type := 106, pos := "model.go:119", after := #[{ on := 4, ground := Ground.data }, { on := 10, ground := Ground.data }], guard := none }) rfl (fun K hK => ?_) AllReadyH.nil)
      refine wp_append_row1 elemX (.tmp 20) (.tmp 26) rfl B (.slice At N ct) N s.txns rfl HTX.out qv 1 (1, s.clock) rfl KV.out.rsl1 (by have := HN.out; omega) (by decide) (Nat.le_trans HBS.out HB.out.size) ?_
      intro A6 c6 w6 ho6 hg6 hn6 _
      rw [← ETV.out] at hg6 hn6
      have hbg := HM.out.begun (n1 := N + 1) (by rw [List.length_append, HNL.out]; rfl) ho6 hg6 HA.out.2.2
      have HM7 := Lib.hid hbg.1
      have HF7 : Hid (FrS w (w6.setCell ⟨p, 10, none⟩ (.slice A6 (N + 1) c6)) (MxS p x)) := Lib.hid ((FrS.of_below HB.out (S := MxS p x)).trans hbg.2.1 (fun i hi => .inl hi))
      have HSB : Hid (∀ k, MxS p { x with tv := .slice A6 (N + 1) c6 } k → MxS p x k ∨ w.heap.size ≤ k) := Lib.hid (fun k e => by
        rcases e with e | e | e | e | e
        · exact .inl (.inl e)
        · rcases hn6 k e with e2 | e2
          · exact .inl (.inr (.inl e2))
          · exact .inr (Nat.le_trans HB.out.size e2)
        · exact .inl (.inr (.inr (.inl e)))
        · exact .inl (.inr (.inr (.inr (.inl e))))
        · exact .inl (.inr (.inr (.inr (.inr e)))))
      have K67 := Lib.hid (hbg.2.1.blk K6.out (fun e => by have := HPL.out _ e; omega))
      have HP6 := Lib.hid hbg.2.2
      clear hbg ho6 hg6 hn6 HM K6 HTX HB KV hHeld
      refine hK.out _ _ (⟨_, HP6.out⟩) (fun hHeld => ?_)
      clear hK K
      refine wpAnyH_take (i := 12) (oi := { dst := some 28, op := Op.nilCheck (Operand.tmp 16), type := 0, pos := "model.go:119", after := #[{ on := 0, ground := Ground.data }, { on := 0, ground := Ground.phase }, { on := 1, ground := Ground.phase }, { on := 2, ground := Ground.phase }, { on := 3, ground := Ground.phase }, { on := 4, ground := Ground.phase }, { on := 5, ground := Ground.phase }, { on := 6, ground := Ground.phase }, { on := 7, ground := Ground.phase }, { on := 8, ground := Ground.phase }, { on := 9, ground := Ground.phase }, { on := 10, ground := Ground.phase }, { on := 11, ground := Ground.phase }], guard := none }) (v := ?_) rfl (by kernel_rfl) (by kernel_rfl) (by kernel_rfl) (fun _ _ _ h => h) (Or.inl ⟨by rfl, ?_⟩) (by assumption) ?_
      rotate_left
      · intro W hSw
        clear hSw
        go_simp
        try with_reducible rfl
      simp only [Act.put, List.setIfInBounds_toArray, List.set_cons_zero, List.set_cons_succ]
      refine wpAnyH_take (i := 13) (oi := { dst := some 29, op := Op.fieldAddr 110 (Operand.tmp 28) 3, type := 0, pos := "model.go:119", after := #[{ on := 12, ground := Ground.data }, { on := 0, ground := Ground.phase }, { on := 1, ground := Ground.phase }, { on := 2, ground := Ground.phase }, { on := 3, ground := Ground.phase }, { on := 4, ground := Ground.phase }, { on := 5, ground := Ground.phase }, { on := 6, ground := Ground.phase }, { on := 7, ground := Ground.phase }, { on := 8, ground := Ground.phase }, { on := 9, ground := Ground.phase }, { on := 10, ground := Ground.phase }, { on := 11, ground := Ground.phase }], guard := none }) (v := ?_) rfl (by kernel_rfl) (by kernel_rfl) (by kernel_rfl) (fun _ _ _ h => h) (Or.inl ⟨by rfl, ?_⟩) (by assumption) ?_
      rotate_left
      · intro W hSw
        clear hSw
        go_simp
        try with_reducible rfl
      simp only [Act.put, List.setIfInBounds_toArray, List.set_cons_zero, List.set_cons_succ]
      refine wpAnyH_ready (rs := [14]) (by kernel_rfl) (by simp) (AllReadyH.cons (o := { dst := none, op := Op.store 106 (Operand.tmp 29) (Operand.tmp 27), type := 0, pos := "model.go:119", after := #[{ on := 13, ground := Ground.data }, { on := 11, ground := Ground.data }, { on := 11, ground := Ground.chain }, { on := 0, ground := Ground.phase }, { on := 1, ground := Ground.phase }, { on := 2, ground := Ground.phase }, { on := 3, ground := Ground.phase }, { on := 4, ground := Ground.phase }, { on := 5, ground := Ground.phase }, { on := 6, ground := Ground.phase }, { on := 7, ground := Ground.phase }, { on := 8, ground := Ground.phase }, { on := 9, ground := Ground.phase }, { on := 10, ground := Ground.phase }, { on := 11, ground := Ground.phase }], guard := none }) rfl (fun K hK => ?_) AllReadyH.nil)
      have f10 := HP6.out.frozen 10
      have z10 := HP6.out.cell 10
      simp only [mdC, List.getElem?_toArray, List.getElem?_cons_succ, List.getElem?_cons_zero] at z10
      go_simp
      clear f10 z10 hHeld
      refine hK.out _ _ (⟨_, HP6.out.set (j := 10) _⟩) (fun hHeld => ?_)
      clear hK K
      refine wpAnyH_done (by kernel_rfl) (NoPanic.normal ?_) _
      clear hHeld HP6
      generalize w6.setCell ⟨p, 10, none⟩ (.slice A6 (N + 1) c6) = w7 at *
      obtain ⟨n1, hn1⟩ : ∃ n1, N + 1 = n1 := ⟨_, rfl⟩
      have HN1 := Lib.hid hn1
      rw [hn1] at HM7 HSB
      clear hn1
      obtain ⟨l, hl⟩ : ∃ l, s.tasks.getD i [] = l := ⟨_, rfl⟩
      obtain ⟨A0, c0, hk0, _, _⟩ := HM7.out.task (t := i) HI.out
      simp only at hk0
      rw [hl] at hk0
      have HTK : Hid (s.tasks[i]? = some l) := Lib.hid (by rw [← hl, List.getD_eq_getElem?_getD, List.getElem?_eq_getElem HI.out]; rfl)
      have HLB : Hid (l.length ≤ 100001) := Lib.hid (by
        have h1 := (HMB.out.ok.nums l (List.mem_of_getElem? HTK.out)).1
        have := HN.out; have := HNL.out; omega)
      have HBE : Hid (beginM s (i : Int) = ⟨s.cf, s.clock, s.floor, s.txns ++ [(1, s.clock)], s.tasks.set i (l ++ [(n1 : Int)]), s.rows⟩) := Lib.hid (by
        have e : ((n1 : Nat) : Int) = ((s.txns.length + 1 : Nat) : Int) := by rw [HNL.out, HN1.out]
        rw [← hl, e]; rfl)
      have HO2 : Hid (OkM ⟨s.cf, s.clock, s.floor, s.txns ++ [(1, s.clock)], s.tasks.set i (l ++ [(n1 : Int)]), s.rows⟩) := Lib.hid (by rw [← HBE.out]; exact HA.out.2.1)
      obtain ⟨nl, hnl⟩ : ∃ nl, l.length = nl := ⟨_, rfl⟩
      rw [hnl] at hk0 HLB
      have HLL := Lib.hid hnl
      have KV0 : Hid (x.kv[i]? = some (.slice A0 nl c0)) := Lib.hid hk0
      obtain ⟨m, hm⟩ : ∃ m, s.tasks.length = m := ⟨_, rfl⟩
      have HP : Hid (Blk w7 p (mdC s.cf s.clock s.floor (.slice A6 n1 c6) x.tb m x.b).toArray 110) := Lib.hid (by have := HM7.out.blk; simp only at this; rw [hm] at this; exact this)
      have i1 := idx107 x.tb 0 m m i (i : Int) rfl (by rw [← hm]; exact HI.out)
      simp only [Nat.zero_add] at i1
      have HNE : Hid (p ≠ x.tb) := Lib.hid (fun e => by
        have h1 := HP.out
        have h2 : Blk w7 x.tb x.kv.toArray 85 := HM7.out.tb
        unfold Blk at h1 h2
        rw [e, h2] at h1; simp only [Option.some.injEq, Obj.cells.injEq] at h1; exact absurd h1.2.1 (by decide))
      clear hl hk0 hnl hm HMB
      go_upto_region 4 with (fail)
      refine wp_region_noPanic ?_
      obtain ⟨W0, rfl⟩ : ∃ W0 : World, W0 = w7 := ⟨_, rfl⟩
      refine wp_region_held_drew (S := fun W => Blk W p (mdC s.cf s.clock s.floor (.slice A6 n1 c6) x.tb m x.b).toArray 110) (by kernel_rfl) (HP.out) (fun hHeld => ?_)
      replace HM7 : Hid (MdAt (World.drew W0) B p ⟨s.cf, s.clock, s.floor, s.txns ++ [(1, s.clock)], s.tasks, s.rows⟩ { x with tv := .slice A6 n1 c6 }) := Lib.hid (HM7.out.later (Below.drew (Below.refl _ _)))
      replace HF7 : Hid (FrS w (World.drew W0) (MxS p x)) := Lib.hid (HF7.out.trans (FrS.of_below (Below.drew (Below.refl _ _)) (S := fun _ => False)) (fun i hi => hi.elim))
      replace K67 : Hid (Blk (World.drew W0) (w.heap.size + 1) #[.int .i64 0, .bool false, .string ⟨#[]⟩, .slice none 0 0] 33) := Lib.hid K67.out
      replace HP : Hid (Blk (World.drew W0) p (mdC s.cf s.clock s.floor (.slice A6 n1 c6) x.tb m x.b).toArray 110) := Lib.hid HP.out
      generalize World.drew W0 = We at *
      refine wpAnyH_take (i := 0) (oi := { dst := some 30, op := Op.move (Operand.tmp 0), type := 22, pos := "model.go:120", after := #[], guard := none }) (v := ?_) rfl (by kernel_rfl) (by kernel_rfl) (by kernel_rfl) (fun _ _ _ h => h) (Or.inl ⟨by rfl, ?_⟩) (by assumption) ?_
      rotate_left
      · intro W hSw
        clear hSw
        go_simp
        try with_reducible rfl
      simp only [Act.put, List.setIfInBounds_toArray, List.set_cons_zero, List.set_cons_succ]
      refine wpAnyH_take (i := 1) (oi := { dst := some 31, op := Op.nilCheck (Operand.tmp 30), type := 0, pos := "model.go:120", after := #[{ on := 0, ground := Ground.data }], guard := none }) (v := ?_) rfl (by kernel_rfl) (by kernel_rfl) (by kernel_rfl) (fun _ _ _ h => h) (Or.inl ⟨by rfl, ?_⟩) (by assumption) ?_
      rotate_left
      · intro W hSw
        clear hSw
        go_simp
        try with_reducible rfl
      simp only [Act.put, List.setIfInBounds_toArray, List.set_cons_zero, List.set_cons_succ]
      refine wpAnyH_take (i := 2) (oi := { dst := some 32, op := Op.fieldAddr 110 (Operand.tmp 31) 4, type := 0, pos := "model.go:120", after := #[{ on := 1, ground := Ground.data }], guard := none }) (v := ?_) rfl (by kernel_rfl) (by kernel_rfl) (by kernel_rfl) (fun _ _ _ h => h) (Or.inl ⟨by rfl, ?_⟩) (by assumption) ?_
      rotate_left
      · intro W hSw
        clear hSw
        go_simp
        try with_reducible rfl
      simp only [Act.put, List.setIfInBounds_toArray, List.set_cons_zero, List.set_cons_succ]
      refine wpAnyH_take (i := 3) (oi := { dst := some 33, op := Op.load 107 (Operand.tmp 32), type := 107, pos := "model.go:120", after := #[{ on := 2, ground := Ground.data }], guard := none }) (v := ?_) rfl (by kernel_rfl) (by kernel_rfl) (by kernel_rfl) (fun _ _ _ h => h) (Or.inl ⟨by rfl, ?_⟩) (by assumption) ?_
      rotate_left
      · intro W hSw
        have q11 := hSw.cell 11
        simp only [mdC, List.getElem?_toArray, List.getElem?_cons_succ, List.getElem?_cons_zero] at q11
        clear hSw
        go_simp
        try with_reducible rfl
      simp only [Act.put, List.setIfInBounds_toArray, List.set_cons_zero, List.set_cons_succ]
      refine wpAnyH_take (i := 4) (oi := { dst := some 34, op := Op.move (Operand.tmp 1), type := 3, pos := "model.go:120", after := #[], guard := none }) (v := ?_) rfl (by kernel_rfl) (by kernel_rfl) (by kernel_rfl) (fun _ _ _ h => h) (Or.inl ⟨by rfl, ?_⟩) (by assumption) ?_
      rotate_left
      · intro W hSw
        clear hSw
        go_simp
        try with_reducible rfl
      simp only [Act.put, List.setIfInBounds_toArray, List.set_cons_zero, List.set_cons_succ]
      refine wpAnyH_take (i := 5) (oi := { dst := some 35, op := Op.move (Operand.tmp 0), type := 22, pos := "model.go:120", after := #[], guard := none }) (v := ?_) rfl (by kernel_rfl) (by kernel_rfl) (by kernel_rfl) (fun _ _ _ h => h) (Or.inl ⟨by rfl, ?_⟩) (by assumption) ?_
      rotate_left
      · intro W hSw
        clear hSw
        go_simp
        try with_reducible rfl
      simp only [Act.put, List.setIfInBounds_toArray, List.set_cons_zero, List.set_cons_succ]
      refine wpAnyH_take (i := 6) (oi := { dst := some 36, op := Op.nilCheck (Operand.tmp 35), type := 0, pos := "model.go:120", after := #[{ on := 5, ground := Ground.data }], guard := none }) (v := ?_) rfl (by kernel_rfl) (by kernel_rfl) (by kernel_rfl) (fun _ _ _ h => h) (Or.inl ⟨by rfl, ?_⟩) (by assumption) ?_
      rotate_left
      · intro W hSw
        clear hSw
        go_simp
        try with_reducible rfl
      simp only [Act.put, List.setIfInBounds_toArray, List.set_cons_zero, List.set_cons_succ]
      refine wpAnyH_take (i := 7) (oi := { dst := some 37, op := Op.fieldAddr 110 (Operand.tmp 36) 4, type := 0, pos := "model.go:120", after := #[{ on := 6, ground := Ground.data }], guard := none }) (v := ?_) rfl (by kernel_rfl) (by kernel_rfl) (by kernel_rfl) (fun _ _ _ h => h) (Or.inl ⟨by rfl, ?_⟩) (by assumption) ?_
      rotate_left
      · intro W hSw
        clear hSw
        go_simp
        try with_reducible rfl
      simp only [Act.put, List.setIfInBounds_toArray, List.set_cons_zero, List.set_cons_succ]
      refine wpAnyH_take (i := 8) (oi := { dst := some 38, op := Op.load 107 (Operand.tmp 37), type := 107, pos := "model.go:120", after := #[{ on := 7, ground := Ground.data }], guard := none }) (v := ?_) rfl (by kernel_rfl) (by kernel_rfl) (by kernel_rfl) (fun _ _ _ h => h) (Or.inl ⟨by rfl, ?_⟩) (by assumption) ?_
      rotate_left
      · intro W hSw
        have q11 := hSw.cell 11
        simp only [mdC, List.getElem?_toArray, List.getElem?_cons_succ, List.getElem?_cons_zero] at q11
        clear hSw
        go_simp
        try with_reducible rfl
      simp only [Act.put, List.setIfInBounds_toArray, List.set_cons_zero, List.set_cons_succ]
      refine wpAnyH_take (i := 9) (oi := { dst := some 39, op := Op.move (Operand.tmp 1), type := 3, pos := "model.go:120", after := #[], guard := none }) (v := ?_) rfl (by kernel_rfl) (by kernel_rfl) (by kernel_rfl) (fun _ _ _ h => h) (Or.inl ⟨by rfl, ?_⟩) (by assumption) ?_
      rotate_left
      · intro W hSw
        clear hSw
        go_simp
        try with_reducible rfl
      simp only [Act.put, List.setIfInBounds_toArray, List.set_cons_zero, List.set_cons_succ]
      refine wpAnyH_take (i := 10) (oi := { dst := some 40, op := Op.indexAddr 107 (Operand.tmp 38) (Operand.tmp 39), type := 0, pos := "model.go:120", after := #[{ on := 8, ground := Ground.data }, { on := 9, ground := Ground.data }], guard := none }) (v := ?_) rfl (by kernel_rfl) (by kernel_rfl) (by kernel_rfl) (fun _ _ _ h => h) (Or.inl ⟨by rfl, ?_⟩) (by assumption) ?_
      rotate_left
      · intro W hSw
        clear hSw
        go_simp
        try with_reducible rfl
      simp only [Act.put, List.setIfInBounds_toArray, List.set_cons_zero, List.set_cons_succ]
      refine wpAnyH_take (i := 12) (oi := { dst := some 42, op := Op.move (Operand.tmp 0), type := 22, pos := "model.go:120", after := #[], guard := none }) (v := ?_) rfl (by kernel_rfl) (by kernel_rfl) (by kernel_rfl) (fun _ _ _ h => h) (Or.inl ⟨by rfl, ?_⟩) (by assumption) ?_
      rotate_left
      · intro W hSw
        clear hSw
        go_simp
        try with_reducible rfl
      simp only [Act.put, List.setIfInBounds_toArray, List.set_cons_zero, List.set_cons_succ]
      refine wpAnyH_take (i := 13) (oi := { dst := some 43, op := Op.nilCheck (Operand.tmp 42), type := 0, pos := "model.go:120", after := #[{ on := 12, ground := Ground.data }], guard := none }) (v := ?_) rfl (by kernel_rfl) (by kernel_rfl) (by kernel_rfl) (fun _ _ _ h => h) (Or.inl ⟨by rfl, ?_⟩) (by assumption) ?_
      rotate_left
      · intro W hSw
        clear hSw
        go_simp
        try with_reducible rfl
      simp only [Act.put, List.setIfInBounds_toArray, List.set_cons_zero, List.set_cons_succ]
      refine wpAnyH_take (i := 14) (oi := { dst := some 44, op := Op.fieldAddr 110 (Operand.tmp 43) 3, type := 0, pos := "model.go:120", after := #[{ on := 13, ground := Ground.data }], guard := none }) (v := ?_) rfl (by kernel_rfl) (by kernel_rfl) (by kernel_rfl) (fun _ _ _ h => h) (Or.inl ⟨by rfl, ?_⟩) (by assumption) ?_
      rotate_left
      · intro W hSw
        clear hSw
        go_simp
        try with_reducible rfl
      simp only [Act.put, List.setIfInBounds_toArray, List.set_cons_zero, List.set_cons_succ]
      refine wpAnyH_take (i := 15) (oi := { dst := some 45, op := Op.load 106 (Operand.tmp 44), type := 106, pos := "model.go:120", after := #[{ on := 14, ground := Ground.data }], guard := none }) (v := ?_) rfl (by kernel_rfl) (by kernel_rfl) (by kernel_rfl) (fun _ _ _ h => h) (Or.inl ⟨by rfl, ?_⟩) (by assumption) ?_
      rotate_left
      · intro W hSw
        have q10 := hSw.cell 10
        simp only [mdC, List.getElem?_toArray, List.getElem?_cons_succ, List.getElem?_cons_zero] at q10
        clear hSw
        go_simp
        try with_reducible rfl
      simp only [Act.put, List.setIfInBounds_toArray, List.set_cons_zero, List.set_cons_succ]
      refine wpAnyH_take (i := 16) (oi := { dst := some 46, op := Op.call { callee := Callee.builtin Builtin.len, args := #[Operand.tmp 45], argTypes := #[106] }, type := 3, pos := "model.go:120", after := #[{ on := 15, ground := Ground.data }], guard := none }) (v := ?_) rfl (by kernel_rfl) (by kernel_rfl) (by kernel_rfl) (fun _ _ _ h => h) (Or.inl ⟨by rfl, ?_⟩) (by assumption) ?_
      rotate_left
      · intro W hSw
        clear hSw
        go_simp
        try with_reducible rfl
      simp only [Act.put, List.setIfInBounds_toArray, List.set_cons_zero, List.set_cons_succ]
      refine wpAnyH_ready (rs := [11, 17]) (by kernel_rfl) (by simp) (AllReadyH.cons (o := { dst := some 41, op := Op.load 85 (Operand.tmp 40), type := 85, pos := "model.go:120", after := #[{ on := 10, ground := Ground.data }], guard := none }) rfl (fun K hK => ?_) (AllReadyH.cons (o := { dst := some 47, op := Op.buildSlice 85 1 #[(0, Operand.tmp 46)], type := 85, pos := "model.go:120", after := #[{ on := 16, ground := Ground.data }], guard := none }) rfl (fun K hK => ?_) AllReadyH.nil))
      · have qt := (HM7.out.tb).cell i
        rw [show x.kv.toArray[i]? = some (.slice A0 nl c0) from by simpa using KV0.out] at qt
        go_simp
        clear qt hHeld
        refine hK.out _ _ (HP.out) (fun hHeld => ?_)
        clear hK K
        refine wpAnyH_ready (rs := [17]) (by kernel_rfl) (by simp) (AllReadyH.cons (o := { dst := some 47, op := Op.buildSlice 85 1 #[(0, Operand.tmp 46)], type := 85, pos := "model.go:120", after := #[{ on := 16, ground := Ground.data }], guard := none }) rfl (fun K hK => ?_) AllReadyH.nil)
        go_simp
        have hb : Below We.heap.size We (We.alloc (.cells #[.int .i64 (n1 : Int)] 3)) := (Below.refl _ _).alloc (Nat.le_refl _) _
        have KW : Hid (Blk (We.alloc (.cells #[.int .i64 (n1 : Int)] 3)) We.heap.size #[.int .i64 (n1 : Int)] 3) := Lib.hid (Blk.new We _ 3)
        replace HM7 := Lib.hid (HM7.out.later hb)
        replace HF7 := Lib.hid (HF7.out.trans (FrS.of_below hb (S := fun _ => False)) (fun i hi => hi.elim))
        replace K67 := Lib.hid (K67.out.later hb)
        replace HP := Lib.hid (HP.out.later hb)
        clear hb hHeld
        refine hK.out _ _ (HP.out) (fun hHeld => ?_)
        clear hK K
        generalize We.alloc (.cells #[.int .i64 (n1 : Int)] 3) = Wg at *
        obtain ⟨qw, hqw⟩ : ∃ x, We.heap.size = x := ⟨_, rfl⟩
        rw [hqw] at KW ⊢
        clear hqw
        refine wpAnyH_ready (rs := [18]) (by kernel_rfl) (by simp) (AllReadyH.cons (o := { dst := some 48, op := Op.call { callee := Callee.builtin Builtin.append, args := #[Operand.tmp 41, Operand.tmp 47], argTypes := #[85, 85] }, type := 85, pos := "model.go:120", after := #[{ on := 11, ground := Ground.data }, { on := 17, ground := Ground.data }], guard := none }) rfl (fun K hK => ?_) AllReadyH.nil)
        have HNum : Hid (Ow iE Wg B 3 (.slice A0 nl c0) nl l) := Lib.hid (by have := HM7.out.num i _ l KV0.out HTK.out; rw [HLL.out] at this; exact this)
        refine wp_append_sl1 elemI (.tmp 41) (.tmp 47) rfl B (.slice A0 nl c0) nl l rfl HNum.out qw 1 (n1 : Int) rfl (Blk.sl (enc := iE) (xs := [(n1 : Int)]) KW.out) (by have := HLB.out; omega) (by decide) (Nat.le_trans HBS.out HF7.out.size) ?_
        intro A8 c8 w8 ho8 hg8 hn8
        have hbn := HM7.out.numbered (n1 := nl + 1) KV0.out HTK.out (by rw [List.length_append, HLL.out]; rfl) ho8 hg8 hn8 HO2.out
        have HM8 := Lib.hid hbn.1
        have HF8 : Hid (FrS w (w8.setCell ⟨x.tb, i, none⟩ (.slice A8 (nl + 1) c8)) (MxS p x)) := Lib.hid (HF7.out.trans hbn.2.1 HSB.out)
        have HSB8 : Hid (∀ k, MxS p { { x with tv := .slice A6 n1 c6 } with kv := x.kv.set i (.slice A8 (nl + 1) c8) } k → MxS p x k ∨ w.heap.size ≤ k) := Lib.hid (fun k e => by
          rcases e with e | e | e | e | e
          · exact HSB.out k (.inl e)
          · exact HSB.out k (.inr (.inl e))
          · exact HSB.out k (.inr (.inr (.inl e)))
          · obtain ⟨v, hm, e2⟩ := e
            rcases List.mem_or_eq_of_mem_set (show v ∈ x.kv.set i (.slice A8 (nl + 1) c8) from hm) with h1 | rfl
            · exact HSB.out k (.inr (.inr (.inr (.inl ⟨v, h1, e2⟩))))
            · rcases hn8 k e2 with e3 | e3
              · exact HSB.out k (.inr (.inr (.inr (.inl ⟨_, List.mem_of_getElem? KV0.out, e3⟩))))
              · exact .inr (Nat.le_trans HF7.out.size e3)
          · exact HSB.out k (.inr (.inr (.inr (.inr e)))))
        have K68 := Lib.hid (hbn.2.1.blk K67.out (fun e => (HM7.out.tags _ e).not K67.out (by decide) (by decide) (by decide) (by decide)))
        have HT8 : Hid (Blk w8 x.tb x.kv.toArray 85) := Lib.hid hbn.2.2
        have HP8 : Hid (Blk w8 p (mdC s.cf s.clock s.floor (.slice A6 n1 c6) x.tb m x.b).toArray 110) := Lib.hid (HP.out.grown hg8 (fun e => by
          obtain ⟨cur, hc⟩ := HNum.out.tag p e.symm
          have hp := HP.out
          unfold Blk at hp
          rw [hp] at hc; simp only [Option.some.injEq, Obj.cells.injEq] at hc; exact absurd hc.2.1 (by decide)))
        clear hbn ho8 hg8 hn8 HM7 HF7 HSB K67 HP HNum KW hHeld
        refine hK.out _ _ (HP8.out) (fun hHeld => ?_)
        clear hK K
        refine wpAnyH_take (i := 19) (oi := { dst := some 49, op := Op.indexAddr 107 (Operand.tmp 33) (Operand.tmp 34), type := 0, pos := "model.go:120", after := #[{ on := 3, ground := Ground.data }, { on := 4, ground := Ground.data }, { on := 0, ground := Ground.phase }, { on := 1, ground := Ground.phase }, { on := 2, ground := Ground.phase }, { on := 3, ground := Ground.phase }, { on := 4, ground := Ground.phase }, { on := 5, ground := Ground.phase }, { on := 6, ground := Ground.phase }, { on := 7, ground := Ground.phase }, { on := 8, ground := Ground.phase }, { on := 9, ground := Ground.phase }, { on := 10, ground := Ground.phase }, { on := 11, ground := Ground.phase }, { on := 12, ground := Ground.phase }, { on := 13, ground := Ground.phase }, { on := 14, ground := Ground.phase }, { on := 15, ground := Ground.phase }, { on := 16, ground := Ground.phase }, { on := 17, ground := Ground.phase }, { on := 18, ground := Ground.phase }], guard := none }) (v := ?_) rfl (by kernel_rfl) (by kernel_rfl) (by kernel_rfl) (fun _ _ _ h => h) (Or.inl ⟨by rfl, ?_⟩) (by assumption) ?_
        rotate_left
        · intro W hSw
          clear hSw
          go_simp
          try with_reducible rfl
        simp only [Act.put, List.setIfInBounds_toArray, List.set_cons_zero, List.set_cons_succ]
        refine wpAnyH_ready (rs := [20]) (by kernel_rfl) (by simp) (AllReadyH.cons (o := { dst := none, op := Op.store 85 (Operand.tmp 49) (Operand.tmp 48), type := 0, pos := "model.go:120", after := #[{ on := 19, ground := Ground.data }, { on := 18, ground := Ground.data }, { on := 18, ground := Ground.chain }, { on := 0, ground := Ground.phase }, { on := 1, ground := Ground.phase }, { on := 2, ground := Ground.phase }, { on := 3, ground := Ground.phase }, { on := 4, ground := Ground.phase }, { on := 5, ground := Ground.phase }, { on := 6, ground := Ground.phase }, { on := 7, ground := Ground.phase }, { on := 8, ground := Ground.phase }, { on := 9, ground := Ground.phase }, { on := 10, ground := Ground.phase }, { on := 11, ground := Ground.phase }, { on := 12, ground := Ground.phase }, { on := 13, ground := Ground.phase }, { on := 14, ground := Ground.phase }, { on := 15, ground := Ground.phase }, { on := 16, ground := Ground.phase }, { on := 17, ground := Ground.phase }, { on := 18, ground := Ground.phase }], guard := none }) rfl (fun K hK => ?_) AllReadyH.nil)
        have ft := HT8.out.frozen i
        have qt := (HT8.out).cell i
        rw [show x.kv.toArray[i]? = some (.slice A0 nl c0) from by simpa using KV0.out] at qt
        go_simp
        clear ft qt hHeld
        refine hK.out _ _ (HP8.out.other HNE.out _) (fun hHeld => ?_)
        clear hK K
        refine wpAnyH_done (by kernel_rfl) (NoPanic.normal ?_) _
        clear hHeld HP8 HT8
        generalize w8.setCell ⟨x.tb, i, none⟩ (.slice A8 (nl + 1) c8) = w9 at *
        have HMV : Hid (Mv (beginM s (i : Int)) B p (MxS p x) w w9) := Lib.hid (by
          rw [HBE.out]
          exact ⟨_, ⟨_, HM8.out, rfl⟩, HF8.out, HSB8.out⟩)
        clear HM8 HF8 HSB8
        have u0 := K68.out.cell 0
        have u1 := K68.out.cell 1
        have u2 := K68.out.cell 2
        have u3 := K68.out.cell 3
        simp only [List.getElem?_toArray, List.getElem?_cons_zero, List.getElem?_cons_succ] at u0 u1 u2 u3
        have v0 := K68.out.frozen 0
        have v1 := K68.out.frozen 1
        have v2 := K68.out.frozen 2
        have v3 := K68.out.frozen 3
        have HS := Lib.hid (setB4 K68.out rfl (.int .i64 0) (.bool false) (.string ⟨#[]⟩) (.slice none 0 0) (Below.refl (w.heap.size + 1) w9) (Nat.le_refl _))
        go_wp2
        refine bodyPost_ret (results_cell_row rfl _ _ (w.heap.size + 1) 33 _ (0, 0) _ rfl HS.out.1 Try.underlying33 rfl (by kernel_rfl)) rfl ?_
        exact AnEnd.of HA.out.1 (anEnd0 (mv_set4 HMV.out K68.out))
      · go_simp
        have hb : Below We.heap.size We (We.alloc (.cells #[.int .i64 (n1 : Int)] 3)) := (Below.refl _ _).alloc (Nat.le_refl _) _
        have KW : Hid (Blk (We.alloc (.cells #[.int .i64 (n1 : Int)] 3)) We.heap.size #[.int .i64 (n1 : Int)] 3) := Lib.hid (Blk.new We _ 3)
        replace HM7 := Lib.hid (HM7.out.later hb)
        replace HF7 := Lib.hid (HF7.out.trans (FrS.of_below hb (S := fun _ => False)) (fun i hi => hi.elim))
        replace K67 := Lib.hid (K67.out.later hb)
        replace HP := Lib.hid (HP.out.later hb)
        clear hb hHeld
        refine hK.out _ _ (HP.out) (fun hHeld => ?_)
        clear hK K
        generalize We.alloc (.cells #[.int .i64 (n1 : Int)] 3) = Wg at *
        obtain ⟨qw, hqw⟩ : ∃ x, We.heap.size = x := ⟨_, rfl⟩
        rw [hqw] at KW ⊢
        clear hqw
        refine wpAnyH_ready (rs := [11]) (by kernel_rfl) (by simp) (AllReadyH.cons (o := { dst := some 41, op := Op.load 85 (Operand.tmp 40), type := 85, pos := "model.go:120", after := #[{ on := 10, ground := Ground.data }], guard := none }) rfl (fun K hK => ?_) AllReadyH.nil)
        have qt := (HM7.out.tb).cell i
        rw [show x.kv.toArray[i]? = some (.slice A0 nl c0) from by simpa using KV0.out] at qt
        go_simp
        clear qt hHeld
        refine hK.out _ _ (HP.out) (fun hHeld => ?_)
        clear hK K
        refine wpAnyH_ready (rs := [18]) (by kernel_rfl) (by simp) (AllReadyH.cons (o := { dst := some 48, op := Op.call { callee := Callee.builtin Builtin.append, args := #[Operand.tmp 41, Operand.tmp 47], argTypes := #[85, 85] }, type := 85, pos := "model.go:120", after := #[{ on := 11, ground := Ground.data }, { on := 17, ground := Ground.data }], guard := none }) rfl (fun K hK => ?_) AllReadyH.nil)
        have HNum : Hid (Ow iE Wg B 3 (.slice A0 nl c0) nl l) := Lib.hid (by have := HM7.out.num i _ l KV0.out HTK.out; rw [HLL.out] at this; exact this)
        refine wp_append_sl1 elemI (.tmp 41) (.tmp 47) rfl B (.slice A0 nl c0) nl l rfl HNum.out qw 1 (n1 : Int) rfl (Blk.sl (enc := iE) (xs := [(n1 : Int)]) KW.out) (by have := HLB.out; omega) (by decide) (Nat.le_trans HBS.out HF7.out.size) ?_
        intro A8 c8 w8 ho8 hg8 hn8
        have hbn := HM7.out.numbered (n1 := nl + 1) KV0.out HTK.out (by rw [List.length_append, HLL.out]; rfl) ho8 hg8 hn8 HO2.out
        have HM8 := Lib.hid hbn.1
        have HF8 : Hid (FrS w (w8.setCell ⟨x.tb, i, none⟩ (.slice A8 (nl + 1) c8)) (MxS p x)) := Lib.hid (HF7.out.trans hbn.2.1 HSB.out)
        have HSB8 : Hid (∀ k, MxS p { { x with tv := .slice A6 n1 c6 } with kv := x.kv.set i (.slice A8 (nl + 1) c8) } k → MxS p x k ∨ w.heap.size ≤ k) := Lib.hid (fun k e => by
          rcases e with e | e | e | e | e
          · exact HSB.out k (.inl e)
          · exact HSB.out k (.inr (.inl e))
          · exact HSB.out k (.inr (.inr (.inl e)))
          · obtain ⟨v, hm, e2⟩ := e
            rcases List.mem_or_eq_of_mem_set (show v ∈ x.kv.set i (.slice A8 (nl + 1) c8) from hm) with h1 | rfl
            · exact HSB.out k (.inr (.inr (.inr (.inl ⟨v, h1, e2⟩))))
            · rcases hn8 k e2 with e3 | e3
              · exact HSB.out k (.inr (.inr (.inr (.inl ⟨_, List.mem_of_getElem? KV0.out, e3⟩))))
              · exact .inr (Nat.le_trans HF7.out.size e3)
          · exact HSB.out k (.inr (.inr (.inr (.inr e)))))
        have K68 := Lib.hid (hbn.2.1.blk K67.out (fun e => (HM7.out.tags _ e).not K67.out (by decide) (by decide) (by decide) (by decide)))
        have HT8 : Hid (Blk w8 x.tb x.kv.toArray 85) := Lib.hid hbn.2.2
        have HP8 : Hid (Blk w8 p (mdC s.cf s.clock s.floor (.slice A6 n1 c6) x.tb m x.b).toArray 110) := Lib.hid (HP.out.grown hg8 (fun e => by
          obtain ⟨cur, hc⟩ := HNum.out.tag p e.symm
          have hp := HP.out
          unfold Blk at hp
          rw [hp] at hc; simp only [Option.some.injEq, Obj.cells.injEq] at hc; exact absurd hc.2.1 (by decide)))
        clear hbn ho8 hg8 hn8 HM7 HF7 HSB K67 HP HNum KW hHeld
        refine hK.out _ _ (HP8.out) (fun hHeld => ?_)
        clear hK K
        refine wpAnyH_take (i := 19) (oi := { dst := some 49, op := Op.indexAddr 107 (Operand.tmp 33) (Operand.tmp 34), type := 0, pos := "model.go:120", after := #[{ on := 3, ground := Ground.data }, { on := 4, ground := Ground.data }, { on := 0, ground := Ground.phase }, { on := 1, ground := Ground.phase }, { on := 2, ground := Ground.phase }, { on := 3, ground := Ground.phase }, { on := 4, ground := Ground.phase }, { on := 5, ground := Ground.phase }, { on := 6, ground := Ground.phase }, { on := 7, ground := Ground.phase }, { on := 8, ground := Ground.phase }, { on := 9, ground := Ground.phase }, { on := 10, ground := Ground.phase }, { on := 11, ground := Ground.phase }, { on := 12, ground := Ground.phase }, { on := 13, ground := Ground.phase }, { on := 14, ground := Ground.phase }, { on := 15, ground := Ground.phase }, { on := 16, ground := Ground.phase }, { on := 17, ground := Ground.phase }, { on := 18, ground := Ground.phase }], guard := none }) (v := ?_) rfl (by kernel_rfl) (by kernel_rfl) (by kernel_rfl) (fun _ _ _ h => h) (Or.inl ⟨by rfl, ?_⟩) (by assumption) ?_
        rotate_left
        · intro W hSw
          clear hSw
          go_simp
          try with_reducible rfl
        simp only [Act.put, List.setIfInBounds_toArray, List.set_cons_zero, List.set_cons_succ]
        refine wpAnyH_ready (rs := [20]) (by kernel_rfl) (by simp) (AllReadyH.cons (o := { dst := none, op := Op.store 85 (Operand.tmp 49) (Operand.tmp 48), type := 0, pos := "model.go:120", after := #[{ on := 19, ground := Ground.data }, { on := 18, ground := Ground.data }, { on := 18, ground := Ground.chain }, { on := 0, ground := Ground.phase }, { on := 1, ground := Ground.phase }, { on := 2, ground := Ground.phase }, { on := 3, ground := Ground.phase }, { on := 4, ground := Ground.phase }, { on := 5, ground := Ground.phase }, { on := 6, ground := Ground.phase }, { on := 7, ground := Ground.phase }, { on := 8, ground := Ground.phase }, { on := 9, ground := Ground.phase }, { on := 10, ground := Ground.phase }, { on := 11, ground := Ground.phase }, { on := 12, ground := Ground.phase }, { on := 13, ground := Ground.phase }, { on := 14, ground := Ground.phase }, { on := 15, ground := Ground.phase }, { on := 16, ground := Ground.phase }, { on := 17, ground := Ground.phase }, { on := 18, ground := Ground.phase }], guard := none }) rfl (fun K hK => ?_) AllReadyH.nil)
        have ft := HT8.out.frozen i
        have qt := (HT8.out).cell i
        rw [show x.kv.toArray[i]? = some (.slice A0 nl c0) from by simpa using KV0.out] at qt
        go_simp
        clear ft qt hHeld
        refine hK.out _ _ (HP8.out.other HNE.out _) (fun hHeld => ?_)
        clear hK K
        refine wpAnyH_done (by kernel_rfl) (NoPanic.normal ?_) _
        clear hHeld HP8 HT8
        generalize w8.setCell ⟨x.tb, i, none⟩ (.slice A8 (nl + 1) c8) = w9 at *
        have HMV : Hid (Mv (beginM s (i : Int)) B p (MxS p x) w w9) := Lib.hid (by
          rw [HBE.out]
          exact ⟨_, ⟨_, HM8.out, rfl⟩, HF8.out, HSB8.out⟩)
        clear HM8 HF8 HSB8
        have u0 := K68.out.cell 0
        have u1 := K68.out.cell 1
        have u2 := K68.out.cell 2
        have u3 := K68.out.cell 3
        simp only [List.getElem?_toArray, List.getElem?_cons_zero, List.getElem?_cons_succ] at u0 u1 u2 u3
        have v0 := K68.out.frozen 0
        have v1 := K68.out.frozen 1
        have v2 := K68.out.frozen 2
        have v3 := K68.out.frozen 3
        have HS := Lib.hid (setB4 K68.out rfl (.int .i64 0) (.bool false) (.string ⟨#[]⟩) (.slice none 0 0) (Below.refl (w.heap.size + 1) w9) (Nat.le_refl _))
        go_wp2
        refine bodyPost_ret (results_cell_row rfl _ _ (w.heap.size + 1) 33 _ (0, 0) _ rfl HS.out.1 Try.underlying33 rfl (by kernel_rfl)) rfl ?_
        exact AnEnd.of HA.out.1 (anEnd0 (mv_set4 HMV.out K68.out))
end Go.Proofs.Ytoinjnocopejjaa
