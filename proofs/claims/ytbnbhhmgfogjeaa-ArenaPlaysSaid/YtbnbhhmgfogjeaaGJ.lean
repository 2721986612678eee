/- Copy. -/
import Derived.Test.YtbnbhhmgfogjeaaGI
namespace Go.Proofs.Ytbnbhhmgfogjeaa
open Go.ChangeShapes Go.WideShapes Go.ChangeAt Go.RowKit Go.Maps Go.Shelf
set_option linter.unusedVariables false
set_option linter.unusedSimpArgs false

theorem gclone_any (b n : Nat) (G : List gn.Ct) (w : World) (h : w.ownsMap Try.prog 74 gn.R3 b n (gn.dm G)) : Calls Try.prog 42 #[.map (some b)] w fun e w' => e = .returned (.map (some w.heap.size)) ∧ w'.ownsMap Try.prog 74 gn.R3 w.heap.size n (gn.dm G) ∧ Below w.heap.size w w' := by
  have hc := AnyW.maps_Clone_owns Try.gensClone 74 gn.R3 b n (gn.dm G) w h
  change Calls Try.prog 42 _ _ _ at hc
  exact hc.mono fun e w' ⟨h1, h2, _, h4⟩ => ⟨h1, h2, h4⟩
theorem built71c (s low : Int) (r : Nat) : Try.prog.built 71 [(0, .int .i64 s), (2, .int .i64 low), (3, .map (some r))] = some #[.int .i64 s, .slice none 0 0, .int .i64 low, .map (some r)] := by kernel_rfl
abbrev S3 (a s low g : Nat) (W : World) : Prop := W.cell? ⟨a, 0, none⟩ = some (.int .i64 (s : Int)) ∧ W.cell? ⟨a, 2, none⟩ = some (.int .i64 (low : Int)) ∧ W.cell? ⟨a, 3, none⟩ = some (.map (some g))
theorem S3.later {a s low g : Nat} {W W' : World} (h : S3 a s low g W) (hb : Below W.heap.size W W') : S3 a s low g W' :=
  ⟨(hb.cell (p := ⟨a, 0, none⟩) (lt_of_cell h.1)).trans h.1, (hb.cell (p := ⟨a, 2, none⟩) (lt_of_cell h.2.1)).trans h.2.1, (hb.cell (p := ⟨a, 3, none⟩) (lt_of_cell h.2.2)).trans h.2.2⟩
def CpA (s : Nat) (st : AS) (w : World) (e : Ending) (w' : World) : Prop := ∃ a S, e = .returned (.pointer (some ⟨a, 0, none⟩)) ∧ AR w' w.heap.size a s st S ∧ Below w.heap.size w w'
/-- the header of the row of pages: what it is there -/
abbrev SO (q : Nat) (W : World) : Prop := W.cell? ⟨q, 1, none⟩ = some (oldc W ⟨q, 1, none⟩) ∧ W.frozen? ⟨q, 1, none⟩ = false
set_option maxRecDepth 100000 in
set_option maxHeartbeats 8000000 in
theorem arcopy_any (B a s : Nat) (st : AS) (S : Nat → Prop) (w : World) (h : AR w B a s st S) : Calls Try.prog 19 #[.pointer (some ⟨a, 0, none⟩)] w (CpA s st w) := by
  obtain ⟨g, v, Ps, ha, hm, _, hlo, hln⟩ := h
  obtain ⟨low, L, G⟩ := st
  simp only at ha hm hlo hln
  have hl : L.length = Ps.length := by rw [← hm, List.length_map]
  have H := Lib.hid ha
  have HM := Lib.hid hm
  have HLL : Hid (L.length = Ps.length) := hl
  have HLO : Hid (low ≤ L.length ∧ L.length ≤ 4096) := ⟨hlo, hln⟩
  have hn : Ps.length ≤ 4096 := by omega
  have hK0 : S3 a s low g w.drew := ⟨ha.c.1, ha.c.2.2.1, ha.c.2.2.2⟩
  have HK0 := Lib.hid hK0
  obtain ⟨AV, cV, hv, _⟩ := Ow.sl ha.row
  subst hv
  clear ha hm hl hlo hln hK0
  go_enter Try.func19, Try.ntmps19
  go_upto_region 3 with (fail)
  have hbd : Below w.heap.size w w.drew := Below.drew (Below.refl _ _)
  have HB1 := Lib.hid hbd
  have HCL := Lib.hid (gclone_any g G.length G w.drew (H.out.later hbd).gens.2)
  clear hbd
  refine wp_region_noPanic ?_
  refine wp_region_held_drew (S := S3 a s low g) (by kernel_rfl) HK0.out (fun hHeld => ?_)
  refine wpAnyH_take (i := 0) (oi := { dst := some 8, op := Op.move (Operand.tmp 0), type := 22, pos := "arena.go:151", after := #[], guard := none }) (v := ?_) rfl (by kernel_rfl) (by kernel_rfl) (by kernel_rfl) (fun _ _ _ h => h) (Or.inl ⟨by rfl, ?_⟩) (by assumption) ?_
  rotate_left
  · intro W hSw
    obtain ⟨k0, k2, k3⟩ := hSw
    go_simp
    try with_reducible rfl
  simp only [Act.put, List.setIfInBounds_toArray, List.set_cons_zero, List.set_cons_succ]
  refine wpAnyH_take (i := 1) (oi := { dst := some 9, op := Op.nilCheck (Operand.tmp 8), type := 0, pos := "arena.go:151", after := #[{ on := 0, ground := Ground.data }], guard := none }) (v := ?_) rfl (by kernel_rfl) (by kernel_rfl) (by kernel_rfl) (fun _ _ _ h => h) (Or.inl ⟨by rfl, ?_⟩) (by assumption) ?_
  rotate_left
  · intro W hSw
    obtain ⟨k0, k2, k3⟩ := hSw
    go_simp
    try with_reducible rfl
  simp only [Act.put, List.setIfInBounds_toArray, List.set_cons_zero, List.set_cons_succ]
  refine wpAnyH_take (i := 2) (oi := { dst := some 10, op := Op.fieldAddr 71 (Operand.tmp 9) 0, type := 0, pos := "arena.go:151", after := #[{ on := 1, ground := Ground.data }], guard := none }) (v := ?_) rfl (by kernel_rfl) (by kernel_rfl) (by kernel_rfl) (fun _ _ _ h => h) (Or.inl ⟨by rfl, ?_⟩) (by assumption) ?_
  rotate_left
  · intro W hSw
    obtain ⟨k0, k2, k3⟩ := hSw
    go_simp
    try with_reducible rfl
  simp only [Act.put, List.setIfInBounds_toArray, List.set_cons_zero, List.set_cons_succ]
  refine wpAnyH_take (i := 3) (oi := { dst := some 11, op := Op.load 3 (Operand.tmp 10), type := 3, pos := "arena.go:151", after := #[{ on := 2, ground := Ground.data }], guard := none }) (v := ?_) rfl (by kernel_rfl) (by kernel_rfl) (by kernel_rfl) (fun _ _ _ h => h) (Or.inl ⟨by rfl, ?_⟩) (by assumption) ?_
  rotate_left
  · intro W hSw
    obtain ⟨k0, k2, k3⟩ := hSw
    go_simp
    try with_reducible rfl
  simp only [Act.put, List.setIfInBounds_toArray, List.set_cons_zero, List.set_cons_succ]
  refine wpAnyH_take (i := 4) (oi := { dst := some 12, op := Op.move (Operand.tmp 0), type := 22, pos := "arena.go:151", after := #[], guard := none }) (v := ?_) rfl (by kernel_rfl) (by kernel_rfl) (by kernel_rfl) (fun _ _ _ h => h) (Or.inl ⟨by rfl, ?_⟩) (by assumption) ?_
  rotate_left
  · intro W hSw
    obtain ⟨k0, k2, k3⟩ := hSw
    go_simp
    try with_reducible rfl
  simp only [Act.put, List.setIfInBounds_toArray, List.set_cons_zero, List.set_cons_succ]
  refine wpAnyH_take (i := 5) (oi := { dst := some 13, op := Op.nilCheck (Operand.tmp 12), type := 0, pos := "arena.go:151", after := #[{ on := 4, ground := Ground.data }], guard := none }) (v := ?_) rfl (by kernel_rfl) (by kernel_rfl) (by kernel_rfl) (fun _ _ _ h => h) (Or.inl ⟨by rfl, ?_⟩) (by assumption) ?_
  rotate_left
  · intro W hSw
    obtain ⟨k0, k2, k3⟩ := hSw
    go_simp
    try with_reducible rfl
  simp only [Act.put, List.setIfInBounds_toArray, List.set_cons_zero, List.set_cons_succ]
  refine wpAnyH_take (i := 6) (oi := { dst := some 14, op := Op.fieldAddr 71 (Operand.tmp 13) 2, type := 0, pos := "arena.go:151", after := #[{ on := 5, ground := Ground.data }], guard := none }) (v := ?_) rfl (by kernel_rfl) (by kernel_rfl) (by kernel_rfl) (fun _ _ _ h => h) (Or.inl ⟨by rfl, ?_⟩) (by assumption) ?_
  rotate_left
  · intro W hSw
    obtain ⟨k0, k2, k3⟩ := hSw
    go_simp
    try with_reducible rfl
  simp only [Act.put, List.setIfInBounds_toArray, List.set_cons_zero, List.set_cons_succ]
  refine wpAnyH_take (i := 7) (oi := { dst := some 15, op := Op.load 3 (Operand.tmp 14), type := 3, pos := "arena.go:151", after := #[{ on := 6, ground := Ground.data }], guard := none }) (v := ?_) rfl (by kernel_rfl) (by kernel_rfl) (by kernel_rfl) (fun _ _ _ h => h) (Or.inl ⟨by rfl, ?_⟩) (by assumption) ?_
  rotate_left
  · intro W hSw
    obtain ⟨k0, k2, k3⟩ := hSw
    go_simp
    try with_reducible rfl
  simp only [Act.put, List.setIfInBounds_toArray, List.set_cons_zero, List.set_cons_succ]
  refine wpAnyH_take (i := 8) (oi := { dst := some 16, op := Op.move (Operand.tmp 0), type := 22, pos := "arena.go:151", after := #[], guard := none }) (v := ?_) rfl (by kernel_rfl) (by kernel_rfl) (by kernel_rfl) (fun _ _ _ h => h) (Or.inl ⟨by rfl, ?_⟩) (by assumption) ?_
  rotate_left
  · intro W hSw
    obtain ⟨k0, k2, k3⟩ := hSw
    go_simp
    try with_reducible rfl
  simp only [Act.put, List.setIfInBounds_toArray, List.set_cons_zero, List.set_cons_succ]
  refine wpAnyH_take (i := 9) (oi := { dst := some 17, op := Op.nilCheck (Operand.tmp 16), type := 0, pos := "arena.go:151", after := #[{ on := 8, ground := Ground.data }], guard := none }) (v := ?_) rfl (by kernel_rfl) (by kernel_rfl) (by kernel_rfl) (fun _ _ _ h => h) (Or.inl ⟨by rfl, ?_⟩) (by assumption) ?_
  rotate_left
  · intro W hSw
    obtain ⟨k0, k2, k3⟩ := hSw
    go_simp
    try with_reducible rfl
  simp only [Act.put, List.setIfInBounds_toArray, List.set_cons_zero, List.set_cons_succ]
  refine wpAnyH_take (i := 10) (oi := { dst := some 18, op := Op.fieldAddr 71 (Operand.tmp 17) 3, type := 0, pos := "arena.go:151", after := #[{ on := 9, ground := Ground.data }], guard := none }) (v := ?_) rfl (by kernel_rfl) (by kernel_rfl) (by kernel_rfl) (fun _ _ _ h => h) (Or.inl ⟨by rfl, ?_⟩) (by assumption) ?_
  rotate_left
  · intro W hSw
    obtain ⟨k0, k2, k3⟩ := hSw
    go_simp
    try with_reducible rfl
  simp only [Act.put, List.setIfInBounds_toArray, List.set_cons_zero, List.set_cons_succ]
  refine wpAnyH_take (i := 11) (oi := { dst := some 19, op := Op.load 69 (Operand.tmp 18), type := 69, pos := "arena.go:151", after := #[{ on := 10, ground := Ground.data }], guard := none }) (v := ?_) rfl (by kernel_rfl) (by kernel_rfl) (by kernel_rfl) (fun _ _ _ h => h) (Or.inl ⟨by rfl, ?_⟩) (by assumption) ?_
  rotate_left
  · intro W hSw
    obtain ⟨k0, k2, k3⟩ := hSw
    go_simp
    try with_reducible rfl
  simp only [Act.put, List.setIfInBounds_toArray, List.set_cons_zero, List.set_cons_succ]
  refine wpAnyH_ready (rs := [12]) (by kernel_rfl) (by simp) (AllReadyH.cons (o := { dst := some 20, op := Op.call { callee := Callee.value (Operand.func 42), args := #[Operand.tmp 19], argTypes := #[69] }, type := 69, pos := "arena.go:151", after := #[{ on := 11, ground := Ground.data }], guard := none }) rfl (fun K hK => ?_) AllReadyH.nil)
  refine step_callw (by rfl) 42 #[.map (some g)] (by go_simp) ?_
  refine (HCL.out).mono ?_
  rintro z w1 ⟨rfl, ho, hb⟩
  have HB2 := Lib.hid (stepB HB1.out hb)
  have HO := Lib.hid ho
  have HK1 := Lib.hid (HK0.out.later hb)
  refine ⟨_, rfl, hK.out _ _ HK1.out (fun hHeld2 => ?_)⟩
  clear hK K hHeld HCL ho hb
  simp only [Act.put, List.setIfInBounds_toArray, List.set_cons_zero, List.set_cons_succ]
  obtain ⟨gg, hgg⟩ : ∃ gg, w.drew.heap.size = gg := ⟨_, rfl⟩
  rw [hgg] at HO
  rw [hgg]
  have HGG : Hid (w.heap.size ≤ gg ∧ gg < w1.heap.size) := ⟨by rw [← hgg]; exact HB1.out.size, HO.out.lt⟩
  clear hgg
  have hbt := built71c (s : Int) (low : Int) gg
  refine wpAnyH_take (i := 13) (oi := { dst := some 21, op := Op.build 71 #[(0, Operand.tmp 11), (2, Operand.tmp 15), (3, Operand.tmp 20)], type := 71, pos := "arena.go:151", after := #[{ on := 3, ground := Ground.data }, { on := 7, ground := Ground.data }, { on := 12, ground := Ground.data }], guard := none }) (v := .agg #[.int .i64 (s : Int), .slice none 0 0, .int .i64 (low : Int), .map (some gg)]) rfl (by kernel_rfl) (by kernel_rfl) (by kernel_rfl) (fun _ _ _ h => h) (Or.inl ⟨by rfl, fun W hSw => ?_⟩) hHeld2 ?_
  · clear hSw
    go_simp
    try with_reducible rfl
  try simp only [Act.put, List.setIfInBounds_toArray, List.set_cons_zero, List.set_cons_succ]
  refine wpAnyH_ready (rs := [14]) (by kernel_rfl) (by simp) (AllReadyH.cons (o := { dst := some 22, op := Op.box 71 (Operand.tmp 21), type := 22, pos := "arena.go:151", after := #[{ on := 13, ground := Ground.data }], guard := none }) rfl (fun K hK => ?_) AllReadyH.nil)
  have hbx : Below w1.heap.size w1 (w1.alloc (.cells #[.int .i64 (s : Int), .slice none 0 0, .int .i64 (low : Int), .map (some gg)] 71)) := (Below.refl _ _).alloc (Nat.le_refl _) _
  have HK2 := Lib.hid (HK1.out.later hbx)
  have HB3 := Lib.hid (stepB HB2.out hbx)
  have HOA : Hid (Ar (w1.alloc (.cells #[.int .i64 (s : Int), .slice none 0 0, .int .i64 (low : Int), .map (some gg)] 71)) w.heap.size w1.heap.size gg (.slice none 0 0) low s [] G) :=
    ⟨HB2.out.size, Blk.new _ _ _, Ow.none _ _ _, gn.MapAt.later ⟨HGG.out.1, HO.out⟩ hbx, H.out.gok, (fun x hx => by cases hx), List.Pairwise.nil, (fun x hx => by cases hx)⟩
  clear hbx hbt
  go_simp
  refine hK.out _ _ HK2.out (fun hHeld3 => ?_)
  clear hK K hHeld2
  try simp only [Act.put, List.setIfInBounds_toArray, List.set_cons_zero, List.set_cons_succ]
  refine wpAnyH_take (i := 15) (oi := { dst := some 3, op := Op.assign (Operand.tmp 22), type := 22, pos := "arena.go:151", after := #[{ on := 14, ground := Ground.data }, { on := 12, ground := Ground.chain }, { on := 0, ground := Ground.phase }, { on := 1, ground := Ground.phase }, { on := 2, ground := Ground.phase }, { on := 3, ground := Ground.phase }, { on := 4, ground := Ground.phase }, { on := 5, ground := Ground.phase }, { on := 6, ground := Ground.phase }, { on := 7, ground := Ground.phase }, { on := 8, ground := Ground.phase }, { on := 9, ground := Ground.phase }, { on := 10, ground := Ground.phase }, { on := 11, ground := Ground.phase }, { on := 12, ground := Ground.phase }, { on := 13, ground := Ground.phase }, { on := 14, ground := Ground.phase }], guard := none }) (v := ?_) rfl (by kernel_rfl) (by kernel_rfl) (by kernel_rfl) (fun _ _ _ h => h) (Or.inl ⟨by rfl, ?_⟩) (by assumption) ?_
  rotate_left
  · intro W hSw
    clear hSw
    go_simp
    try with_reducible rfl
  simp only [Act.put, List.setIfInBounds_toArray, List.set_cons_zero, List.set_cons_succ]
  refine wpAnyH_done (by kernel_rfl) (NoPanic.normal ?_) _
  clear hHeld3
  generalize w1.alloc (.cells #[.int .i64 (s : Int), .slice none 0 0, .int .i64 (low : Int), .map (some gg)] 71) = w2 at *
  obtain ⟨oq, hoq⟩ : ∃ oq, w1.heap.size = oq := ⟨_, rfl⟩
  rw [hoq] at HOA HGG
  rw [hoq]
  clear hoq HO HK0 HK1 HK2 HB2 HB1
  have c1 := (H.out.later HB3.out).c.2.1
  go_wp2
  go_loopw [28] (fun i wr => ∃ (k : Nat) (vO : Value) (PsO : List Pe), k ≤ Ps.length ∧ i = .int .i64 k ∧ Ar wr w.heap.size oq gg vO low s PsO G ∧ PsO.map (fun x => x.2.2) = (Ps.map (fun x => x.2.2)).take k ∧ Below w.heap.size w wr) (fun i _ => Ps.length - (intOf i).toNat)
  case atStart => exact ⟨0, _, [], Nat.zero_le _, rfl, HOA.out, rfl, HB3.out⟩
  case round =>
    obtain ⟨w3, rfl⟩ : ∃ w3 : World, w3 = wr := ⟨_, rfl⟩
    obtain ⟨k, vO, PsO, hk, rfl, ho, hmo, hb⟩ := hrel
    have HOO := Lib.hid ho
    have HMO := Lib.hid hmo
    have HB4 := Lib.hid hb
    clear ho hmo hb HOA HB3 c1
    by_cases hlt : k < Ps.length
    · have d1 : decide ((k : Int) < (Ps.length : Int)) = true := decide_eq_true (by omega)
      have wk : IntKind.i64.wrap ((k : Int) + 1) = (k : Int) + 1 := IntWalk.i64_in _ (by omega)
      obtain ⟨gr, c, hv, hgr, hc⟩ := (H.out.later HB4.out).at_ hlt
      cases hv
      have i5 := idx68 gr Ps.length cV k (k : Int) rfl hlt
      have HPG := Lib.hid ((H.out.later HB4.out).pgs _ (List.getElem_mem hlt))
      have hln : PsO.length = k := by
        have := congrArg List.length HMO.out
        rw [List.length_map, List.length_take, List.length_map] at this
        omega
      have HLN := Lib.hid hln
      have HPE : Hid ((Ps.map (fun x => x.2.2)).take (k + 1) = (Ps.map (fun x => x.2.2)).take k ++ [(Ps[k]).2.2]) := by
        show _ = _
        rw [List.take_add_one, List.getElem?_map, List.getElem?_eq_getElem hlt]; rfl
      generalize Ps[k] = xx at *
      obtain ⟨pp, pb, P⟩ := xx
      simp only at hc
      replace HPG : Hid (PgS w3 B pp pb s P) := HPG
      clear hgr hln
      go_upto_region 7 with (fail)
      clear hc i5
      refine wp_region_noPanic ?_
      have hbd : Below w3.heap.size w3 w3.drew := Below.drew (Below.refl _ _)
      have HO5 := Lib.hid (HOO.out.later hbd)
      have HP5 := Lib.hid (HPG.out.later hbd)
      have HB5 := Lib.hid (stepB HB4.out hbd)
      clear hbd
      have HSO : Hid (∀ W v', Ar W w.heap.size oq gg v' low s PsO G → SO oq W) := fun W v' h => ⟨oldc_of h.c.2.1, h.blk.frozen 1⟩
      refine wp_region_held_drew (S := SO oq) (by kernel_rfl) (HSO.out _ _ HO5.out) (fun hHeld => ?_)
      generalize w3.drew = w5 at *
      refine wpAnyH_take (i := 0) (oi := { dst := some 32, op := Op.move (Operand.tmp 3), type := 22, pos := "arena.go:153", after := #[], guard := none }) (v := ?_) rfl (by kernel_rfl) (by kernel_rfl) (by kernel_rfl) (fun _ _ _ h => h) (Or.inl ⟨by rfl, ?_⟩) (by assumption) ?_
      rotate_left
      · intro W hSw
        clear hSw
        go_simp
        try with_reducible rfl
      simp only [Act.put, List.setIfInBounds_toArray, List.set_cons_zero, List.set_cons_succ]
      refine wpAnyH_take (i := 1) (oi := { dst := some 33, op := Op.move (Operand.tmp 3), type := 22, pos := "arena.go:153", after := #[], guard := none }) (v := ?_) rfl (by kernel_rfl) (by kernel_rfl) (by kernel_rfl) (fun _ _ _ h => h) (Or.inl ⟨by rfl, ?_⟩) (by assumption) ?_
      rotate_left
      · intro W hSw
        clear hSw
        go_simp
        try with_reducible rfl
      simp only [Act.put, List.setIfInBounds_toArray, List.set_cons_zero, List.set_cons_succ]
      refine wpAnyH_take (i := 2) (oi := { dst := some 34, op := Op.nilCheck (Operand.tmp 33), type := 0, pos := "arena.go:153", after := #[{ on := 1, ground := Ground.data }], guard := none }) (v := ?_) rfl (by kernel_rfl) (by kernel_rfl) (by kernel_rfl) (fun _ _ _ h => h) (Or.inl ⟨by rfl, ?_⟩) (by assumption) ?_
      rotate_left
      · intro W hSw
        clear hSw
        go_simp
        try with_reducible rfl
      simp only [Act.put, List.setIfInBounds_toArray, List.set_cons_zero, List.set_cons_succ]
      refine wpAnyH_take (i := 3) (oi := { dst := some 35, op := Op.fieldAddr 71 (Operand.tmp 34) 1, type := 0, pos := "arena.go:153", after := #[{ on := 2, ground := Ground.data }], guard := none }) (v := ?_) rfl (by kernel_rfl) (by kernel_rfl) (by kernel_rfl) (fun _ _ _ h => h) (Or.inl ⟨by rfl, ?_⟩) (by assumption) ?_
      rotate_left
      · intro W hSw
        clear hSw
        go_simp
        try with_reducible rfl
      simp only [Act.put, List.setIfInBounds_toArray, List.set_cons_zero, List.set_cons_succ]
      refine wpAnyH_take (i := 5) (oi := { dst := some 37, op := Op.move (Operand.tmp 5), type := 67, pos := "arena.go:153", after := #[], guard := none }) (v := ?_) rfl (by kernel_rfl) (by kernel_rfl) (by kernel_rfl) (fun _ _ _ h => h) (Or.inl ⟨by rfl, ?_⟩) (by assumption) ?_
      rotate_left
      · intro W hSw
        clear hSw
        go_simp
        try with_reducible rfl
      simp only [Act.put, List.setIfInBounds_toArray, List.set_cons_zero, List.set_cons_succ]
      refine wpAnyH_ready (rs := [4, 6]) (by kernel_rfl) (by simp) (AllReadyH.cons (o := { dst := some 36, op := Op.load 68 (Operand.tmp 35), type := 68, pos := "arena.go:153", after := #[{ on := 3, ground := Ground.data }], guard := none }) rfl (fun K hK => ?_) (AllReadyH.cons (o := { dst := some 38, op := Op.call { callee := Callee.value (Operand.func 43), args := #[Operand.tmp 37], argTypes := #[67] }, type := 67, pos := "arena.go:153", after := #[{ on := 5, ground := Ground.data }], guard := none }) rfl (fun K hK => ?_) AllReadyH.nil))
      rotate_left
      · refine step_callw (by rfl) 43 #[.pointer (some ⟨pp, 0, none⟩)] (by go_simp) ?_
        refine (copy_any B pp pb s P.1 P.2.1 P.2.2.1 P.2.2.2 w5 HP5.out).mono ?_
        rintro z w6 ⟨q, qb, rfl, hpq, hb⟩
        have HPQ : Hid (PgS w6 w5.heap.size q qb s P) := Lib.hid hpq
        have HZQ : Hid (∀ x ∈ PsO, x.1 < w5.heap.size ∧ x.2.1 < w5.heap.size) := fun x hx => ⟨(Pg.at_ (HO5.out.pgs x hx)).plt, (Pg.at_ (HO5.out.pgs x hx)).blt⟩
        have HZG : Hid (gg < w5.heap.size ∧ w.heap.size ≤ w5.heap.size) := ⟨HO5.out.gens.2.lt, HB5.out.size⟩
        replace HO5 := Lib.hid (HO5.out.later hb)
        replace HB5 := Lib.hid (stepB HB5.out hb)
        clear hpq hb HP5
        refine ⟨_, rfl, hK.out _ _ (HSO.out _ _ HO5.out) (fun hHeld2 => ?_)⟩
        clear hK K hHeld
        have hHeld := hHeld2
        clear hHeld2
        try simp only [Act.put, List.setIfInBounds_toArray, List.set_cons_zero, List.set_cons_succ]
        obtain ⟨z5, hz5⟩ : ∃ z5, w5.heap.size = z5 := ⟨_, rfl⟩
        rw [hz5] at HPQ HZQ HZG
        clear hz5
        obtain ⟨w5, hw5⟩ : ∃ x, w6 = x := ⟨_, rfl⟩
        subst hw5
        refine wpAnyH_ready (rs := [4, 7]) (by kernel_rfl) (by simp) (AllReadyH.cons (o := { dst := some 36, op := Op.load 68 (Operand.tmp 35), type := 68, pos := "arena.go:153", after := #[{ on := 3, ground := Ground.data }], guard := none }) rfl (fun K hK => ?_) (AllReadyH.cons (o := { dst := some 39, op := Op.buildSlice 68 1 #[(0, Operand.tmp 38)], type := 68, pos := "arena.go:153", after := #[{ on := 6, ground := Ground.data }], guard := none }) rfl (fun K hK => ?_) AllReadyH.nil))
        rotate_left
        · have hbx : Below w6.heap.size w6 (w6.alloc (.cells #[.pointer (some ⟨q, 0, none⟩)] 67)) := (Below.refl _ _).alloc (Nat.le_refl _) _
          have HX : Hid (Sl pv (w6.alloc (.cells #[.pointer (some ⟨q, 0, none⟩)] 67)) (some ⟨w6.heap.size, 0, none⟩) 1 1 [q]) := Blk.sl (enc := pv) (xs := [q]) (Blk.new w6 #[.pointer (some ⟨q, 0, none⟩)] 67)
          replace HO5 := Lib.hid (HO5.out.later hbx)
          replace HB5 := Lib.hid (stepB HB5.out hbx)
          replace HPQ := Lib.hid (HPQ.out.later hbx)
          clear hbx
          go_simp
          refine hK.out _ _ (HSO.out _ _ HO5.out) (fun hHeld2 => ?_)
          clear hK K
          try clear hHeld
          have hHeld := hHeld2
          clear hHeld2
          try simp only [Act.put, List.setIfInBounds_toArray, List.set_cons_zero, List.set_cons_succ]
          generalize w6.alloc (.cells #[.pointer (some ⟨q, 0, none⟩)] 67) = w7 at *
          generalize w6.heap.size = xq at *
          refine wpAnyH_ready (rs := [4]) (by kernel_rfl) (by simp) (AllReadyH.cons (o := { dst := some 36, op := Op.load 68 (Operand.tmp 35), type := 68, pos := "arena.go:153", after := #[{ on := 3, ground := Ground.data }], guard := none }) rfl (fun K hK => ?_) AllReadyH.nil)
          have c1 := HO5.out.c.2.1
          clear hHeld
          go_simp
          clear c1
          refine hK.out _ _ (HSO.out _ _ HO5.out) (fun hHeld2 => ?_)
          clear hK K
          try clear hHeld
          have hHeld := hHeld2
          clear hHeld2
          try simp only [Act.put, List.setIfInBounds_toArray, List.set_cons_zero, List.set_cons_succ]
          have HRW : Hid (Ow pv w7 w.heap.size 67 vO k (PsO.map (fun x => x.1))) := Lib.hid (by have := HO5.out.row; rw [HLN.out] at this; exact this)
          refine wpAnyH_ready (rs := [8]) (by kernel_rfl) (by simp) (AllReadyH.cons (o := { dst := some 40, op := Op.call { callee := Callee.builtin Builtin.append, args := #[Operand.tmp 36, Operand.tmp 39], argTypes := #[68, 68] }, type := 68, pos := "arena.go:153", after := #[{ on := 4, ground := Ground.data }, { on := 7, ground := Ground.data }, { on := 6, ground := Ground.chain }], guard := none }) rfl (fun K hK => ?_) AllReadyH.nil)
          refine step_append_sl elemP rfl (.tmp 36) (.tmp 39) rfl w.heap.size vO k (PsO.map (fun x => x.1)) rfl HRW.out (some ⟨xq, 0, none⟩) 1 1 [q] rfl HX.out (by omega) (by decide) HB5.out.size (fun v8 w8 ho8 hg8 => ?_)
          obtain ⟨A8, c8, rfl, _⟩ := Ow.sl ho8
          have hm := HO5.out.more (HPQ.out.base HZG.out.2) (fun x hx => ⟨by have := (HZQ.out x hx).1; have := (Pg.at_ HPQ.out).hp; omega, by have := (HZQ.out x hx).2; have := (Pg.at_ HPQ.out).own.1; omega⟩) (by have := HZG.out.1; have := (Pg.at_ HPQ.out).own.1; omega) (by rw [HLN.out]; exact ho8) hg8
          have HM1 := Lib.hid hm.1
          have HM2 := Lib.hid hm.2
          have hlt8 := fun j hj => (Ow.lt HRW.out j hj).1
          have HB8 : Hid (Below w.heap.size w w8) := Lib.hid (Below.grown HB5.out hg8 HB5.out.size hlt8)
          have HOQ : Hid (w.heap.size ≤ oq) := Lib.hid HO5.out.hp
          clear hm ho8 hg8 hlt8
          refine hK.out _ _ ⟨oldc_of (HM1.out.cell 1), HM1.out.frozen 1⟩ (fun hHeld2 => ?_)
          clear hK K hHeld
          have hHeld := hHeld2
          clear hHeld2
          try simp only [Act.put, List.setIfInBounds_toArray, List.set_cons_zero, List.set_cons_succ]
          refine wpAnyH_take (i := 9) (oi := { dst := some 41, op := Op.nilCheck (Operand.tmp 32), type := 0, pos := "arena.go:153", after := #[{ on := 0, ground := Ground.data }, { on := 0, ground := Ground.phase }, { on := 1, ground := Ground.phase }, { on := 2, ground := Ground.phase }, { on := 3, ground := Ground.phase }, { on := 4, ground := Ground.phase }, { on := 5, ground := Ground.phase }, { on := 6, ground := Ground.phase }, { on := 7, ground := Ground.phase }, { on := 8, ground := Ground.phase }], guard := none }) (v := ?_) rfl (by kernel_rfl) (by kernel_rfl) (by kernel_rfl) (fun _ _ _ h => h) (Or.inl ⟨by rfl, ?_⟩) (by assumption) ?_
          rotate_left
          · intro W hSw
            clear hSw
            go_simp
            try with_reducible rfl
          simp only [Act.put, List.setIfInBounds_toArray, List.set_cons_zero, List.set_cons_succ]
          refine wpAnyH_take (i := 10) (oi := { dst := some 42, op := Op.fieldAddr 71 (Operand.tmp 41) 1, type := 0, pos := "arena.go:153", after := #[{ on := 9, ground := Ground.data }, { on := 0, ground := Ground.phase }, { on := 1, ground := Ground.phase }, { on := 2, ground := Ground.phase }, { on := 3, ground := Ground.phase }, { on := 4, ground := Ground.phase }, { on := 5, ground := Ground.phase }, { on := 6, ground := Ground.phase }, { on := 7, ground := Ground.phase }, { on := 8, ground := Ground.phase }], guard := none }) (v := ?_) rfl (by kernel_rfl) (by kernel_rfl) (by kernel_rfl) (fun _ _ _ h => h) (Or.inl ⟨by rfl, ?_⟩) (by assumption) ?_
          rotate_left
          · intro W hSw
            clear hSw
            go_simp
            try with_reducible rfl
          simp only [Act.put, List.setIfInBounds_toArray, List.set_cons_zero, List.set_cons_succ]
          refine wpAnyH_ready (rs := [11]) (by kernel_rfl) (by simp) (AllReadyH.cons (o := { dst := none, op := Op.store 68 (Operand.tmp 42) (Operand.tmp 40), type := 0, pos := "arena.go:153", after := #[{ on := 10, ground := Ground.data }, { on := 8, ground := Ground.data }, { on := 8, ground := Ground.chain }, { on := 0, ground := Ground.phase }, { on := 1, ground := Ground.phase }, { on := 2, ground := Ground.phase }, { on := 3, ground := Ground.phase }, { on := 4, ground := Ground.phase }, { on := 5, ground := Ground.phase }, { on := 6, ground := Ground.phase }, { on := 7, ground := Ground.phase }, { on := 8, ground := Ground.phase }], guard := none }) rfl (fun K hK => ?_) AllReadyH.nil)
          clear hHeld
          have q1 := HM1.out.cell 1
          have qf := HM1.out.frozen 1
          simp only [List.getElem?_toArray, List.getElem?_cons_zero, List.getElem?_cons_succ] at q1
          go_simp
          refine hK.out _ _ ⟨oldc_of HM2.out.c.2.1, HM2.out.blk.frozen 1⟩ (fun hHeld2 => ?_)
          clear hK K q1 qf
          refine wpAnyH_done (by kernel_rfl) (NoPanic.normal ?_) _
          clear hHeld2
          have HB9 := Lib.hid (Below.setCell (p := ⟨oq, 1, none⟩) HB8.out HOQ.out (.slice A8 (k + 1) c8))
          have HMN : Hid ((PsO ++ [(q, qb, P)]).map (fun x => x.2.2) = (Ps.map (fun x => x.2.2)).take (k + 1)) := by
            show _ = _
            rw [HPE.out, List.map_append, HMO.out]; rfl
          go_wp2
          go_roundw
          case rel => exact ⟨k + 1, _, _, by omega, by go_num, HM2.out, HMN.out, HB9.out⟩
          case measure => simp [intOf]; omega
        · have c1 := HO5.out.c.2.1
          clear hHeld
          go_simp
          clear c1
          refine hK.out _ _ (HSO.out _ _ HO5.out) (fun hHeld2 => ?_)
          clear hK K
          try clear hHeld
          have hHeld := hHeld2
          clear hHeld2
          try simp only [Act.put, List.setIfInBounds_toArray, List.set_cons_zero, List.set_cons_succ]
          refine wpAnyH_ready (rs := [7]) (by kernel_rfl) (by simp) (AllReadyH.cons (o := { dst := some 39, op := Op.buildSlice 68 1 #[(0, Operand.tmp 38)], type := 68, pos := "arena.go:153", after := #[{ on := 6, ground := Ground.data }], guard := none }) rfl (fun K hK => ?_) AllReadyH.nil)
          have hbx : Below w6.heap.size w6 (w6.alloc (.cells #[.pointer (some ⟨q, 0, none⟩)] 67)) := (Below.refl _ _).alloc (Nat.le_refl _) _
          have HX : Hid (Sl pv (w6.alloc (.cells #[.pointer (some ⟨q, 0, none⟩)] 67)) (some ⟨w6.heap.size, 0, none⟩) 1 1 [q]) := Blk.sl (enc := pv) (xs := [q]) (Blk.new w6 #[.pointer (some ⟨q, 0, none⟩)] 67)
          replace HO5 := Lib.hid (HO5.out.later hbx)
          replace HB5 := Lib.hid (stepB HB5.out hbx)
          replace HPQ := Lib.hid (HPQ.out.later hbx)
          clear hbx
          go_simp
          refine hK.out _ _ (HSO.out _ _ HO5.out) (fun hHeld2 => ?_)
          clear hK K
          try clear hHeld
          have hHeld := hHeld2
          clear hHeld2
          try simp only [Act.put, List.setIfInBounds_toArray, List.set_cons_zero, List.set_cons_succ]
          generalize w6.alloc (.cells #[.pointer (some ⟨q, 0, none⟩)] 67) = w7 at *
          generalize w6.heap.size = xq at *
          have HRW : Hid (Ow pv w7 w.heap.size 67 vO k (PsO.map (fun x => x.1))) := Lib.hid (by have := HO5.out.row; rw [HLN.out] at this; exact this)
          refine wpAnyH_ready (rs := [8]) (by kernel_rfl) (by simp) (AllReadyH.cons (o := { dst := some 40, op := Op.call { callee := Callee.builtin Builtin.append, args := #[Operand.tmp 36, Operand.tmp 39], argTypes := #[68, 68] }, type := 68, pos := "arena.go:153", after := #[{ on := 4, ground := Ground.data }, { on := 7, ground := Ground.data }, { on := 6, ground := Ground.chain }], guard := none }) rfl (fun K hK => ?_) AllReadyH.nil)
          refine step_append_sl elemP rfl (.tmp 36) (.tmp 39) rfl w.heap.size vO k (PsO.map (fun x => x.1)) rfl HRW.out (some ⟨xq, 0, none⟩) 1 1 [q] rfl HX.out (by omega) (by decide) HB5.out.size (fun v8 w8 ho8 hg8 => ?_)
          obtain ⟨A8, c8, rfl, _⟩ := Ow.sl ho8
          have hm := HO5.out.more (HPQ.out.base HZG.out.2) (fun x hx => ⟨by have := (HZQ.out x hx).1; have := (Pg.at_ HPQ.out).hp; omega, by have := (HZQ.out x hx).2; have := (Pg.at_ HPQ.out).own.1; omega⟩) (by have := HZG.out.1; have := (Pg.at_ HPQ.out).own.1; omega) (by rw [HLN.out]; exact ho8) hg8
          have HM1 := Lib.hid hm.1
          have HM2 := Lib.hid hm.2
          have hlt8 := fun j hj => (Ow.lt HRW.out j hj).1
          have HB8 : Hid (Below w.heap.size w w8) := Lib.hid (Below.grown HB5.out hg8 HB5.out.size hlt8)
          have HOQ : Hid (w.heap.size ≤ oq) := Lib.hid HO5.out.hp
          clear hm ho8 hg8 hlt8
          refine hK.out _ _ ⟨oldc_of (HM1.out.cell 1), HM1.out.frozen 1⟩ (fun hHeld2 => ?_)
          clear hK K hHeld
          have hHeld := hHeld2
          clear hHeld2
          try simp only [Act.put, List.setIfInBounds_toArray, List.set_cons_zero, List.set_cons_succ]
          refine wpAnyH_take (i := 9) (oi := { dst := some 41, op := Op.nilCheck (Operand.tmp 32), type := 0, pos := "arena.go:153", after := #[{ on := 0, ground := Ground.data }, { on := 0, ground := Ground.phase }, { on := 1, ground := Ground.phase }, { on := 2, ground := Ground.phase }, { on := 3, ground := Ground.phase }, { on := 4, ground := Ground.phase }, { on := 5, ground := Ground.phase }, { on := 6, ground := Ground.phase }, { on := 7, ground := Ground.phase }, { on := 8, ground := Ground.phase }], guard := none }) (v := ?_) rfl (by kernel_rfl) (by kernel_rfl) (by kernel_rfl) (fun _ _ _ h => h) (Or.inl ⟨by rfl, ?_⟩) (by assumption) ?_
          rotate_left
          · intro W hSw
            clear hSw
            go_simp
            try with_reducible rfl
          simp only [Act.put, List.setIfInBounds_toArray, List.set_cons_zero, List.set_cons_succ]
          refine wpAnyH_take (i := 10) (oi := { dst := some 42, op := Op.fieldAddr 71 (Operand.tmp 41) 1, type := 0, pos := "arena.go:153", after := #[{ on := 9, ground := Ground.data }, { on := 0, ground := Ground.phase }, { on := 1, ground := Ground.phase }, { on := 2, ground := Ground.phase }, { on := 3, ground := Ground.phase }, { on := 4, ground := Ground.phase }, { on := 5, ground := Ground.phase }, { on := 6, ground := Ground.phase }, { on := 7, ground := Ground.phase }, { on := 8, ground := Ground.phase }], guard := none }) (v := ?_) rfl (by kernel_rfl) (by kernel_rfl) (by kernel_rfl) (fun _ _ _ h => h) (Or.inl ⟨by rfl, ?_⟩) (by assumption) ?_
          rotate_left
          · intro W hSw
            clear hSw
            go_simp
            try with_reducible rfl
          simp only [Act.put, List.setIfInBounds_toArray, List.set_cons_zero, List.set_cons_succ]
          refine wpAnyH_ready (rs := [11]) (by kernel_rfl) (by simp) (AllReadyH.cons (o := { dst := none, op := Op.store 68 (Operand.tmp 42) (Operand.tmp 40), type := 0, pos := "arena.go:153", after := #[{ on := 10, ground := Ground.data }, { on := 8, ground := Ground.data }, { on := 8, ground := Ground.chain }, { on := 0, ground := Ground.phase }, { on := 1, ground := Ground.phase }, { on := 2, ground := Ground.phase }, { on := 3, ground := Ground.phase }, { on := 4, ground := Ground.phase }, { on := 5, ground := Ground.phase }, { on := 6, ground := Ground.phase }, { on := 7, ground := Ground.phase }, { on := 8, ground := Ground.phase }], guard := none }) rfl (fun K hK => ?_) AllReadyH.nil)
          clear hHeld
          have q1 := HM1.out.cell 1
          have qf := HM1.out.frozen 1
          simp only [List.getElem?_toArray, List.getElem?_cons_zero, List.getElem?_cons_succ] at q1
          go_simp
          refine hK.out _ _ ⟨oldc_of HM2.out.c.2.1, HM2.out.blk.frozen 1⟩ (fun hHeld2 => ?_)
          clear hK K q1 qf
          refine wpAnyH_done (by kernel_rfl) (NoPanic.normal ?_) _
          clear hHeld2
          have HB9 := Lib.hid (Below.setCell (p := ⟨oq, 1, none⟩) HB8.out HOQ.out (.slice A8 (k + 1) c8))
          have HMN : Hid ((PsO ++ [(q, qb, P)]).map (fun x => x.2.2) = (Ps.map (fun x => x.2.2)).take (k + 1)) := by
            show _ = _
            rw [HPE.out, List.map_append, HMO.out]; rfl
          go_wp2
          go_roundw
          case rel => exact ⟨k + 1, _, _, by omega, by go_num, HM2.out, HMN.out, HB9.out⟩
          case measure => simp [intOf]; omega
      · have c1 := HO5.out.c.2.1
        clear hHeld
        go_simp
        clear c1
        refine hK.out _ _ (HSO.out _ _ HO5.out) (fun hHeld2 => ?_)
        clear hK K
        try clear hHeld
        have hHeld := hHeld2
        clear hHeld2
        try simp only [Act.put, List.setIfInBounds_toArray, List.set_cons_zero, List.set_cons_succ]
        refine wpAnyH_ready (rs := [6]) (by kernel_rfl) (by simp) (AllReadyH.cons (o := { dst := some 38, op := Op.call { callee := Callee.value (Operand.func 43), args := #[Operand.tmp 37], argTypes := #[67] }, type := 67, pos := "arena.go:153", after := #[{ on := 5, ground := Ground.data }], guard := none }) rfl (fun K hK => ?_) AllReadyH.nil)
        refine step_callw (by rfl) 43 #[.pointer (some ⟨pp, 0, none⟩)] (by go_simp) ?_
        refine (copy_any B pp pb s P.1 P.2.1 P.2.2.1 P.2.2.2 w5 HP5.out).mono ?_
        rintro z w6 ⟨q, qb, rfl, hpq, hb⟩
        have HPQ : Hid (PgS w6 w5.heap.size q qb s P) := Lib.hid hpq
        have HZQ : Hid (∀ x ∈ PsO, x.1 < w5.heap.size ∧ x.2.1 < w5.heap.size) := fun x hx => ⟨(Pg.at_ (HO5.out.pgs x hx)).plt, (Pg.at_ (HO5.out.pgs x hx)).blt⟩
        have HZG : Hid (gg < w5.heap.size ∧ w.heap.size ≤ w5.heap.size) := ⟨HO5.out.gens.2.lt, HB5.out.size⟩
        replace HO5 := Lib.hid (HO5.out.later hb)
        replace HB5 := Lib.hid (stepB HB5.out hb)
        clear hpq hb HP5
        refine ⟨_, rfl, hK.out _ _ (HSO.out _ _ HO5.out) (fun hHeld2 => ?_)⟩
        clear hK K hHeld
        have hHeld := hHeld2
        clear hHeld2
        try simp only [Act.put, List.setIfInBounds_toArray, List.set_cons_zero, List.set_cons_succ]
        obtain ⟨z5, hz5⟩ : ∃ z5, w5.heap.size = z5 := ⟨_, rfl⟩
        rw [hz5] at HPQ HZQ HZG
        clear hz5
        obtain ⟨w5, hw5⟩ : ∃ x, w6 = x := ⟨_, rfl⟩
        subst hw5
        refine wpAnyH_ready (rs := [7]) (by kernel_rfl) (by simp) (AllReadyH.cons (o := { dst := some 39, op := Op.buildSlice 68 1 #[(0, Operand.tmp 38)], type := 68, pos := "arena.go:153", after := #[{ on := 6, ground := Ground.data }], guard := none }) rfl (fun K hK => ?_) AllReadyH.nil)
        have hbx : Below w6.heap.size w6 (w6.alloc (.cells #[.pointer (some ⟨q, 0, none⟩)] 67)) := (Below.refl _ _).alloc (Nat.le_refl _) _
        have HX : Hid (Sl pv (w6.alloc (.cells #[.pointer (some ⟨q, 0, none⟩)] 67)) (some ⟨w6.heap.size, 0, none⟩) 1 1 [q]) := Blk.sl (enc := pv) (xs := [q]) (Blk.new w6 #[.pointer (some ⟨q, 0, none⟩)] 67)
        replace HO5 := Lib.hid (HO5.out.later hbx)
        replace HB5 := Lib.hid (stepB HB5.out hbx)
        replace HPQ := Lib.hid (HPQ.out.later hbx)
        clear hbx
        go_simp
        refine hK.out _ _ (HSO.out _ _ HO5.out) (fun hHeld2 => ?_)
        clear hK K
        try clear hHeld
        have hHeld := hHeld2
        clear hHeld2
        try simp only [Act.put, List.setIfInBounds_toArray, List.set_cons_zero, List.set_cons_succ]
        generalize w6.alloc (.cells #[.pointer (some ⟨q, 0, none⟩)] 67) = w7 at *
        generalize w6.heap.size = xq at *
        have HRW : Hid (Ow pv w7 w.heap.size 67 vO k (PsO.map (fun x => x.1))) := Lib.hid (by have := HO5.out.row; rw [HLN.out] at this; exact this)
        refine wpAnyH_ready (rs := [8]) (by kernel_rfl) (by simp) (AllReadyH.cons (o := { dst := some 40, op := Op.call { callee := Callee.builtin Builtin.append, args := #[Operand.tmp 36, Operand.tmp 39], argTypes := #[68, 68] }, type := 68, pos := "arena.go:153", after := #[{ on := 4, ground := Ground.data }, { on := 7, ground := Ground.data }, { on := 6, ground := Ground.chain }], guard := none }) rfl (fun K hK => ?_) AllReadyH.nil)
        refine step_append_sl elemP rfl (.tmp 36) (.tmp 39) rfl w.heap.size vO k (PsO.map (fun x => x.1)) rfl HRW.out (some ⟨xq, 0, none⟩) 1 1 [q] rfl HX.out (by omega) (by decide) HB5.out.size (fun v8 w8 ho8 hg8 => ?_)
        obtain ⟨A8, c8, rfl, _⟩ := Ow.sl ho8
        have hm := HO5.out.more (HPQ.out.base HZG.out.2) (fun x hx => ⟨by have := (HZQ.out x hx).1; have := (Pg.at_ HPQ.out).hp; omega, by have := (HZQ.out x hx).2; have := (Pg.at_ HPQ.out).own.1; omega⟩) (by have := HZG.out.1; have := (Pg.at_ HPQ.out).own.1; omega) (by rw [HLN.out]; exact ho8) hg8
        have HM1 := Lib.hid hm.1
        have HM2 := Lib.hid hm.2
        have hlt8 := fun j hj => (Ow.lt HRW.out j hj).1
        have HB8 : Hid (Below w.heap.size w w8) := Lib.hid (Below.grown HB5.out hg8 HB5.out.size hlt8)
        have HOQ : Hid (w.heap.size ≤ oq) := Lib.hid HO5.out.hp
        clear hm ho8 hg8 hlt8
        refine hK.out _ _ ⟨oldc_of (HM1.out.cell 1), HM1.out.frozen 1⟩ (fun hHeld2 => ?_)
        clear hK K hHeld
        have hHeld := hHeld2
        clear hHeld2
        try simp only [Act.put, List.setIfInBounds_toArray, List.set_cons_zero, List.set_cons_succ]
        refine wpAnyH_take (i := 9) (oi := { dst := some 41, op := Op.nilCheck (Operand.tmp 32), type := 0, pos := "arena.go:153", after := #[{ on := 0, ground := Ground.data }, { on := 0, ground := Ground.phase }, { on := 1, ground := Ground.phase }, { on := 2, ground := Ground.phase }, { on := 3, ground := Ground.phase }, { on := 4, ground := Ground.phase }, { on := 5, ground := Ground.phase }, { on := 6, ground := Ground.phase }, { on := 7, ground := Ground.phase }, { on := 8, ground := Ground.phase }], guard := none }) (v := ?_) rfl (by kernel_rfl) (by kernel_rfl) (by kernel_rfl) (fun _ _ _ h => h) (Or.inl ⟨by rfl, ?_⟩) (by assumption) ?_
        rotate_left
        · intro W hSw
          clear hSw
          go_simp
          try with_reducible rfl
        simp only [Act.put, List.setIfInBounds_toArray, List.set_cons_zero, List.set_cons_succ]
        refine wpAnyH_take (i := 10) (oi := { dst := some 42, op := Op.fieldAddr 71 (Operand.tmp 41) 1, type := 0, pos := "arena.go:153", after := #[{ on := 9, ground := Ground.data }, { on := 0, ground := Ground.phase }, { on := 1, ground := Ground.phase }, { on := 2, ground := Ground.phase }, { on := 3, ground := Ground.phase }, { on := 4, ground := Ground.phase }, { on := 5, ground := Ground.phase }, { on := 6, ground := Ground.phase }, { on := 7, ground := Ground.phase }, { on := 8, ground := Ground.phase }], guard := none }) (v := ?_) rfl (by kernel_rfl) (by kernel_rfl) (by kernel_rfl) (fun _ _ _ h => h) (Or.inl ⟨by rfl, ?_⟩) (by assumption) ?_
        rotate_left
        · intro W hSw
          clear hSw
          go_simp
          try with_reducible rfl
        simp only [Act.put, List.setIfInBounds_toArray, List.set_cons_zero, List.set_cons_succ]
        refine wpAnyH_ready (rs := [11]) (by kernel_rfl) (by simp) (AllReadyH.cons (o := { dst := none, op := Op.store 68 (Operand.tmp 42) (Operand.tmp 40), type := 0, pos := "arena.go:153", after := #[{ on := 10, ground := Ground.data }, { on := 8, ground := Ground.data }, { on := 8, ground := Ground.chain }, { on := 0, ground := Ground.phase }, { on := 1, ground := Ground.phase }, { on := 2, ground := Ground.phase }, { on := 3, ground := Ground.phase }, { on := 4, ground := Ground.phase }, { on := 5, ground := Ground.phase }, { on := 6, ground := Ground.phase }, { on := 7, ground := Ground.phase }, { on := 8, ground := Ground.phase }], guard := none }) rfl (fun K hK => ?_) AllReadyH.nil)
        clear hHeld
        have q1 := HM1.out.cell 1
        have qf := HM1.out.frozen 1
        simp only [List.getElem?_toArray, List.getElem?_cons_zero, List.getElem?_cons_succ] at q1
        go_simp
        refine hK.out _ _ ⟨oldc_of HM2.out.c.2.1, HM2.out.blk.frozen 1⟩ (fun hHeld2 => ?_)
        clear hK K q1 qf
        refine wpAnyH_done (by kernel_rfl) (NoPanic.normal ?_) _
        clear hHeld2
        have HB9 := Lib.hid (Below.setCell (p := ⟨oq, 1, none⟩) HB8.out HOQ.out (.slice A8 (k + 1) c8))
        have HMN : Hid ((PsO ++ [(q, qb, P)]).map (fun x => x.2.2) = (Ps.map (fun x => x.2.2)).take (k + 1)) := by
          show _ = _
          rw [HPE.out, List.map_append, HMO.out]; rfl
        go_wp2
        go_roundw
        case rel => exact ⟨k + 1, _, _, by omega, by go_num, HM2.out, HMN.out, HB9.out⟩
        case measure => simp [intOf]; omega
    · obtain rfl : k = Ps.length := by omega
      have d1 : decide ((Ps.length : Int) < (Ps.length : Int)) = false := decide_eq_false (by omega)
      have hts : PsO.map (fun x => x.2.2) = L := by
        rw [HMO.out, ← HM.out, List.take_of_length_le (by rw [List.length_map]; exact Nat.le_refl _)]
      have HTS := Lib.hid hts
      clear hts
      go_wp2
      go_ret
      exact ⟨oq, _, rfl, ⟨gg, vO, PsO, HOO.out, HTS.out, rfl, HLO.out.1, HLO.out.2⟩, HB4.out⟩
end Go.Proofs.Ytbnbhhmgfogjeaa
