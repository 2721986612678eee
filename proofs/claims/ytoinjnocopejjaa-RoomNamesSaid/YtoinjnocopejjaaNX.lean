/- NX, NY in one. -/
import Derived.Test.YtoinjnocopejjaaNV
import Derived.StillTailTactics
/- New: what is made. -/
namespace Go.Proofs.Ytoinjnocopejjaa
open Go.ChangeShapes Go.WideShapes Go.ChangeAt Go.RowKit Go.Maps
set_option linter.unusedVariables false
set_option linter.unusedSimpArgs false
theorem info38i : ∃ i z, Try.prog.info? 85 = some i ∧ i.zero = some z ∧ i.size = 1 ∧ i.bytes = 24 ∧ z = .slice none 0 0 := by
  have h : (Try.prog.info? 85).map (fun i => (i.zero, i.size, i.bytes)) = some (some (.slice none 0 0), 1, 24) := by kernel_rfl
  cases hi : Try.prog.info? 85 with
  | none => rw [hi] at h; cases h
  | some i => rw [hi] at h; simp only [Option.map_some, Option.some.injEq, Prod.mk.injEq] at h; exact ⟨i, _, rfl, h.1, h.2.1, h.2.2, rfl⟩
theorem make85 (n : Nat) (hn : n ≤ 1000) (W : World) : (Instr.makeSlice 107 (.int .i64 (n : Int)) (.int .i64 (n : Int))).run Try.prog W = .ok (.slice (some ⟨W.heap.size, 0, none⟩) n n) (W.alloc (.cells (madeCells (Value.slice none 0 0).cells (n * 1)) 85)) := by
  obtain ⟨i, z, hi, hz, hs, hb, rfl⟩ := info38i
  have := run_makeSlice (P := Try.prog) W 107 85 i _ Try.underlying107 hi hz .i64 .i64 (n : Int) (n : Int) (by omega) (by omega) (by rw [hs]; simp only [Int.toNat_natCast]; omega) (by rw [hb]; omega) (by omega)
  rw [this, hs]; simp only [Int.toNat_natCast]
theorem made_rep (n : Nat) : madeCells (Value.slice none 0 0).cells (n * 1) = (List.replicate n (Value.slice none 0 0)).toArray := by
  rw [Nat.mul_one]
  apply Array.ext
  · simp [madeCells]
  · intro i h1 h2
    simp [madeCells, Value.cells]
    rw [Nat.mod_one]; rfl
/-- New ends so -/
def NewEnd (c : Conf) (w : World) (e : Ending) (w' : World) : Prop := Below w.heap.size w w' ∧ ((mayB c = true ∧ ∃ p S, e = .returned (.tuple #[.pointer (some ⟨p, 0, none⟩), .int .i64 0]) ∧ MR w' w.heap.size p (newM c) S) ∨ (mayB c = false ∧ e = .returned (.tuple #[.pointer none, .int .i64 1])))
theorem MR.made {c : Conf} {W : World} {B p tb mb : Nat} (hp : B ≤ p) (htb : B ≤ tb) (hmb : B ≤ mb) (h : mayB c = true) (hb : Blk W p (mdC c 0 0 (.slice none 0 0) tb c.ta.toNat mb).toArray 110) (ht : Blk W tb (List.replicate c.ta.toNat (Value.slice none 0 0)).toArray 85) (hm : W.ownsMap Try.prog 9 RH mb 0 (dm [])) :
    ∃ S, MR W B p (newM c) S := by
  refine ⟨_, ⟨.slice none 0 0, tb, List.replicate c.ta.toNat (Value.slice none 0 0), mb, []⟩, ⟨hp, ?_, ROwn.nil0 _ _ _, htb, ht, ?_, fun i v l h1 h2 => ?_, ?_, hmb, hm, rfl, (fun q hq => by cases hq), OkM.new h⟩, rfl⟩
  · show Blk W p (mdC c 0 0 (.slice none 0 0) tb (List.replicate c.ta.toNat ([] : List Int)).length mb).toArray 110
    rw [List.length_replicate]; exact hb
  · show (List.replicate _ _).length = (List.replicate c.ta.toNat ([] : List Int)).length
    rw [List.length_replicate, List.length_replicate]
  · have e1 := List.eq_of_mem_replicate (List.mem_of_getElem? h1)
    have e2 := List.eq_of_mem_replicate (List.mem_of_getElem? (show (List.replicate c.ta.toNat ([] : List Int))[i]? = some l from h2))
    subst e1; subst e2
    exact Ow.none _ _ _
  · refine List.pairwise_iff_getElem.2 (fun i j hi hj hij k e => ?_)
    simp only [List.getElem_replicate] at e
    cases e
end Go.Proofs.Ytoinjnocopejjaa

/- New. -/
namespace Go.Proofs.Ytoinjnocopejjaa
open Go.ChangeShapes Go.WideShapes Go.ChangeAt Go.RowKit Go.Maps
set_option linter.unusedVariables false
set_option linter.unusedSimpArgs false
set_option maxRecDepth 100000 in
set_option maxHeartbeats 1600000 in
theorem new_any (c : Conf) (w : World) : Calls Try.prog 28 #[c.val] w (NewEnd c w) := by
  have HB : Hid (Below w.heap.size w (w.alloc (.cells #[.int .i64 c.ta, .int .i64 c.ac, .int .i64 c.ke, .int .i64 c.de, .int .i64 c.ts, .int .i64 c.kl, .int .i64 c.vl, .int .i64 c.fa] 45))) := Lib.hid ((Below.refl _ _).alloc (Nat.le_refl _) _)
  have K1 : Hid (Blk (w.alloc (.cells #[.int .i64 c.ta, .int .i64 c.ac, .int .i64 c.ke, .int .i64 c.de, .int .i64 c.ts, .int .i64 c.kl, .int .i64 c.vl, .int .i64 c.fa] 45)) w.heap.size #[.int .i64 c.ta, .int .i64 c.ac, .int .i64 c.ke, .int .i64 c.de, .int .i64 c.ts, .int .i64 c.kl, .int .i64 c.vl, .int .i64 c.fa] 45) := Lib.hid (Blk.new w _ 45)
  have HMY : Hid (∀ W : World, Calls Try.prog 51 #[.agg #[.int .i64 c.ta, .int .i64 c.ac, .int .i64 c.ke, .int .i64 c.de, .int .i64 c.ts, .int .i64 c.kl, .int .i64 c.vl, .int .i64 c.fa]] W fun e w' => e = .returned (.bool (mayB c)) ∧ Below W.heap.size W w') := Lib.hid (fun W => tx_may_any c W)
  show Calls Try.prog 28 #[.agg #[.int .i64 c.ta, .int .i64 c.ac, .int .i64 c.ke, .int .i64 c.de, .int .i64 c.ts, .int .i64 c.kl, .int .i64 c.vl, .int .i64 c.fa]] w (NewEnd c w)
  obtain ⟨b, hb⟩ : ∃ b, mayB c = b := ⟨_, rfl⟩
  rw [hb] at HMY
  have HBB := Lib.hid hb
  clear hb
  go_enter Try.func28, Try.ntmps28
  go_upto_region 1 with (fail)
  generalize (w.alloc (.cells #[.int .i64 c.ta, .int .i64 c.ac, .int .i64 c.ke, .int .i64 c.de, .int .i64 c.ts, .int .i64 c.kl, .int .i64 c.vl, .int .i64 c.fa] 45)) = w1 at *
  have z0 := K1.out.cell 0
  have z1 := K1.out.cell 1
  have z2 := K1.out.cell 2
  have z3 := K1.out.cell 3
  have z4 := K1.out.cell 4
  have z5 := K1.out.cell 5
  have z6 := K1.out.cell 6
  have z7 := K1.out.cell 7
  simp only [List.getElem?_toArray, List.getElem?_cons_zero, List.getElem?_cons_succ] at z0 z1 z2 z3 z4 z5 z6 z7
  go_wp2_with fail
  refine (HMY.out _).mono ?_
  rintro e w2 ⟨rfl, hb⟩
  replace HB := Lib.hid (stepB HB.out hb)
  replace K1 := Lib.hid (K1.out.later hb)
  clear hb
  clear z0 z1 z2 z3 z4 z5 z6 z7
  clear HMY
  cases b with
  | false =>
    go_wp2
    go_ret2
    exact ⟨HB.out, .inr ⟨HBB.out, rfl⟩⟩
  | true =>
    obtain ⟨n, hn⟩ : ∃ n : Nat, c.ta = (n : Int) := ⟨c.ta.toNat, by have := may_lo HBB.out; omega⟩
    have HN : Hid (c.ta.toNat = n) := Lib.hid (by rw [hn]; rfl)
    have hms := make85 n (by have := may_lo HBB.out; omega)
    rw [made_rep, List.toArray_replicate] at hms
    have hmm : ∀ W : World, (Instr.makeMap 108 none).run Try.prog W = .ok (.map (some W.heap.size)) (W.alloc (.map #[] 0)) := fun W => rfl
    have HCN := Lib.hid hn
    go_upto_region 3 with (fail)
    clear hn
    refine wp_region_noPanic ?_
    obtain ⟨W0, rfl⟩ : ∃ W0 : World, W0 = w2 := ⟨_, rfl⟩
    refine wp_region_held_drew (S := fun W => Blk W w.heap.size #[.int .i64 c.ta, .int .i64 c.ac, .int .i64 c.ke, .int .i64 c.de, .int .i64 c.ts, .int .i64 c.kl, .int .i64 c.vl, .int .i64 c.fa] 45) (by kernel_rfl) (K1.out) (fun hHeld => ?_)
    replace HB : Hid (Below w.heap.size w (World.drew W0)) := Lib.hid (Below.drew HB.out)
    replace K1 : Hid (Blk (World.drew W0) w.heap.size #[.int .i64 c.ta, .int .i64 c.ac, .int .i64 c.ke, .int .i64 c.de, .int .i64 c.ts, .int .i64 c.kl, .int .i64 c.vl, .int .i64 c.fa] 45) := Lib.hid K1.out
    generalize World.drew W0 = Wd at *
    refine wpAnyH_take (i := 0) (oi := { dst := some 7, op := Op.load 45 (Operand.tmp 1), type := 45, pos := "model.go:53", after := #[], guard := none }) (v := ?_) rfl (by kernel_rfl) (by kernel_rfl) (by kernel_rfl) (fun _ _ _ h => h) (Or.inl ⟨by rfl, ?_⟩) (by assumption) ?_
    rotate_left
    · intro W hSw
      have z0 := hSw.cell 0
      have z1 := hSw.cell 1
      have z2 := hSw.cell 2
      have z3 := hSw.cell 3
      have z4 := hSw.cell 4
      have z5 := hSw.cell 5
      have z6 := hSw.cell 6
      have z7 := hSw.cell 7
      simp only [List.getElem?_toArray, List.getElem?_cons_zero, List.getElem?_cons_succ] at z0 z1 z2 z3 z4 z5 z6 z7
      clear hSw
      go_simp
      try with_reducible rfl
    simp only [Act.put, List.setIfInBounds_toArray, List.set_cons_zero, List.set_cons_succ]
    refine wpAnyH_take (i := 1) (oi := { dst := some 8, op := Op.fieldAddr 45 (Operand.tmp 1) 0, type := 0, pos := "model.go:53", after := #[], guard := none }) (v := ?_) rfl (by kernel_rfl) (by kernel_rfl) (by kernel_rfl) (fun _ _ _ h => h) (Or.inl ⟨by rfl, ?_⟩) (by assumption) ?_
    rotate_left
    · intro W hSw
      clear hSw
      go_simp
      try with_reducible rfl
    simp only [Act.put, List.setIfInBounds_toArray, List.set_cons_zero, List.set_cons_succ]
    refine wpAnyH_take (i := 2) (oi := { dst := some 9, op := Op.load 3 (Operand.tmp 8), type := 3, pos := "model.go:53", after := #[{ on := 1, ground := Ground.data }], guard := none }) (v := ?_) rfl (by kernel_rfl) (by kernel_rfl) (by kernel_rfl) (fun _ _ _ h => h) (Or.inl ⟨by rfl, ?_⟩) (by assumption) ?_
    rotate_left
    · intro W hSw
      have z0 := hSw.cell 0
      simp only [List.getElem?_toArray, List.getElem?_cons_zero, List.getElem?_cons_succ] at z0
      rw [HCN.out] at z0
      clear hSw
      go_simp
      try with_reducible rfl
    simp only [Act.put, List.setIfInBounds_toArray, List.set_cons_zero, List.set_cons_succ]
    refine wpAnyH_ready (rs := [3, 4]) (by kernel_rfl) (by simp) (AllReadyH.cons (o := { dst := some 10, op := Op.makeSlice 107 (Operand.tmp 9) (Operand.tmp 9), type := 107, pos := "model.go:53", after := #[{ on := 2, ground := Ground.data }, { on := 2, ground := Ground.data }], guard := none }) rfl (fun K hK => ?_) (AllReadyH.cons (o := { dst := some 11, op := Op.makeMap 108 none, type := 108, pos := "model.go:53", after := #[], guard := none }) rfl (fun K hK => ?_) AllReadyH.nil))
    · go_simp
      have hb : Below Wd.heap.size Wd (Wd.alloc (.cells (Array.replicate n (Value.slice none 0 0)) 85)) := (Below.refl _ _).alloc (Nat.le_refl _) _
      have KT : Hid (Blk (Wd.alloc (.cells (Array.replicate n (Value.slice none 0 0)) 85)) Wd.heap.size (Array.replicate n (Value.slice none 0 0)) 85) := Lib.hid (Blk.new Wd _ 85)
      have HTB : Hid (w.heap.size ≤ Wd.heap.size) := Lib.hid HB.out.size
      replace HB := Lib.hid (stepB HB.out hb)
      replace K1 := Lib.hid (K1.out.later hb)
      clear hb hHeld
      refine hK.out _ _ (K1.out) (fun hHeld => ?_)
      clear hK K
      generalize Wd.alloc (.cells (Array.replicate n (Value.slice none 0 0)) 85) = We at *
      obtain ⟨tb, htb⟩ : ∃ x, Wd.heap.size = x := ⟨_, rfl⟩
      rw [htb] at KT HTB ⊢
      clear htb
      refine wpAnyH_ready (rs := [4]) (by kernel_rfl) (by simp) (AllReadyH.cons (o := { dst := some 11, op := Op.makeMap 108 none, type := 108, pos := "model.go:53", after := #[], guard := none }) rfl (fun K hK => ?_) AllReadyH.nil)
      go_simp
      have hb : Below We.heap.size We (We.alloc (.map #[] 0)) := (Below.refl _ _).alloc (Nat.le_refl _) _
      have KM : Hid ((We.alloc (.map #[] 0)).ownsMap Try.prog 9 RH We.heap.size 0 (dm [])) := Lib.hid (World.ownsMap_made We Try.prog 9 RH)
      have HMB : Hid (w.heap.size ≤ We.heap.size) := Lib.hid HB.out.size
      replace HB := Lib.hid (stepB HB.out hb)
      replace K1 := Lib.hid (K1.out.later hb)
      replace KT := Lib.hid (KT.out.later hb)
      clear hb hHeld
      refine hK.out _ _ (K1.out) (fun hHeld => ?_)
      clear hK K
      generalize We.alloc (.map #[] 0) = Wf at *
      obtain ⟨mb, hmb⟩ : ∃ x, We.heap.size = x := ⟨_, rfl⟩
      rw [hmb] at KM HMB ⊢
      clear hmb
      refine wpAnyH_take (i := 5) (oi := { dst := some 12, op := Op.build 110 #[(0, Operand.tmp 7), (4, Operand.tmp 10), (5, Operand.tmp 11)], type := 110, pos := "model.go:53", after := #[{ on := 0, ground := Ground.data }, { on := 3, ground := Ground.data }, { on := 4, ground := Ground.data }], guard := none }) (v := ?_) rfl (by kernel_rfl) (by kernel_rfl) (by kernel_rfl) (fun _ _ _ h => h) (Or.inl ⟨by rfl, ?_⟩) (by assumption) ?_
      rotate_left
      · intro W hSw
        clear hSw
        go_simp
        try with_reducible rfl
      simp only [Act.put, List.setIfInBounds_toArray, List.set_cons_zero, List.set_cons_succ]
      refine wpAnyH_ready (rs := [6]) (by kernel_rfl) (by simp) (AllReadyH.cons (o := { dst := some 13, op := Op.box 110 (Operand.tmp 12), type := 22, pos := "model.go:53", after := #[{ on := 5, ground := Ground.data }], guard := none }) rfl (fun K hK => ?_) AllReadyH.nil)
      go_simp
      have hb : Below Wf.heap.size Wf (Wf.alloc (.cells #[.int .i64 c.ta, .int .i64 c.ac, .int .i64 c.ke, .int .i64 c.de, .int .i64 c.ts, .int .i64 c.kl, .int .i64 c.vl, .int .i64 c.fa, .int .i64 0, .int .i64 0, .slice none 0 0, .slice (some ⟨tb, 0, none⟩) n n, .map (some mb)] 110)) := (Below.refl _ _).alloc (Nat.le_refl _) _
      have KP : Hid (Blk (Wf.alloc (.cells #[.int .i64 c.ta, .int .i64 c.ac, .int .i64 c.ke, .int .i64 c.de, .int .i64 c.ts, .int .i64 c.kl, .int .i64 c.vl, .int .i64 c.fa, .int .i64 0, .int .i64 0, .slice none 0 0, .slice (some ⟨tb, 0, none⟩) n n, .map (some mb)] 110)) Wf.heap.size #[.int .i64 c.ta, .int .i64 c.ac, .int .i64 c.ke, .int .i64 c.de, .int .i64 c.ts, .int .i64 c.kl, .int .i64 c.vl, .int .i64 c.fa, .int .i64 0, .int .i64 0, .slice none 0 0, .slice (some ⟨tb, 0, none⟩) n n, .map (some mb)] 110) := Lib.hid (Blk.new Wf _ 110)
      have HPB : Hid (w.heap.size ≤ Wf.heap.size) := Lib.hid HB.out.size
      replace HB := Lib.hid (stepB HB.out hb)
      replace K1 := Lib.hid (K1.out.later hb)
      replace KT := Lib.hid (KT.out.later hb)
      replace KM := Lib.hid (map_keep KM.out (hb.block _ KM.out.lt))
      clear hb hHeld
      refine hK.out _ _ (K1.out) (fun hHeld => ?_)
      clear hK K
      generalize Wf.alloc (.cells #[.int .i64 c.ta, .int .i64 c.ac, .int .i64 c.ke, .int .i64 c.de, .int .i64 c.ts, .int .i64 c.kl, .int .i64 c.vl, .int .i64 c.fa, .int .i64 0, .int .i64 0, .slice none 0 0, .slice (some ⟨tb, 0, none⟩) n n, .map (some mb)] 110) = Wz at *
      obtain ⟨pp, hpp⟩ : ∃ x, Wf.heap.size = x := ⟨_, rfl⟩
      rw [hpp] at KP HPB ⊢
      clear hpp
      refine wpAnyH_take (i := 7) (oi := { dst := some 2, op := Op.assign (Operand.tmp 13), type := 22, pos := "model.go:53", after := #[{ on := 6, ground := Ground.data }, { on := 0, ground := Ground.phase }, { on := 1, ground := Ground.phase }, { on := 2, ground := Ground.phase }, { on := 3, ground := Ground.phase }, { on := 4, ground := Ground.phase }, { on := 5, ground := Ground.phase }, { on := 6, ground := Ground.phase }], guard := none }) (v := ?_) rfl (by kernel_rfl) (by kernel_rfl) (by kernel_rfl) (fun _ _ _ h => h) (Or.inl ⟨by rfl, ?_⟩) (by assumption) ?_
      rotate_left
      · intro W hSw
        clear hSw
        go_simp
        try with_reducible rfl
      simp only [Act.put, List.setIfInBounds_toArray, List.set_cons_zero, List.set_cons_succ]
      refine wpAnyH_take (i := 8) (oi := { dst := some 3, op := Op.assign (Operand.const (Value.int IntKind.i64 0)), type := 30, pos := "model.go:53", after := #[{ on := 7, ground := Ground.chain }, { on := 0, ground := Ground.phase }, { on := 1, ground := Ground.phase }, { on := 2, ground := Ground.phase }, { on := 3, ground := Ground.phase }, { on := 4, ground := Ground.phase }, { on := 5, ground := Ground.phase }, { on := 6, ground := Ground.phase }, { on := 7, ground := Ground.phase }], guard := none }) (v := ?_) rfl (by kernel_rfl) (by kernel_rfl) (by kernel_rfl) (fun _ _ _ h => h) (Or.inl ⟨by rfl, ?_⟩) (by assumption) ?_
      rotate_left
      · intro W hSw
        clear hSw
        go_simp
        try with_reducible rfl
      simp only [Act.put, List.setIfInBounds_toArray, List.set_cons_zero, List.set_cons_succ]
      refine wpAnyH_done (by kernel_rfl) (NoPanic.normal ?_) _
      clear hHeld
      go_wp2
      go_ret2
      obtain ⟨S, hS⟩ := MR.made (c := c) HPB.out HTB.out HMB.out HBB.out (by rw [HN.out]; exact KP.out) (by rw [HN.out, List.toArray_replicate]; exact KT.out) KM.out
      exact ⟨HB.out, .inl ⟨HBB.out, _, S, rfl, hS⟩⟩
    · go_simp
      have hb : Below Wd.heap.size Wd (Wd.alloc (.map #[] 0)) := (Below.refl _ _).alloc (Nat.le_refl _) _
      have KM : Hid ((Wd.alloc (.map #[] 0)).ownsMap Try.prog 9 RH Wd.heap.size 0 (dm [])) := Lib.hid (World.ownsMap_made Wd Try.prog 9 RH)
      have HMB : Hid (w.heap.size ≤ Wd.heap.size) := Lib.hid HB.out.size
      replace HB := Lib.hid (stepB HB.out hb)
      replace K1 := Lib.hid (K1.out.later hb)
      clear hb hHeld
      refine hK.out _ _ (K1.out) (fun hHeld => ?_)
      clear hK K
      generalize Wd.alloc (.map #[] 0) = We at *
      obtain ⟨mb, hmb⟩ : ∃ x, Wd.heap.size = x := ⟨_, rfl⟩
      rw [hmb] at KM HMB ⊢
      clear hmb
      refine wpAnyH_ready (rs := [3]) (by kernel_rfl) (by simp) (AllReadyH.cons (o := { dst := some 10, op := Op.makeSlice 107 (Operand.tmp 9) (Operand.tmp 9), type := 107, pos := "model.go:53", after := #[{ on := 2, ground := Ground.data }, { on := 2, ground := Ground.data }], guard := none }) rfl (fun K hK => ?_) AllReadyH.nil)
      go_simp
      have hb : Below We.heap.size We (We.alloc (.cells (Array.replicate n (Value.slice none 0 0)) 85)) := (Below.refl _ _).alloc (Nat.le_refl _) _
      have KT : Hid (Blk (We.alloc (.cells (Array.replicate n (Value.slice none 0 0)) 85)) We.heap.size (Array.replicate n (Value.slice none 0 0)) 85) := Lib.hid (Blk.new We _ 85)
      have HTB : Hid (w.heap.size ≤ We.heap.size) := Lib.hid HB.out.size
      replace HB := Lib.hid (stepB HB.out hb)
      replace K1 := Lib.hid (K1.out.later hb)
      replace KM := Lib.hid (map_keep KM.out (hb.block _ KM.out.lt))
      clear hb hHeld
      refine hK.out _ _ (K1.out) (fun hHeld => ?_)
      clear hK K
      generalize We.alloc (.cells (Array.replicate n (Value.slice none 0 0)) 85) = Wf at *
      obtain ⟨tb, htb⟩ : ∃ x, We.heap.size = x := ⟨_, rfl⟩
      rw [htb] at KT HTB ⊢
      clear htb
      refine wpAnyH_take (i := 5) (oi := { dst := some 12, op := Op.build 110 #[(0, Operand.tmp 7), (4, Operand.tmp 10), (5, Operand.tmp 11)], type := 110, pos := "model.go:53", after := #[{ on := 0, ground := Ground.data }, { on := 3, ground := Ground.data }, { on := 4, ground := Ground.data }], guard := none }) (v := ?_) rfl (by kernel_rfl) (by kernel_rfl) (by kernel_rfl) (fun _ _ _ h => h) (Or.inl ⟨by rfl, ?_⟩) (by assumption) ?_
      rotate_left
      · intro W hSw
        clear hSw
        go_simp
        try with_reducible rfl
      simp only [Act.put, List.setIfInBounds_toArray, List.set_cons_zero, List.set_cons_succ]
      refine wpAnyH_ready (rs := [6]) (by kernel_rfl) (by simp) (AllReadyH.cons (o := { dst := some 13, op := Op.box 110 (Operand.tmp 12), type := 22, pos := "model.go:53", after := #[{ on := 5, ground := Ground.data }], guard := none }) rfl (fun K hK => ?_) AllReadyH.nil)
      go_simp
      have hb : Below Wf.heap.size Wf (Wf.alloc (.cells #[.int .i64 c.ta, .int .i64 c.ac, .int .i64 c.ke, .int .i64 c.de, .int .i64 c.ts, .int .i64 c.kl, .int .i64 c.vl, .int .i64 c.fa, .int .i64 0, .int .i64 0, .slice none 0 0, .slice (some ⟨tb, 0, none⟩) n n, .map (some mb)] 110)) := (Below.refl _ _).alloc (Nat.le_refl _) _
      have KP : Hid (Blk (Wf.alloc (.cells #[.int .i64 c.ta, .int .i64 c.ac, .int .i64 c.ke, .int .i64 c.de, .int .i64 c.ts, .int .i64 c.kl, .int .i64 c.vl, .int .i64 c.fa, .int .i64 0, .int .i64 0, .slice none 0 0, .slice (some ⟨tb, 0, none⟩) n n, .map (some mb)] 110)) Wf.heap.size #[.int .i64 c.ta, .int .i64 c.ac, .int .i64 c.ke, .int .i64 c.de, .int .i64 c.ts, .int .i64 c.kl, .int .i64 c.vl, .int .i64 c.fa, .int .i64 0, .int .i64 0, .slice none 0 0, .slice (some ⟨tb, 0, none⟩) n n, .map (some mb)] 110) := Lib.hid (Blk.new Wf _ 110)
      have HPB : Hid (w.heap.size ≤ Wf.heap.size) := Lib.hid HB.out.size
      replace HB := Lib.hid (stepB HB.out hb)
      replace K1 := Lib.hid (K1.out.later hb)
      replace KT := Lib.hid (KT.out.later hb)
      replace KM := Lib.hid (map_keep KM.out (hb.block _ KM.out.lt))
      clear hb hHeld
      refine hK.out _ _ (K1.out) (fun hHeld => ?_)
      clear hK K
      generalize Wf.alloc (.cells #[.int .i64 c.ta, .int .i64 c.ac, .int .i64 c.ke, .int .i64 c.de, .int .i64 c.ts, .int .i64 c.kl, .int .i64 c.vl, .int .i64 c.fa, .int .i64 0, .int .i64 0, .slice none 0 0, .slice (some ⟨tb, 0, none⟩) n n, .map (some mb)] 110) = Wz at *
      obtain ⟨pp, hpp⟩ : ∃ x, Wf.heap.size = x := ⟨_, rfl⟩
      rw [hpp] at KP HPB ⊢
      clear hpp
      refine wpAnyH_take (i := 7) (oi := { dst := some 2, op := Op.assign (Operand.tmp 13), type := 22, pos := "model.go:53", after := #[{ on := 6, ground := Ground.data }, { on := 0, ground := Ground.phase }, { on := 1, ground := Ground.phase }, { on := 2, ground := Ground.phase }, { on := 3, ground := Ground.phase }, { on := 4, ground := Ground.phase }, { on := 5, ground := Ground.phase }, { on := 6, ground := Ground.phase }], guard := none }) (v := ?_) rfl (by kernel_rfl) (by kernel_rfl) (by kernel_rfl) (fun _ _ _ h => h) (Or.inl ⟨by rfl, ?_⟩) (by assumption) ?_
      rotate_left
      · intro W hSw
        clear hSw
        go_simp
        try with_reducible rfl
      simp only [Act.put, List.setIfInBounds_toArray, List.set_cons_zero, List.set_cons_succ]
      refine wpAnyH_take (i := 8) (oi := { dst := some 3, op := Op.assign (Operand.const (Value.int IntKind.i64 0)), type := 30, pos := "model.go:53", after := #[{ on := 7, ground := Ground.chain }, { on := 0, ground := Ground.phase }, { on := 1, ground := Ground.phase }, { on := 2, ground := Ground.phase }, { on := 3, ground := Ground.phase }, { on := 4, ground := Ground.phase }, { on := 5, ground := Ground.phase }, { on := 6, ground := Ground.phase }, { on := 7, ground := Ground.phase }], guard := none }) (v := ?_) rfl (by kernel_rfl) (by kernel_rfl) (by kernel_rfl) (fun _ _ _ h => h) (Or.inl ⟨by rfl, ?_⟩) (by assumption) ?_
      rotate_left
      · intro W hSw
        clear hSw
        go_simp
        try with_reducible rfl
      simp only [Act.put, List.setIfInBounds_toArray, List.set_cons_zero, List.set_cons_succ]
      refine wpAnyH_done (by kernel_rfl) (NoPanic.normal ?_) _
      clear hHeld
      go_wp2
      go_ret2
      obtain ⟨S, hS⟩ := MR.made (c := c) HPB.out HTB.out HMB.out HBB.out (by rw [HN.out]; exact KP.out) (by rw [HN.out, List.toArray_replicate]; exact KT.out) KM.out
      exact ⟨HB.out, .inl ⟨HBB.out, _, S, rfl, hS⟩⟩
end Go.Proofs.Ytoinjnocopejjaa
