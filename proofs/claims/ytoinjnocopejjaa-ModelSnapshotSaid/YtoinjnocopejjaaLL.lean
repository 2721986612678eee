/- A note: what a Put wrote. -/
import Derived.Test.YtoinjnocopejjaaLK
import Derived.StillTailTactics
namespace Go.Proofs.Ytoinjnocopejjaa
open Go.ChangeShapes Go.WideShapes Go.ChangeAt Go.RowKit Go.Maps
set_option linter.unusedVariables false
set_option linter.unusedSimpArgs false
theorem noteI_3 (g : Lg) (at_ t : Int) (y : Int × ByteArray × ByteArray × ByteArray × Int × Nat) (fo : Bool) (av : ByteArray) (prs : List Pr) (i : Nat) : noteI g at_ t (3, y) (0, fo, av, prs) (i : Int) = addW g i ⟨0, y.2.1, false, y.2.2.2.1⟩ := by
  unfold noteI
  rw [if_neg (fun e => e.elim (fun e3 => e3 rfl) (fun e3 => by have := e3.2; omega)), if_neg (show ¬ ((3 : Nat) = 1) by decide), if_pos rfl]
  rfl
theorem noteI_4 (g : Lg) (at_ t : Int) (y : Int × ByteArray × ByteArray × ByteArray × Int × Nat) (av : ByteArray) (prs : List Pr) (i : Nat) : noteI g at_ t (4, y) (0, true, av, prs) (i : Int) = addW g i ⟨0, y.2.1, true, emp⟩ := by
  unfold noteI
  rw [if_neg (fun e => e.elim (fun e3 => e3 rfl) (fun e3 => by have := e3.2; omega)), if_neg (show ¬ ((4 : Nat) = 1) by decide), if_neg (show ¬ ((4 : Nat) = 3) by decide), if_pos rfl, if_pos rfl]
  rfl
theorem cell_keep {W W' : World} {b j : Nat} (h : W'.heap[b]? = W.heap[b]?) : W'.cell? ⟨b, j, none⟩ = W.cell? ⟨b, j, none⟩ := by
  unfold World.cell?; rw [h]
section
variable {W W1 : World} {B p : Nat} {g : Lg} {x : LX}
theorem hneW (h : LgAt W B p g x) {i : Nat} (hi : i < g.lives.length) {hd : Option Addr × Nat} (hh : x.hs[i]? = some hd) (hg : W.grownBy W1 (Value.slice hd.1 (gl g i).ws.length hd.2).ownBlock) {j : Nat} {cu : Array Value} {t : TypeId} (hb : Blk W j cu t) (ht : t ≠ 75) : W1.heap[j]? = W.heap[j]? :=
  hg.block j hb.lt (fun e2 => by
    obtain ⟨cu2, h2⟩ := (h.ws i hd _ hh (gl_at hi)).tag j e2.symm
    rw [show W.heap[j]? = some (.cells cu t (0, 0)) from hb] at h2
    simp only [Option.some.injEq, Obj.cells.injEq] at h2
    exact ht h2.2.1)
theorem LgAt.lblk (h : LgAt W B p g x) {i : Nat} (hi : i < g.lives.length) {b off : Nat} (e : x.lA = some ⟨b, off, none⟩) : ∃ cur, Blk W b cur 73 := h.li.tag b (h.lA hi e).1
end
set_option maxRecDepth 100000 in
set_option maxHeartbeats 1600000 in
theorem note_put (B p : Nat) (g : Lg) (x : LX) (at_ ta tx li er : Int) (ke en va av : ByteArray) (kn eg n c : Nat) (fo : Bool) (A : Option Addr) (prs : List Pr) (w : World) (h : LgAt w B p g x) (hl : g.lives.length ≤ 1000) (hB : B ≤ w.heap.size) (h0 : er = 0) (hkn : kn = 3) (i : Nat) (hi : findL g ta tx = (i : Int)) (hil : i < g.lives.length) (hw : (gl g i).ws.length ≤ 1000) : Calls Try.prog 36 #[.pointer (some ⟨p, 0, none⟩), .int .i64 at_, .agg #[.int .i64 ta, .int .u8 (kn : Int), .int .i64 tx, .string ke, .string en, .string va, .int .i64 li, .int .u8 (eg : Int)], .agg #[.int .i64 er, .bool fo, .string av, .slice A n c]] w (NtEnd B p (noteL g at_ ta (kn, tx, ke, en, va, li, eg) (er, fo, av, prs)) w) := by
  subst h0
  subst hkn
  have HFI := Lib.hid hi
  have HLI := Lib.hid hil
  have HWL := Lib.hid hw
  clear hi hil hw
  have hb2 : Below w.heap.size w ((w.alloc (.cells #[.int .i64 ta, .int .u8 3, .int .i64 tx, .string ke, .string en, .string va, .int .i64 li, .int .u8 (eg : Int)] 63)).alloc (.cells #[.int .i64 0, .bool fo, .string av, .slice A n c] 33)) := ((Below.refl _ _).alloc (Nat.le_refl _) _).alloc (by simp) _
  have HB := Lib.hid hb2
  have KT : Hid (Blk ((w.alloc (.cells #[.int .i64 ta, .int .u8 3, .int .i64 tx, .string ke, .string en, .string va, .int .i64 li, .int .u8 (eg : Int)] 63)).alloc (.cells #[.int .i64 0, .bool fo, .string av, .slice A n c] 33)) w.heap.size #[.int .i64 ta, .int .u8 3, .int .i64 tx, .string ke, .string en, .string va, .int .i64 li, .int .u8 (eg : Int)] 63) := Lib.hid ((Blk.new w _ 63).alloc _)
  have KA : Hid (Blk ((w.alloc (.cells #[.int .i64 ta, .int .u8 3, .int .i64 tx, .string ke, .string en, .string va, .int .i64 li, .int .u8 (eg : Int)] 63)).alloc (.cells #[.int .i64 0, .bool fo, .string av, .slice A n c] 33)) (w.heap.size + 1) #[.int .i64 0, .bool fo, .string av, .slice A n c] 33) := Lib.hid (Blk.new2 _ _ 33 (by simp))
  have H := Lib.hid (h.later hb2)
  have HL := Lib.hid hl
  have HBB := Lib.hid hB
  have HIX := Lib.hid (show ∀ ix, findL g ta tx = ix → noteL g at_ ta (3, tx, ke, en, va, li, eg) (0, fo, av, prs) = noteI g at_ ta (3, tx, ke, en, va, li, eg) (0, fo, av, prs) ix from fun ix e => by rw [← e]; rfl)
  obtain ⟨ix, hix⟩ : ∃ ix, findL g ta tx = ix := ⟨_, rfl⟩
  have HIY := Lib.hid hix
  have HI2 := Lib.hid (HIX.out ix hix)
  rw [HI2.out]
  obtain ⟨GR, hGR⟩ : ∃ GR, noteI g at_ ta (3, tx, ke, en, va, li, eg) (0, fo, av, prs) ix = GR := ⟨_, rfl⟩
  have HGR := Lib.hid hGR
  rw [hGR]
  clear hb2 h hl hB hix HIX hGR HI2
  go_enter Try.func36, Try.ntmps36
  go_upto_region 1 with (fail)
  generalize ((w.alloc (.cells #[.int .i64 ta, .int .u8 3, .int .i64 tx, .string ke, .string en, .string va, .int .i64 li, .int .u8 (eg : Int)] 63)).alloc (.cells #[.int .i64 0, .bool fo, .string av, .slice A n c] 33)) = w2 at *
  have z0 := KT.out.cell 0
  have z1 := KT.out.cell 1
  have z2 := KT.out.cell 2
  have z3 := KT.out.cell 3
  have z4 := KT.out.cell 4
  have z5 := KT.out.cell 5
  have z6 := KT.out.cell 6
  have z7 := KT.out.cell 7
  simp only [List.getElem?_toArray, List.getElem?_cons_zero, List.getElem?_cons_succ] at z0 z1 z2 z3 z4 z5 z6 z7
  go_wp2_with fail
  refine (find_any B p g x ta tx _ H.out HL.out).mono ?_
  rintro e w3 ⟨rfl, rfl⟩
  rw [HIY.out]
  have u0 := KA.out.cell 0
  have u1 := KA.out.cell 1
  have u2 := KA.out.cell 2
  simp only [List.getElem?_toArray, List.getElem?_cons_zero, List.getElem?_cons_succ] at u0 u1 u2
  have HIXI : Hid (ix = (i : Int)) := Lib.hid (HIY.out.symm.trans HFI.out)
  have HE : Hid (GR = addW g i ⟨0, ke, false, va⟩) := Lib.hid (by
    rw [← HGR.out, HIXI.out]
    exact noteI_3 ..)
  clear HGR HIY
  obtain ⟨ix', hix'⟩ : ∃ z, ix = z := ⟨_, rfl⟩
  have b2 : decide (ix < 0) = false := decide_eq_false (by have := HIXI.out; omega)
  obtain ⟨b, off, hd, hA, hh, hc⟩ := H.out.life HLI.out
  have HH := Lib.hid hh
  have HA := Lib.hid hA
  have i1 := idx59 b off g.lives.length x.lc i ix HIXI.out HLI.out
  clear hix' hc hh hA
  go_upto_region 13 with (fail)
  clear b2
  refine wp_region_noPanic ?_
  obtain ⟨W0, rfl⟩ : ∃ W0 : World, W0 = w2 := ⟨_, rfl⟩
  refine wp_region_held_drew (S := fun W => W.cell? ⟨p, 2, none⟩ = some (.slice (some ⟨b, off, none⟩) g.lives.length x.lc) ∧ Blk W w.heap.size #[.int .i64 ta, .int .u8 3, .int .i64 tx, .string ke, .string en, .string va, .int .i64 li, .int .u8 (eg : Int)] 63) (by kernel_rfl) (⟨by have h0 := H.out.c0.2.2; rw [HA.out] at h0; exact h0, KT.out.later (Below.drew (Below.refl _ _))⟩) (fun hHeld => ?_)
  replace HB : Hid (Below w.heap.size w (World.drew W0)) := Lib.hid (Below.drew HB.out)
  replace KT : Hid (Blk (World.drew W0) w.heap.size #[.int .i64 ta, .int .u8 3, .int .i64 tx, .string ke, .string en, .string va, .int .i64 li, .int .u8 (eg : Int)] 63) := Lib.hid (KT.out.later (Below.drew (Below.refl _ _)))
  replace H := Lib.hid (H.out.later (Below.drew (Below.refl _ _)))
  generalize World.drew W0 = Wd at *
  refine wpAnyH_take (i := 0) (oi := { dst := some 82, op := Op.move (Operand.tmp 0), type := 57, pos := "outright.go:175", after := #[], guard := none }) (v := ?_) rfl (by kernel_rfl) (by kernel_rfl) (by kernel_rfl) (fun _ _ _ h => h) (Or.inl ⟨by rfl, ?_⟩) (by assumption) ?_
  rotate_left
  · intro W hSw
    clear hSw
    go_simp
    try with_reducible rfl
  simp only [Act.put, List.setIfInBounds_toArray, List.set_cons_zero, List.set_cons_succ]
  refine wpAnyH_take (i := 1) (oi := { dst := some 83, op := Op.nilCheck (Operand.tmp 82), type := 0, pos := "outright.go:175", after := #[{ on := 0, ground := Ground.data }], guard := none }) (v := ?_) rfl (by kernel_rfl) (by kernel_rfl) (by kernel_rfl) (fun _ _ _ h => h) (Or.inl ⟨by rfl, ?_⟩) (by assumption) ?_
  rotate_left
  · intro W hSw
    clear hSw
    go_simp
    try with_reducible rfl
  simp only [Act.put, List.setIfInBounds_toArray, List.set_cons_zero, List.set_cons_succ]
  refine wpAnyH_take (i := 2) (oi := { dst := some 84, op := Op.fieldAddr 61 (Operand.tmp 83) 2, type := 0, pos := "outright.go:175", after := #[{ on := 1, ground := Ground.data }], guard := none }) (v := ?_) rfl (by kernel_rfl) (by kernel_rfl) (by kernel_rfl) (fun _ _ _ h => h) (Or.inl ⟨by rfl, ?_⟩) (by assumption) ?_
  rotate_left
  · intro W hSw
    clear hSw
    go_simp
    try with_reducible rfl
  simp only [Act.put, List.setIfInBounds_toArray, List.set_cons_zero, List.set_cons_succ]
  refine wpAnyH_take (i := 3) (oi := { dst := some 85, op := Op.load 59 (Operand.tmp 84), type := 59, pos := "outright.go:175", after := #[{ on := 2, ground := Ground.data }], guard := none }) (v := ?_) rfl (by kernel_rfl) (by kernel_rfl) (by kernel_rfl) (fun _ _ _ h => h) (Or.inl ⟨by rfl, ?_⟩) (by assumption) ?_
  rotate_left
  · intro W hSw
    have q2 := hSw.1
    clear hSw
    go_simp
    try with_reducible rfl
  simp only [Act.put, List.setIfInBounds_toArray, List.set_cons_zero, List.set_cons_succ]
  refine wpAnyH_take (i := 4) (oi := { dst := some 86, op := Op.move (Operand.tmp 8), type := 3, pos := "outright.go:175", after := #[], guard := none }) (v := ?_) rfl (by kernel_rfl) (by kernel_rfl) (by kernel_rfl) (fun _ _ _ h => h) (Or.inl ⟨by rfl, ?_⟩) (by assumption) ?_
  rotate_left
  · intro W hSw
    clear hSw
    go_simp
    try with_reducible rfl
  simp only [Act.put, List.setIfInBounds_toArray, List.set_cons_zero, List.set_cons_succ]
  refine wpAnyH_take (i := 5) (oi := { dst := some 87, op := Op.move (Operand.tmp 0), type := 57, pos := "outright.go:175", after := #[], guard := none }) (v := ?_) rfl (by kernel_rfl) (by kernel_rfl) (by kernel_rfl) (fun _ _ _ h => h) (Or.inl ⟨by rfl, ?_⟩) (by assumption) ?_
  rotate_left
  · intro W hSw
    clear hSw
    go_simp
    try with_reducible rfl
  simp only [Act.put, List.setIfInBounds_toArray, List.set_cons_zero, List.set_cons_succ]
  refine wpAnyH_take (i := 6) (oi := { dst := some 88, op := Op.nilCheck (Operand.tmp 87), type := 0, pos := "outright.go:175", after := #[{ on := 5, ground := Ground.data }], guard := none }) (v := ?_) rfl (by kernel_rfl) (by kernel_rfl) (by kernel_rfl) (fun _ _ _ h => h) (Or.inl ⟨by rfl, ?_⟩) (by assumption) ?_
  rotate_left
  · intro W hSw
    clear hSw
    go_simp
    try with_reducible rfl
  simp only [Act.put, List.setIfInBounds_toArray, List.set_cons_zero, List.set_cons_succ]
  refine wpAnyH_take (i := 7) (oi := { dst := some 89, op := Op.fieldAddr 61 (Operand.tmp 88) 2, type := 0, pos := "outright.go:175", after := #[{ on := 6, ground := Ground.data }], guard := none }) (v := ?_) rfl (by kernel_rfl) (by kernel_rfl) (by kernel_rfl) (fun _ _ _ h => h) (Or.inl ⟨by rfl, ?_⟩) (by assumption) ?_
  rotate_left
  · intro W hSw
    clear hSw
    go_simp
    try with_reducible rfl
  simp only [Act.put, List.setIfInBounds_toArray, List.set_cons_zero, List.set_cons_succ]
  refine wpAnyH_take (i := 8) (oi := { dst := some 90, op := Op.load 59 (Operand.tmp 89), type := 59, pos := "outright.go:175", after := #[{ on := 7, ground := Ground.data }], guard := none }) (v := ?_) rfl (by kernel_rfl) (by kernel_rfl) (by kernel_rfl) (fun _ _ _ h => h) (Or.inl ⟨by rfl, ?_⟩) (by assumption) ?_
  rotate_left
  · intro W hSw
    have q2 := hSw.1
    clear hSw
    go_simp
    try with_reducible rfl
  simp only [Act.put, List.setIfInBounds_toArray, List.set_cons_zero, List.set_cons_succ]
  refine wpAnyH_take (i := 9) (oi := { dst := some 91, op := Op.move (Operand.tmp 8), type := 3, pos := "outright.go:175", after := #[], guard := none }) (v := ?_) rfl (by kernel_rfl) (by kernel_rfl) (by kernel_rfl) (fun _ _ _ h => h) (Or.inl ⟨by rfl, ?_⟩) (by assumption) ?_
  rotate_left
  · intro W hSw
    clear hSw
    go_simp
    try with_reducible rfl
  simp only [Act.put, List.setIfInBounds_toArray, List.set_cons_zero, List.set_cons_succ]
  refine wpAnyH_take (i := 10) (oi := { dst := some 92, op := Op.indexAddr 59 (Operand.tmp 90) (Operand.tmp 91), type := 0, pos := "outright.go:175", after := #[{ on := 8, ground := Ground.data }, { on := 9, ground := Ground.data }], guard := none }) (v := ?_) rfl (by kernel_rfl) (by kernel_rfl) (by kernel_rfl) (fun _ _ _ h => h) (Or.inl ⟨by rfl, ?_⟩) (by assumption) ?_
  rotate_left
  · intro W hSw
    clear hSw
    go_simp
    try with_reducible rfl
  simp only [Act.put, List.setIfInBounds_toArray, List.set_cons_zero, List.set_cons_succ]
  refine wpAnyH_take (i := 11) (oi := { dst := some 93, op := Op.fieldAddr 73 (Operand.tmp 92) 3, type := 0, pos := "outright.go:175", after := #[{ on := 10, ground := Ground.data }], guard := none }) (v := ?_) rfl (by kernel_rfl) (by kernel_rfl) (by kernel_rfl) (fun _ _ _ h => h) (Or.inl ⟨by rfl, ?_⟩) (by assumption) ?_
  rotate_left
  · intro W hSw
    clear hSw
    go_simp
    try with_reducible rfl
  simp only [Act.put, List.setIfInBounds_toArray, List.set_cons_zero, List.set_cons_succ]
  refine wpAnyH_take (i := 13) (oi := { dst := some 95, op := Op.fieldAddr 63 (Operand.tmp 6) 1, type := 0, pos := "outright.go:175", after := #[], guard := none }) (v := ?_) rfl (by kernel_rfl) (by kernel_rfl) (by kernel_rfl) (fun _ _ _ h => h) (Or.inl ⟨by rfl, ?_⟩) (by assumption) ?_
  rotate_left
  · intro W hSw
    clear hSw
    go_simp
    try with_reducible rfl
  simp only [Act.put, List.setIfInBounds_toArray, List.set_cons_zero, List.set_cons_succ]
  refine wpAnyH_take (i := 14) (oi := { dst := some 96, op := Op.fieldAddr 36 (Operand.tmp 95) 2, type := 0, pos := "outright.go:175", after := #[{ on := 13, ground := Ground.data }], guard := none }) (v := ?_) rfl (by kernel_rfl) (by kernel_rfl) (by kernel_rfl) (fun _ _ _ h => h) (Or.inl ⟨by rfl, ?_⟩) (by assumption) ?_
  rotate_left
  · intro W hSw
    clear hSw
    go_simp
    try with_reducible rfl
  simp only [Act.put, List.setIfInBounds_toArray, List.set_cons_zero, List.set_cons_succ]
  refine wpAnyH_take (i := 15) (oi := { dst := some 97, op := Op.load 9 (Operand.tmp 96), type := 9, pos := "outright.go:175", after := #[{ on := 14, ground := Ground.data }], guard := none }) (v := ?_) rfl (by kernel_rfl) (by kernel_rfl) (by kernel_rfl) (fun _ _ _ h => h) (Or.inl ⟨by rfl, ?_⟩) (by assumption) ?_
  rotate_left
  · intro W hSw
    have z3 := hSw.2.cell 3
    simp only [List.getElem?_toArray, List.getElem?_cons_zero, List.getElem?_cons_succ] at z3
    clear hSw
    go_simp
    try with_reducible rfl
  simp only [Act.put, List.setIfInBounds_toArray, List.set_cons_zero, List.set_cons_succ]
  refine wpAnyH_take (i := 16) (oi := { dst := some 98, op := Op.fieldAddr 63 (Operand.tmp 6) 1, type := 0, pos := "outright.go:175", after := #[], guard := none }) (v := ?_) rfl (by kernel_rfl) (by kernel_rfl) (by kernel_rfl) (fun _ _ _ h => h) (Or.inl ⟨by rfl, ?_⟩) (by assumption) ?_
  rotate_left
  · intro W hSw
    clear hSw
    go_simp
    try with_reducible rfl
  simp only [Act.put, List.setIfInBounds_toArray, List.set_cons_zero, List.set_cons_succ]
  refine wpAnyH_take (i := 17) (oi := { dst := some 99, op := Op.fieldAddr 36 (Operand.tmp 98) 4, type := 0, pos := "outright.go:175", after := #[{ on := 16, ground := Ground.data }], guard := none }) (v := ?_) rfl (by kernel_rfl) (by kernel_rfl) (by kernel_rfl) (fun _ _ _ h => h) (Or.inl ⟨by rfl, ?_⟩) (by assumption) ?_
  rotate_left
  · intro W hSw
    clear hSw
    go_simp
    try with_reducible rfl
  simp only [Act.put, List.setIfInBounds_toArray, List.set_cons_zero, List.set_cons_succ]
  refine wpAnyH_take (i := 18) (oi := { dst := some 100, op := Op.load 9 (Operand.tmp 99), type := 9, pos := "outright.go:175", after := #[{ on := 17, ground := Ground.data }], guard := none }) (v := ?_) rfl (by kernel_rfl) (by kernel_rfl) (by kernel_rfl) (fun _ _ _ h => h) (Or.inl ⟨by rfl, ?_⟩) (by assumption) ?_
  rotate_left
  · intro W hSw
    have z5 := hSw.2.cell 5
    simp only [List.getElem?_toArray, List.getElem?_cons_zero, List.getElem?_cons_succ] at z5
    clear hSw
    go_simp
    try with_reducible rfl
  simp only [Act.put, List.setIfInBounds_toArray, List.set_cons_zero, List.set_cons_succ]
  refine wpAnyH_take (i := 19) (oi := { dst := some 101, op := Op.build 75 #[(1, Operand.tmp 97), (3, Operand.tmp 100)], type := 75, pos := "outright.go:175", after := #[{ on := 15, ground := Ground.data }, { on := 18, ground := Ground.data }], guard := none }) (v := ?_) rfl (by kernel_rfl) (by kernel_rfl) (by kernel_rfl) (fun _ _ _ h => h) (Or.inl ⟨by rfl, ?_⟩) (by assumption) ?_
  rotate_left
  · intro W hSw
    clear hSw
    go_simp
    try with_reducible rfl
  simp only [Act.put, List.setIfInBounds_toArray, List.set_cons_zero, List.set_cons_succ]
  have HL3 : Hid (∀ W, LgAt W B p g x → W.cell? ⟨b, off + i * 6 + 3, none⟩ = some (.slice hd.1 (gl g i).ws.length hd.2)) := Lib.hid (fun W hW => by
    obtain ⟨b', off', hd', e1, e2, hc⟩ := hW.life HLI.out
    rw [HA.out] at e1
    rw [HH.out] at e2
    cases e1
    cases e2
    exact hc 3 (by decide))
  refine wpAnyH_ready (rs := [12, 20]) (by kernel_rfl) (by simp) (AllReadyH.cons (o := { dst := some 94, op := Op.load 58 (Operand.tmp 93), type := 58, pos := "outright.go:175", after := #[{ on := 11, ground := Ground.data }], guard := none }) rfl (fun K hK => ?_) (AllReadyH.cons (o := { dst := some 102, op := Op.buildSlice 58 1 #[(0, Operand.tmp 101)], type := 58, pos := "outright.go:175", after := #[{ on := 19, ground := Ground.data }], guard := none }) rfl (fun K hK => ?_) AllReadyH.nil))
  · have hl := HL3.out Wd H.out
    go_simp
    clear hl hHeld
    refine hK.out _ _ (⟨by have h0 := H.out.c0.2.2; rw [HA.out] at h0; exact h0, KT.out⟩) (fun hHeld => ?_)
    clear hK K
    refine wpAnyH_ready (rs := [20]) (by kernel_rfl) (by simp) (AllReadyH.cons (o := { dst := some 102, op := Op.buildSlice 58 1 #[(0, Operand.tmp 101)], type := 58, pos := "outright.go:175", after := #[{ on := 19, ground := Ground.data }], guard := none }) rfl (fun K hK => ?_) AllReadyH.nil)
    go_simp
    have hb : Below Wd.heap.size Wd (Wd.alloc (.cells #[.int .i64 0, .string ke, .bool false, .string va] 75)) := (Below.refl _ _).alloc (Nat.le_refl _) _
    have KV : Hid (Blk (Wd.alloc (.cells #[.int .i64 0, .string ke, .bool false, .string va] 75)) Wd.heap.size (fcE ⟨0, ke, false, va⟩).toArray 75) := Lib.hid (Blk.new Wd _ 75)
    replace HB := Lib.hid (stepB HB.out hb)
    replace KT := Lib.hid (KT.out.later hb)
    replace H := Lib.hid (H.out.later hb)
    clear hb hHeld
    refine hK.out _ _ (⟨by have h0 := H.out.c0.2.2; rw [HA.out] at h0; exact h0, KT.out⟩) (fun hHeld => ?_)
    clear hK K
    generalize Wd.alloc (.cells #[.int .i64 0, .string ke, .bool false, .string va] 75) = We at *
    obtain ⟨qv, hqv⟩ : ∃ z, Wd.heap.size = z := ⟨_, rfl⟩
    rw [hqv] at KV ⊢
    clear hqv
    refine wpAnyH_ready (rs := [21]) (by kernel_rfl) (by simp) (AllReadyH.cons (o := { dst := some 103, op := Op.call { callee := Callee.builtin Builtin.append, args := #[Operand.tmp 94, Operand.tmp 102], argTypes := #[58, 58] }, type := 58, pos := "outright.go:175", after := #[{ on := 12, ground := Ground.data }, { on := 20, ground := Ground.data }], guard := none }) rfl (fun K hK => ?_) AllReadyH.nil)
    refine wp_append_row1 elemF (.tmp 94) (.tmp 102) rfl B (.slice hd.1 (gl g i).ws.length hd.2) (gl g i).ws.length (gl g i).ws rfl (H.out.ws i hd _ HH.out (gl_at HLI.out)) qv 1 ⟨0, ke, false, va⟩ rfl KV.out.rsl (by have := HWL.out; omega) (by decide) (Nat.le_trans HBB.out HB.out.size) ?_
    intro A6 c6 w6 ho6 hg6 hn6 _
    have hwr := H.out.wrote HLI.out HH.out ho6 hg6 hn6 HA.out
    have HWR := Lib.hid hwr
    have HG6 := Lib.hid (LgK.grown (H.out.ws i hd _ HH.out (gl_at HLI.out)) (.inr rfl) hg6)
    have CP6 : Hid (w6.cell? ⟨p, 2, none⟩ = some (.slice (some ⟨b, off, none⟩) g.lives.length x.lc) ∧ Blk w6 w.heap.size #[.int .i64 ta, .int .u8 3, .int .i64 tx, .string ke, .string en, .string va, .int .i64 li, .int .u8 (eg : Int)] 63) := Lib.hid ⟨by
        have h0 := H.out.c0.2.2
        rw [HA.out] at h0
        exact (cell_keep (hneW H.out HLI.out HH.out hg6 H.out.blk (by decide))).trans h0, (hneW H.out HLI.out HH.out hg6 KT.out (by decide)).trans KT.out⟩
    have CL6 : Hid (w6.cell? ⟨b, off + i * 6 + 3, none⟩ = some (.slice hd.1 (gl g i).ws.length hd.2) ∧ w6.frozen? ⟨b, off + i * 6 + 3, none⟩ = false) := Lib.hid (by
      obtain ⟨cur, hbk⟩ := H.out.lblk HLI.out HA.out
      have e := hneW H.out HLI.out HH.out hg6 hbk (by decide)
      exact ⟨(cell_keep e).trans (HL3.out _ H.out), Blk.frozen (show Blk w6 b cur 73 from e.trans hbk) _⟩)
    have KTN6 : Hid (w.heap.size ≠ b) := Lib.hid (fun e => by
      obtain ⟨cur, hbk⟩ := H.out.lblk HLI.out HA.out
      have h1 : Blk We w.heap.size #[.int .i64 ta, .int .u8 3, .int .i64 tx, .string ke, .string en, .string va, .int .i64 li, .int .u8 (eg : Int)] 63 := KT.out
      rw [e] at h1
      have h1 : _ = some (Obj.cells #[.int .i64 ta, .int .u8 3, .int .i64 tx, .string ke, .string en, .string va, .int .i64 li, .int .u8 (eg : Int)] 63 (0, 0)) := h1
      rw [show _ = some (Obj.cells cur 73 (0, 0)) from hbk] at h1
      simp only [Option.some.injEq, Obj.cells.injEq] at h1
      exact absurd h1.2.1 (by decide))
    clear ho6 hg6 hn6 hwr hHeld KV
    refine hK.out _ _ (CP6.out) (fun hHeld => ?_)
    clear hK K
    refine wpAnyH_take (i := 22) (oi := { dst := some 104, op := Op.indexAddr 59 (Operand.tmp 85) (Operand.tmp 86), type := 0, pos := "outright.go:175", after := #[{ on := 3, ground := Ground.data }, { on := 4, ground := Ground.data }, { on := 0, ground := Ground.phase }, { on := 1, ground := Ground.phase }, { on := 2, ground := Ground.phase }, { on := 3, ground := Ground.phase }, { on := 4, ground := Ground.phase }, { on := 5, ground := Ground.phase }, { on := 6, ground := Ground.phase }, { on := 7, ground := Ground.phase }, { on := 8, ground := Ground.phase }, { on := 9, ground := Ground.phase }, { on := 10, ground := Ground.phase }, { on := 11, ground := Ground.phase }, { on := 12, ground := Ground.phase }, { on := 13, ground := Ground.phase }, { on := 14, ground := Ground.phase }, { on := 15, ground := Ground.phase }, { on := 16, ground := Ground.phase }, { on := 17, ground := Ground.phase }, { on := 18, ground := Ground.phase }, { on := 19, ground := Ground.phase }, { on := 20, ground := Ground.phase }, { on := 21, ground := Ground.phase }], guard := none }) (v := ?_) rfl (by kernel_rfl) (by kernel_rfl) (by kernel_rfl) (fun _ _ _ h => h) (Or.inl ⟨by rfl, ?_⟩) (by assumption) ?_
    rotate_left
    · intro W hSw
      clear hSw
      go_simp
      try with_reducible rfl
    simp only [Act.put, List.setIfInBounds_toArray, List.set_cons_zero, List.set_cons_succ]
    refine wpAnyH_take (i := 23) (oi := { dst := some 105, op := Op.fieldAddr 73 (Operand.tmp 104) 3, type := 0, pos := "outright.go:175", after := #[{ on := 22, ground := Ground.data }, { on := 0, ground := Ground.phase }, { on := 1, ground := Ground.phase }, { on := 2, ground := Ground.phase }, { on := 3, ground := Ground.phase }, { on := 4, ground := Ground.phase }, { on := 5, ground := Ground.phase }, { on := 6, ground := Ground.phase }, { on := 7, ground := Ground.phase }, { on := 8, ground := Ground.phase }, { on := 9, ground := Ground.phase }, { on := 10, ground := Ground.phase }, { on := 11, ground := Ground.phase }, { on := 12, ground := Ground.phase }, { on := 13, ground := Ground.phase }, { on := 14, ground := Ground.phase }, { on := 15, ground := Ground.phase }, { on := 16, ground := Ground.phase }, { on := 17, ground := Ground.phase }, { on := 18, ground := Ground.phase }, { on := 19, ground := Ground.phase }, { on := 20, ground := Ground.phase }, { on := 21, ground := Ground.phase }], guard := none }) (v := ?_) rfl (by kernel_rfl) (by kernel_rfl) (by kernel_rfl) (fun _ _ _ h => h) (Or.inl ⟨by rfl, ?_⟩) (by assumption) ?_
    rotate_left
    · intro W hSw
      clear hSw
      go_simp
      try with_reducible rfl
    simp only [Act.put, List.setIfInBounds_toArray, List.set_cons_zero, List.set_cons_succ]
    refine wpAnyH_ready (rs := [24]) (by kernel_rfl) (by simp) (AllReadyH.cons (o := { dst := none, op := Op.store 58 (Operand.tmp 105) (Operand.tmp 103), type := 0, pos := "outright.go:175", after := #[{ on := 23, ground := Ground.data }, { on := 21, ground := Ground.data }, { on := 21, ground := Ground.chain }, { on := 0, ground := Ground.phase }, { on := 1, ground := Ground.phase }, { on := 2, ground := Ground.phase }, { on := 3, ground := Ground.phase }, { on := 4, ground := Ground.phase }, { on := 5, ground := Ground.phase }, { on := 6, ground := Ground.phase }, { on := 7, ground := Ground.phase }, { on := 8, ground := Ground.phase }, { on := 9, ground := Ground.phase }, { on := 10, ground := Ground.phase }, { on := 11, ground := Ground.phase }, { on := 12, ground := Ground.phase }, { on := 13, ground := Ground.phase }, { on := 14, ground := Ground.phase }, { on := 15, ground := Ground.phase }, { on := 16, ground := Ground.phase }, { on := 17, ground := Ground.phase }, { on := 18, ground := Ground.phase }, { on := 19, ground := Ground.phase }, { on := 20, ground := Ground.phase }, { on := 21, ground := Ground.phase }], guard := none }) rfl (fun K hK => ?_) AllReadyH.nil)
    obtain ⟨cz, fz⟩ := CL6.out
    go_simp
    clear cz fz hHeld
    refine hK.out _ _ (⟨by have h0 := HWR.out.1.c0.2.2; rw [show (addW g i ⟨0, ke, false, va⟩).lives.length = g.lives.length from List.length_set .., show ({ x with hs := x.hs.set i (A6, c6) } : LX).lA = x.lA from rfl, HA.out] at h0; exact h0, CP6.out.2.other (fun e => KTN6.out (e)) _⟩) (fun hHeld => ?_)
    clear hK K
    refine wpAnyH_done (by kernel_rfl) (NoPanic.normal ?_) _
    clear hHeld
    have HFIN : Hid (LgK B w (w6.setCell ⟨b, off + i * 6 + 3, none⟩ (.slice A6 ((gl g i).ws.length + 1) c6))) := Lib.hid ((LgK.of_below HB.out).tr HWR.out.2)
    generalize w6.setCell ⟨b, off + i * 6 + 3, none⟩ (.slice A6 ((gl g i).ws.length + 1) c6) = w7 at *
    go_wp2
    refine bodyPost_end (results_none rfl _ _ _) rfl ?_
    exact ⟨rfl, _, by rw [HE.out]; exact HWR.out.1, HFIN.out⟩
  · go_simp
    have hb : Below Wd.heap.size Wd (Wd.alloc (.cells #[.int .i64 0, .string ke, .bool false, .string va] 75)) := (Below.refl _ _).alloc (Nat.le_refl _) _
    have KV : Hid (Blk (Wd.alloc (.cells #[.int .i64 0, .string ke, .bool false, .string va] 75)) Wd.heap.size (fcE ⟨0, ke, false, va⟩).toArray 75) := Lib.hid (Blk.new Wd _ 75)
    replace HB := Lib.hid (stepB HB.out hb)
    replace KT := Lib.hid (KT.out.later hb)
    replace H := Lib.hid (H.out.later hb)
    clear hb hHeld
    refine hK.out _ _ (⟨by have h0 := H.out.c0.2.2; rw [HA.out] at h0; exact h0, KT.out⟩) (fun hHeld => ?_)
    clear hK K
    generalize Wd.alloc (.cells #[.int .i64 0, .string ke, .bool false, .string va] 75) = We at *
    obtain ⟨qv, hqv⟩ : ∃ z, Wd.heap.size = z := ⟨_, rfl⟩
    rw [hqv] at KV ⊢
    clear hqv
    refine wpAnyH_ready (rs := [12]) (by kernel_rfl) (by simp) (AllReadyH.cons (o := { dst := some 94, op := Op.load 58 (Operand.tmp 93), type := 58, pos := "outright.go:175", after := #[{ on := 11, ground := Ground.data }], guard := none }) rfl (fun K hK => ?_) AllReadyH.nil)
    have hl := HL3.out We H.out
    go_simp
    clear hl hHeld
    refine hK.out _ _ (⟨by have h0 := H.out.c0.2.2; rw [HA.out] at h0; exact h0, KT.out⟩) (fun hHeld => ?_)
    clear hK K
    refine wpAnyH_ready (rs := [21]) (by kernel_rfl) (by simp) (AllReadyH.cons (o := { dst := some 103, op := Op.call { callee := Callee.builtin Builtin.append, args := #[Operand.tmp 94, Operand.tmp 102], argTypes := #[58, 58] }, type := 58, pos := "outright.go:175", after := #[{ on := 12, ground := Ground.data }, { on := 20, ground := Ground.data }], guard := none }) rfl (fun K hK => ?_) AllReadyH.nil)
    refine wp_append_row1 elemF (.tmp 94) (.tmp 102) rfl B (.slice hd.1 (gl g i).ws.length hd.2) (gl g i).ws.length (gl g i).ws rfl (H.out.ws i hd _ HH.out (gl_at HLI.out)) qv 1 ⟨0, ke, false, va⟩ rfl KV.out.rsl (by have := HWL.out; omega) (by decide) (Nat.le_trans HBB.out HB.out.size) ?_
    intro A6 c6 w6 ho6 hg6 hn6 _
    have hwr := H.out.wrote HLI.out HH.out ho6 hg6 hn6 HA.out
    have HWR := Lib.hid hwr
    have HG6 := Lib.hid (LgK.grown (H.out.ws i hd _ HH.out (gl_at HLI.out)) (.inr rfl) hg6)
    have CP6 : Hid (w6.cell? ⟨p, 2, none⟩ = some (.slice (some ⟨b, off, none⟩) g.lives.length x.lc) ∧ Blk w6 w.heap.size #[.int .i64 ta, .int .u8 3, .int .i64 tx, .string ke, .string en, .string va, .int .i64 li, .int .u8 (eg : Int)] 63) := Lib.hid ⟨by
        have h0 := H.out.c0.2.2
        rw [HA.out] at h0
        exact (cell_keep (hneW H.out HLI.out HH.out hg6 H.out.blk (by decide))).trans h0, (hneW H.out HLI.out HH.out hg6 KT.out (by decide)).trans KT.out⟩
    have CL6 : Hid (w6.cell? ⟨b, off + i * 6 + 3, none⟩ = some (.slice hd.1 (gl g i).ws.length hd.2) ∧ w6.frozen? ⟨b, off + i * 6 + 3, none⟩ = false) := Lib.hid (by
      obtain ⟨cur, hbk⟩ := H.out.lblk HLI.out HA.out
      have e := hneW H.out HLI.out HH.out hg6 hbk (by decide)
      exact ⟨(cell_keep e).trans (HL3.out _ H.out), Blk.frozen (show Blk w6 b cur 73 from e.trans hbk) _⟩)
    have KTN6 : Hid (w.heap.size ≠ b) := Lib.hid (fun e => by
      obtain ⟨cur, hbk⟩ := H.out.lblk HLI.out HA.out
      have h1 : Blk We w.heap.size #[.int .i64 ta, .int .u8 3, .int .i64 tx, .string ke, .string en, .string va, .int .i64 li, .int .u8 (eg : Int)] 63 := KT.out
      rw [e] at h1
      have h1 : _ = some (Obj.cells #[.int .i64 ta, .int .u8 3, .int .i64 tx, .string ke, .string en, .string va, .int .i64 li, .int .u8 (eg : Int)] 63 (0, 0)) := h1
      rw [show _ = some (Obj.cells cur 73 (0, 0)) from hbk] at h1
      simp only [Option.some.injEq, Obj.cells.injEq] at h1
      exact absurd h1.2.1 (by decide))
    clear ho6 hg6 hn6 hwr hHeld KV
    refine hK.out _ _ (CP6.out) (fun hHeld => ?_)
    clear hK K
    refine wpAnyH_take (i := 22) (oi := { dst := some 104, op := Op.indexAddr 59 (Operand.tmp 85) (Operand.tmp 86), type := 0, pos := "outright.go:175", after := #[{ on := 3, ground := Ground.data }, { on := 4, ground := Ground.data }, { on := 0, ground := Ground.phase }, { on := 1, ground := Ground.phase }, { on := 2, ground := Ground.phase }, { on := 3, ground := Ground.phase }, { on := 4, ground := Ground.phase }, { on := 5, ground := Ground.phase }, { on := 6, ground := Ground.phase }, { on := 7, ground := Ground.phase }, { on := 8, ground := Ground.phase }, { on := 9, ground := Ground.phase }, { on := 10, ground := Ground.phase }, { on := 11, ground := Ground.phase }, { on := 12, ground := Ground.phase }, { on := 13, ground := Ground.phase }, { on := 14, ground := Ground.phase }, { on := 15, ground := Ground.phase }, { on := 16, ground := Ground.phase }, { on := 17, ground := Ground.phase }, { on := 18, ground := Ground.phase }, { on := 19, ground := Ground.phase }, { on := 20, ground := Ground.phase }, { on := 21, ground := Ground.phase }], guard := none }) (v := ?_) rfl (by kernel_rfl) (by kernel_rfl) (by kernel_rfl) (fun _ _ _ h => h) (Or.inl ⟨by rfl, ?_⟩) (by assumption) ?_
    rotate_left
    · intro W hSw
      clear hSw
      go_simp
      try with_reducible rfl
    simp only [Act.put, List.setIfInBounds_toArray, List.set_cons_zero, List.set_cons_succ]
    refine wpAnyH_take (i := 23) (oi := { dst := some 105, op := Op.fieldAddr 73 (Operand.tmp 104) 3, type := 0, pos := "outright.go:175", after := #[{ on := 22, ground := Ground.data }, { on := 0, ground := Ground.phase }, { on := 1, ground := Ground.phase }, { on := 2, ground := Ground.phase }, { on := 3, ground := Ground.phase }, { on := 4, ground := Ground.phase }, { on := 5, ground := Ground.phase }, { on := 6, ground := Ground.phase }, { on := 7, ground := Ground.phase }, { on := 8, ground := Ground.phase }, { on := 9, ground := Ground.phase }, { on := 10, ground := Ground.phase }, { on := 11, ground := Ground.phase }, { on := 12, ground := Ground.phase }, { on := 13, ground := Ground.phase }, { on := 14, ground := Ground.phase }, { on := 15, ground := Ground.phase }, { on := 16, ground := Ground.phase }, { on := 17, ground := Ground.phase }, { on := 18, ground := Ground.phase }, { on := 19, ground := Ground.phase }, { on := 20, ground := Ground.phase }, { on := 21, ground := Ground.phase }], guard := none }) (v := ?_) rfl (by kernel_rfl) (by kernel_rfl) (by kernel_rfl) (fun _ _ _ h => h) (Or.inl ⟨by rfl, ?_⟩) (by assumption) ?_
    rotate_left
    · intro W hSw
      clear hSw
      go_simp
      try with_reducible rfl
    simp only [Act.put, List.setIfInBounds_toArray, List.set_cons_zero, List.set_cons_succ]
    refine wpAnyH_ready (rs := [24]) (by kernel_rfl) (by simp) (AllReadyH.cons (o := { dst := none, op := Op.store 58 (Operand.tmp 105) (Operand.tmp 103), type := 0, pos := "outright.go:175", after := #[{ on := 23, ground := Ground.data }, { on := 21, ground := Ground.data }, { on := 21, ground := Ground.chain }, { on := 0, ground := Ground.phase }, { on := 1, ground := Ground.phase }, { on := 2, ground := Ground.phase }, { on := 3, ground := Ground.phase }, { on := 4, ground := Ground.phase }, { on := 5, ground := Ground.phase }, { on := 6, ground := Ground.phase }, { on := 7, ground := Ground.phase }, { on := 8, ground := Ground.phase }, { on := 9, ground := Ground.phase }, { on := 10, ground := Ground.phase }, { on := 11, ground := Ground.phase }, { on := 12, ground := Ground.phase }, { on := 13, ground := Ground.phase }, { on := 14, ground := Ground.phase }, { on := 15, ground := Ground.phase }, { on := 16, ground := Ground.phase }, { on := 17, ground := Ground.phase }, { on := 18, ground := Ground.phase }, { on := 19, ground := Ground.phase }, { on := 20, ground := Ground.phase }, { on := 21, ground := Ground.phase }], guard := none }) rfl (fun K hK => ?_) AllReadyH.nil)
    obtain ⟨cz, fz⟩ := CL6.out
    go_simp
    clear cz fz hHeld
    refine hK.out _ _ (⟨by have h0 := HWR.out.1.c0.2.2; rw [show (addW g i ⟨0, ke, false, va⟩).lives.length = g.lives.length from List.length_set .., show ({ x with hs := x.hs.set i (A6, c6) } : LX).lA = x.lA from rfl, HA.out] at h0; exact h0, CP6.out.2.other (fun e => KTN6.out (e)) _⟩) (fun hHeld => ?_)
    clear hK K
    refine wpAnyH_done (by kernel_rfl) (NoPanic.normal ?_) _
    clear hHeld
    have HFIN : Hid (LgK B w (w6.setCell ⟨b, off + i * 6 + 3, none⟩ (.slice A6 ((gl g i).ws.length + 1) c6))) := Lib.hid ((LgK.of_below HB.out).tr HWR.out.2)
    generalize w6.setCell ⟨b, off + i * 6 + 3, none⟩ (.slice A6 ((gl g i).ws.length + 1) c6) = w7 at *
    go_wp2
    refine bodyPost_end (results_none rfl _ _ _) rfl ?_
    exact ⟨rfl, _, by rw [HE.out]; exact HWR.out.1, HFIN.out⟩
set_option maxRecDepth 100000 in
set_option maxHeartbeats 1600000 in
theorem note_del (B p : Nat) (g : Lg) (x : LX) (at_ ta tx li er : Int) (ke en va av : ByteArray) (kn eg n c : Nat) (fo : Bool) (A : Option Addr) (prs : List Pr) (w : World) (h : LgAt w B p g x) (hl : g.lives.length ≤ 1000) (hB : B ≤ w.heap.size) (h0 : er = 0) (hkn : kn = 4) (hfo : fo = true) (i : Nat) (hi : findL g ta tx = (i : Int)) (hil : i < g.lives.length) (hw : (gl g i).ws.length ≤ 1000) : Calls Try.prog 36 #[.pointer (some ⟨p, 0, none⟩), .int .i64 at_, .agg #[.int .i64 ta, .int .u8 (kn : Int), .int .i64 tx, .string ke, .string en, .string va, .int .i64 li, .int .u8 (eg : Int)], .agg #[.int .i64 er, .bool fo, .string av, .slice A n c]] w (NtEnd B p (noteL g at_ ta (kn, tx, ke, en, va, li, eg) (er, fo, av, prs)) w) := by
  subst h0
  subst hkn
  have HFI := Lib.hid hi
  have HLI := Lib.hid hil
  have HWL := Lib.hid hw
  clear hi hil hw
  subst hfo
  have hb2 : Below w.heap.size w ((w.alloc (.cells #[.int .i64 ta, .int .u8 4, .int .i64 tx, .string ke, .string en, .string va, .int .i64 li, .int .u8 (eg : Int)] 63)).alloc (.cells #[.int .i64 0, .bool true, .string av, .slice A n c] 33)) := ((Below.refl _ _).alloc (Nat.le_refl _) _).alloc (by simp) _
  have HB := Lib.hid hb2
  have KT : Hid (Blk ((w.alloc (.cells #[.int .i64 ta, .int .u8 4, .int .i64 tx, .string ke, .string en, .string va, .int .i64 li, .int .u8 (eg : Int)] 63)).alloc (.cells #[.int .i64 0, .bool true, .string av, .slice A n c] 33)) w.heap.size #[.int .i64 ta, .int .u8 4, .int .i64 tx, .string ke, .string en, .string va, .int .i64 li, .int .u8 (eg : Int)] 63) := Lib.hid ((Blk.new w _ 63).alloc _)
  have KA : Hid (Blk ((w.alloc (.cells #[.int .i64 ta, .int .u8 4, .int .i64 tx, .string ke, .string en, .string va, .int .i64 li, .int .u8 (eg : Int)] 63)).alloc (.cells #[.int .i64 0, .bool true, .string av, .slice A n c] 33)) (w.heap.size + 1) #[.int .i64 0, .bool true, .string av, .slice A n c] 33) := Lib.hid (Blk.new2 _ _ 33 (by simp))
  have H := Lib.hid (h.later hb2)
  have HL := Lib.hid hl
  have HBB := Lib.hid hB
  have HIX := Lib.hid (show ∀ ix, findL g ta tx = ix → noteL g at_ ta (4, tx, ke, en, va, li, eg) (0, true, av, prs) = noteI g at_ ta (4, tx, ke, en, va, li, eg) (0, true, av, prs) ix from fun ix e => by rw [← e]; rfl)
  obtain ⟨ix, hix⟩ : ∃ ix, findL g ta tx = ix := ⟨_, rfl⟩
  have HIY := Lib.hid hix
  have HI2 := Lib.hid (HIX.out ix hix)
  rw [HI2.out]
  obtain ⟨GR, hGR⟩ : ∃ GR, noteI g at_ ta (4, tx, ke, en, va, li, eg) (0, true, av, prs) ix = GR := ⟨_, rfl⟩
  have HGR := Lib.hid hGR
  rw [hGR]
  clear hb2 h hl hB hix HIX hGR HI2
  go_enter Try.func36, Try.ntmps36
  go_upto_region 1 with (fail)
  generalize ((w.alloc (.cells #[.int .i64 ta, .int .u8 4, .int .i64 tx, .string ke, .string en, .string va, .int .i64 li, .int .u8 (eg : Int)] 63)).alloc (.cells #[.int .i64 0, .bool true, .string av, .slice A n c] 33)) = w2 at *
  have z0 := KT.out.cell 0
  have z1 := KT.out.cell 1
  have z2 := KT.out.cell 2
  have z3 := KT.out.cell 3
  have z4 := KT.out.cell 4
  have z5 := KT.out.cell 5
  have z6 := KT.out.cell 6
  have z7 := KT.out.cell 7
  simp only [List.getElem?_toArray, List.getElem?_cons_zero, List.getElem?_cons_succ] at z0 z1 z2 z3 z4 z5 z6 z7
  go_wp2_with fail
  refine (find_any B p g x ta tx _ H.out HL.out).mono ?_
  rintro e w3 ⟨rfl, rfl⟩
  rw [HIY.out]
  have u0 := KA.out.cell 0
  have u1 := KA.out.cell 1
  have u2 := KA.out.cell 2
  simp only [List.getElem?_toArray, List.getElem?_cons_zero, List.getElem?_cons_succ] at u0 u1 u2
  have HIXI : Hid (ix = (i : Int)) := Lib.hid (HIY.out.symm.trans HFI.out)
  have HE : Hid (GR = addW g i ⟨0, ke, true, emp⟩) := Lib.hid (by
    rw [← HGR.out, HIXI.out]
    exact noteI_4 ..)
  clear HGR HIY
  obtain ⟨ix', hix'⟩ : ∃ z, ix = z := ⟨_, rfl⟩
  have b2 : decide (ix < 0) = false := decide_eq_false (by have := HIXI.out; omega)
  obtain ⟨b, off, hd, hA, hh, hc⟩ := H.out.life HLI.out
  have HH := Lib.hid hh
  have HA := Lib.hid hA
  have i1 := idx59 b off g.lives.length x.lc i ix HIXI.out HLI.out
  clear hix' hc hh hA
  go_upto_region 16 with (fail)
  clear b2
  refine wp_region_noPanic ?_
  obtain ⟨W0, rfl⟩ : ∃ W0 : World, W0 = w2 := ⟨_, rfl⟩
  refine wp_region_held_drew (S := fun W => W.cell? ⟨p, 2, none⟩ = some (.slice (some ⟨b, off, none⟩) g.lives.length x.lc) ∧ Blk W w.heap.size #[.int .i64 ta, .int .u8 4, .int .i64 tx, .string ke, .string en, .string va, .int .i64 li, .int .u8 (eg : Int)] 63) (by kernel_rfl) (⟨by have h0 := H.out.c0.2.2; rw [HA.out] at h0; exact h0, KT.out.later (Below.drew (Below.refl _ _))⟩) (fun hHeld => ?_)
  replace HB : Hid (Below w.heap.size w (World.drew W0)) := Lib.hid (Below.drew HB.out)
  replace KT : Hid (Blk (World.drew W0) w.heap.size #[.int .i64 ta, .int .u8 4, .int .i64 tx, .string ke, .string en, .string va, .int .i64 li, .int .u8 (eg : Int)] 63) := Lib.hid (KT.out.later (Below.drew (Below.refl _ _)))
  replace H := Lib.hid (H.out.later (Below.drew (Below.refl _ _)))
  generalize World.drew W0 = Wd at *
  refine wpAnyH_take (i := 0) (oi := { dst := some 110, op := Op.move (Operand.tmp 0), type := 57, pos := "outright.go:178", after := #[], guard := none }) (v := ?_) rfl (by kernel_rfl) (by kernel_rfl) (by kernel_rfl) (fun _ _ _ h => h) (Or.inl ⟨by rfl, ?_⟩) (by assumption) ?_
  rotate_left
  · intro W hSw
    clear hSw
    go_simp
    try with_reducible rfl
  simp only [Act.put, List.setIfInBounds_toArray, List.set_cons_zero, List.set_cons_succ]
  refine wpAnyH_take (i := 1) (oi := { dst := some 111, op := Op.nilCheck (Operand.tmp 110), type := 0, pos := "outright.go:178", after := #[{ on := 0, ground := Ground.data }], guard := none }) (v := ?_) rfl (by kernel_rfl) (by kernel_rfl) (by kernel_rfl) (fun _ _ _ h => h) (Or.inl ⟨by rfl, ?_⟩) (by assumption) ?_
  rotate_left
  · intro W hSw
    clear hSw
    go_simp
    try with_reducible rfl
  simp only [Act.put, List.setIfInBounds_toArray, List.set_cons_zero, List.set_cons_succ]
  refine wpAnyH_take (i := 2) (oi := { dst := some 112, op := Op.fieldAddr 61 (Operand.tmp 111) 2, type := 0, pos := "outright.go:178", after := #[{ on := 1, ground := Ground.data }], guard := none }) (v := ?_) rfl (by kernel_rfl) (by kernel_rfl) (by kernel_rfl) (fun _ _ _ h => h) (Or.inl ⟨by rfl, ?_⟩) (by assumption) ?_
  rotate_left
  · intro W hSw
    clear hSw
    go_simp
    try with_reducible rfl
  simp only [Act.put, List.setIfInBounds_toArray, List.set_cons_zero, List.set_cons_succ]
  refine wpAnyH_take (i := 3) (oi := { dst := some 113, op := Op.load 59 (Operand.tmp 112), type := 59, pos := "outright.go:178", after := #[{ on := 2, ground := Ground.data }], guard := none }) (v := ?_) rfl (by kernel_rfl) (by kernel_rfl) (by kernel_rfl) (fun _ _ _ h => h) (Or.inl ⟨by rfl, ?_⟩) (by assumption) ?_
  rotate_left
  · intro W hSw
    have q2 := hSw.1
    clear hSw
    go_simp
    try with_reducible rfl
  simp only [Act.put, List.setIfInBounds_toArray, List.set_cons_zero, List.set_cons_succ]
  refine wpAnyH_take (i := 4) (oi := { dst := some 114, op := Op.move (Operand.tmp 8), type := 3, pos := "outright.go:178", after := #[], guard := none }) (v := ?_) rfl (by kernel_rfl) (by kernel_rfl) (by kernel_rfl) (fun _ _ _ h => h) (Or.inl ⟨by rfl, ?_⟩) (by assumption) ?_
  rotate_left
  · intro W hSw
    clear hSw
    go_simp
    try with_reducible rfl
  simp only [Act.put, List.setIfInBounds_toArray, List.set_cons_zero, List.set_cons_succ]
  refine wpAnyH_take (i := 5) (oi := { dst := some 115, op := Op.move (Operand.tmp 0), type := 57, pos := "outright.go:178", after := #[], guard := none }) (v := ?_) rfl (by kernel_rfl) (by kernel_rfl) (by kernel_rfl) (fun _ _ _ h => h) (Or.inl ⟨by rfl, ?_⟩) (by assumption) ?_
  rotate_left
  · intro W hSw
    clear hSw
    go_simp
    try with_reducible rfl
  simp only [Act.put, List.setIfInBounds_toArray, List.set_cons_zero, List.set_cons_succ]
  refine wpAnyH_take (i := 6) (oi := { dst := some 116, op := Op.nilCheck (Operand.tmp 115), type := 0, pos := "outright.go:178", after := #[{ on := 5, ground := Ground.data }], guard := none }) (v := ?_) rfl (by kernel_rfl) (by kernel_rfl) (by kernel_rfl) (fun _ _ _ h => h) (Or.inl ⟨by rfl, ?_⟩) (by assumption) ?_
  rotate_left
  · intro W hSw
    clear hSw
    go_simp
    try with_reducible rfl
  simp only [Act.put, List.setIfInBounds_toArray, List.set_cons_zero, List.set_cons_succ]
  refine wpAnyH_take (i := 7) (oi := { dst := some 117, op := Op.fieldAddr 61 (Operand.tmp 116) 2, type := 0, pos := "outright.go:178", after := #[{ on := 6, ground := Ground.data }], guard := none }) (v := ?_) rfl (by kernel_rfl) (by kernel_rfl) (by kernel_rfl) (fun _ _ _ h => h) (Or.inl ⟨by rfl, ?_⟩) (by assumption) ?_
  rotate_left
  · intro W hSw
    clear hSw
    go_simp
    try with_reducible rfl
  simp only [Act.put, List.setIfInBounds_toArray, List.set_cons_zero, List.set_cons_succ]
  refine wpAnyH_take (i := 8) (oi := { dst := some 118, op := Op.load 59 (Operand.tmp 117), type := 59, pos := "outright.go:178", after := #[{ on := 7, ground := Ground.data }], guard := none }) (v := ?_) rfl (by kernel_rfl) (by kernel_rfl) (by kernel_rfl) (fun _ _ _ h => h) (Or.inl ⟨by rfl, ?_⟩) (by assumption) ?_
  rotate_left
  · intro W hSw
    have q2 := hSw.1
    clear hSw
    go_simp
    try with_reducible rfl
  simp only [Act.put, List.setIfInBounds_toArray, List.set_cons_zero, List.set_cons_succ]
  refine wpAnyH_take (i := 9) (oi := { dst := some 119, op := Op.move (Operand.tmp 8), type := 3, pos := "outright.go:178", after := #[], guard := none }) (v := ?_) rfl (by kernel_rfl) (by kernel_rfl) (by kernel_rfl) (fun _ _ _ h => h) (Or.inl ⟨by rfl, ?_⟩) (by assumption) ?_
  rotate_left
  · intro W hSw
    clear hSw
    go_simp
    try with_reducible rfl
  simp only [Act.put, List.setIfInBounds_toArray, List.set_cons_zero, List.set_cons_succ]
  refine wpAnyH_take (i := 10) (oi := { dst := some 120, op := Op.indexAddr 59 (Operand.tmp 118) (Operand.tmp 119), type := 0, pos := "outright.go:178", after := #[{ on := 8, ground := Ground.data }, { on := 9, ground := Ground.data }], guard := none }) (v := ?_) rfl (by kernel_rfl) (by kernel_rfl) (by kernel_rfl) (fun _ _ _ h => h) (Or.inl ⟨by rfl, ?_⟩) (by assumption) ?_
  rotate_left
  · intro W hSw
    clear hSw
    go_simp
    try with_reducible rfl
  simp only [Act.put, List.setIfInBounds_toArray, List.set_cons_zero, List.set_cons_succ]
  refine wpAnyH_take (i := 11) (oi := { dst := some 121, op := Op.fieldAddr 73 (Operand.tmp 120) 3, type := 0, pos := "outright.go:178", after := #[{ on := 10, ground := Ground.data }], guard := none }) (v := ?_) rfl (by kernel_rfl) (by kernel_rfl) (by kernel_rfl) (fun _ _ _ h => h) (Or.inl ⟨by rfl, ?_⟩) (by assumption) ?_
  rotate_left
  · intro W hSw
    clear hSw
    go_simp
    try with_reducible rfl
  simp only [Act.put, List.setIfInBounds_toArray, List.set_cons_zero, List.set_cons_succ]
  refine wpAnyH_take (i := 13) (oi := { dst := some 123, op := Op.fieldAddr 63 (Operand.tmp 6) 1, type := 0, pos := "outright.go:178", after := #[], guard := none }) (v := ?_) rfl (by kernel_rfl) (by kernel_rfl) (by kernel_rfl) (fun _ _ _ h => h) (Or.inl ⟨by rfl, ?_⟩) (by assumption) ?_
  rotate_left
  · intro W hSw
    clear hSw
    go_simp
    try with_reducible rfl
  simp only [Act.put, List.setIfInBounds_toArray, List.set_cons_zero, List.set_cons_succ]
  refine wpAnyH_take (i := 14) (oi := { dst := some 124, op := Op.fieldAddr 36 (Operand.tmp 123) 2, type := 0, pos := "outright.go:178", after := #[{ on := 13, ground := Ground.data }], guard := none }) (v := ?_) rfl (by kernel_rfl) (by kernel_rfl) (by kernel_rfl) (fun _ _ _ h => h) (Or.inl ⟨by rfl, ?_⟩) (by assumption) ?_
  rotate_left
  · intro W hSw
    clear hSw
    go_simp
    try with_reducible rfl
  simp only [Act.put, List.setIfInBounds_toArray, List.set_cons_zero, List.set_cons_succ]
  refine wpAnyH_take (i := 15) (oi := { dst := some 125, op := Op.load 9 (Operand.tmp 124), type := 9, pos := "outright.go:178", after := #[{ on := 14, ground := Ground.data }], guard := none }) (v := ?_) rfl (by kernel_rfl) (by kernel_rfl) (by kernel_rfl) (fun _ _ _ h => h) (Or.inl ⟨by rfl, ?_⟩) (by assumption) ?_
  rotate_left
  · intro W hSw
    have z3 := hSw.2.cell 3
    simp only [List.getElem?_toArray, List.getElem?_cons_zero, List.getElem?_cons_succ] at z3
    clear hSw
    go_simp
    try with_reducible rfl
  simp only [Act.put, List.setIfInBounds_toArray, List.set_cons_zero, List.set_cons_succ]
  refine wpAnyH_take (i := 16) (oi := { dst := some 126, op := Op.build 75 #[(1, Operand.tmp 125), (2, Operand.const (Value.bool true))], type := 75, pos := "outright.go:178", after := #[{ on := 15, ground := Ground.data }], guard := none }) (v := ?_) rfl (by kernel_rfl) (by kernel_rfl) (by kernel_rfl) (fun _ _ _ h => h) (Or.inl ⟨by rfl, ?_⟩) (by assumption) ?_
  rotate_left
  · intro W hSw
    clear hSw
    go_simp
    try with_reducible rfl
  simp only [Act.put, List.setIfInBounds_toArray, List.set_cons_zero, List.set_cons_succ]
  have HL3 : Hid (∀ W, LgAt W B p g x → W.cell? ⟨b, off + i * 6 + 3, none⟩ = some (.slice hd.1 (gl g i).ws.length hd.2)) := Lib.hid (fun W hW => by
    obtain ⟨b', off', hd', e1, e2, hc⟩ := hW.life HLI.out
    rw [HA.out] at e1
    rw [HH.out] at e2
    cases e1
    cases e2
    exact hc 3 (by decide))
  refine wpAnyH_ready (rs := [12, 17]) (by kernel_rfl) (by simp) (AllReadyH.cons (o := { dst := some 122, op := Op.load 58 (Operand.tmp 121), type := 58, pos := "outright.go:178", after := #[{ on := 11, ground := Ground.data }], guard := none }) rfl (fun K hK => ?_) (AllReadyH.cons (o := { dst := some 127, op := Op.buildSlice 58 1 #[(0, Operand.tmp 126)], type := 58, pos := "outright.go:178", after := #[{ on := 16, ground := Ground.data }], guard := none }) rfl (fun K hK => ?_) AllReadyH.nil))
  · have hl := HL3.out Wd H.out
    go_simp
    clear hl hHeld
    refine hK.out _ _ (⟨by have h0 := H.out.c0.2.2; rw [HA.out] at h0; exact h0, KT.out⟩) (fun hHeld => ?_)
    clear hK K
    refine wpAnyH_ready (rs := [17]) (by kernel_rfl) (by simp) (AllReadyH.cons (o := { dst := some 127, op := Op.buildSlice 58 1 #[(0, Operand.tmp 126)], type := 58, pos := "outright.go:178", after := #[{ on := 16, ground := Ground.data }], guard := none }) rfl (fun K hK => ?_) AllReadyH.nil)
    go_simp
    have hb : Below Wd.heap.size Wd (Wd.alloc (.cells #[.int .i64 0, .string ke, .bool true, .string ⟨#[]⟩] 75)) := (Below.refl _ _).alloc (Nat.le_refl _) _
    have KV : Hid (Blk (Wd.alloc (.cells #[.int .i64 0, .string ke, .bool true, .string ⟨#[]⟩] 75)) Wd.heap.size (fcE ⟨0, ke, true, emp⟩).toArray 75) := Lib.hid (Blk.new Wd _ 75)
    replace HB := Lib.hid (stepB HB.out hb)
    replace KT := Lib.hid (KT.out.later hb)
    replace H := Lib.hid (H.out.later hb)
    clear hb hHeld
    refine hK.out _ _ (⟨by have h0 := H.out.c0.2.2; rw [HA.out] at h0; exact h0, KT.out⟩) (fun hHeld => ?_)
    clear hK K
    generalize Wd.alloc (.cells #[.int .i64 0, .string ke, .bool true, .string ⟨#[]⟩] 75) = We at *
    obtain ⟨qv, hqv⟩ : ∃ z, Wd.heap.size = z := ⟨_, rfl⟩
    rw [hqv] at KV ⊢
    clear hqv
    refine wpAnyH_ready (rs := [18]) (by kernel_rfl) (by simp) (AllReadyH.cons (o := { dst := some 128, op := Op.call { callee := Callee.builtin Builtin.append, args := #[Operand.tmp 122, Operand.tmp 127], argTypes := #[58, 58] }, type := 58, pos := "outright.go:178", after := #[{ on := 12, ground := Ground.data }, { on := 17, ground := Ground.data }], guard := none }) rfl (fun K hK => ?_) AllReadyH.nil)
    refine wp_append_row1 elemF (.tmp 122) (.tmp 127) rfl B (.slice hd.1 (gl g i).ws.length hd.2) (gl g i).ws.length (gl g i).ws rfl (H.out.ws i hd _ HH.out (gl_at HLI.out)) qv 1 ⟨0, ke, true, emp⟩ rfl KV.out.rsl (by have := HWL.out; omega) (by decide) (Nat.le_trans HBB.out HB.out.size) ?_
    intro A6 c6 w6 ho6 hg6 hn6 _
    have hwr := H.out.wrote HLI.out HH.out ho6 hg6 hn6 HA.out
    have HWR := Lib.hid hwr
    have HG6 := Lib.hid (LgK.grown (H.out.ws i hd _ HH.out (gl_at HLI.out)) (.inr rfl) hg6)
    have CP6 : Hid (w6.cell? ⟨p, 2, none⟩ = some (.slice (some ⟨b, off, none⟩) g.lives.length x.lc) ∧ Blk w6 w.heap.size #[.int .i64 ta, .int .u8 4, .int .i64 tx, .string ke, .string en, .string va, .int .i64 li, .int .u8 (eg : Int)] 63) := Lib.hid ⟨by
        have h0 := H.out.c0.2.2
        rw [HA.out] at h0
        exact (cell_keep (hneW H.out HLI.out HH.out hg6 H.out.blk (by decide))).trans h0, (hneW H.out HLI.out HH.out hg6 KT.out (by decide)).trans KT.out⟩
    have CL6 : Hid (w6.cell? ⟨b, off + i * 6 + 3, none⟩ = some (.slice hd.1 (gl g i).ws.length hd.2) ∧ w6.frozen? ⟨b, off + i * 6 + 3, none⟩ = false) := Lib.hid (by
      obtain ⟨cur, hbk⟩ := H.out.lblk HLI.out HA.out
      have e := hneW H.out HLI.out HH.out hg6 hbk (by decide)
      exact ⟨(cell_keep e).trans (HL3.out _ H.out), Blk.frozen (show Blk w6 b cur 73 from e.trans hbk) _⟩)
    have KTN6 : Hid (w.heap.size ≠ b) := Lib.hid (fun e => by
      obtain ⟨cur, hbk⟩ := H.out.lblk HLI.out HA.out
      have h1 : Blk We w.heap.size #[.int .i64 ta, .int .u8 4, .int .i64 tx, .string ke, .string en, .string va, .int .i64 li, .int .u8 (eg : Int)] 63 := KT.out
      rw [e] at h1
      have h1 : _ = some (Obj.cells #[.int .i64 ta, .int .u8 4, .int .i64 tx, .string ke, .string en, .string va, .int .i64 li, .int .u8 (eg : Int)] 63 (0, 0)) := h1
      rw [show _ = some (Obj.cells cur 73 (0, 0)) from hbk] at h1
      simp only [Option.some.injEq, Obj.cells.injEq] at h1
      exact absurd h1.2.1 (by decide))
    clear ho6 hg6 hn6 hwr hHeld KV
    refine hK.out _ _ (CP6.out) (fun hHeld => ?_)
    clear hK K
    refine wpAnyH_take (i := 19) (oi := { dst := some 129, op := Op.indexAddr 59 (Operand.tmp 113) (Operand.tmp 114), type := 0, pos := "outright.go:178", after := #[{ on := 3, ground := Ground.data }, { on := 4, ground := Ground.data }, { on := 0, ground := Ground.phase }, { on := 1, ground := Ground.phase }, { on := 2, ground := Ground.phase }, { on := 3, ground := Ground.phase }, { on := 4, ground := Ground.phase }, { on := 5, ground := Ground.phase }, { on := 6, ground := Ground.phase }, { on := 7, ground := Ground.phase }, { on := 8, ground := Ground.phase }, { on := 9, ground := Ground.phase }, { on := 10, ground := Ground.phase }, { on := 11, ground := Ground.phase }, { on := 12, ground := Ground.phase }, { on := 13, ground := Ground.phase }, { on := 14, ground := Ground.phase }, { on := 15, ground := Ground.phase }, { on := 16, ground := Ground.phase }, { on := 17, ground := Ground.phase }, { on := 18, ground := Ground.phase }], guard := none }) (v := ?_) rfl (by kernel_rfl) (by kernel_rfl) (by kernel_rfl) (fun _ _ _ h => h) (Or.inl ⟨by rfl, ?_⟩) (by assumption) ?_
    rotate_left
    · intro W hSw
      clear hSw
      go_simp
      try with_reducible rfl
    simp only [Act.put, List.setIfInBounds_toArray, List.set_cons_zero, List.set_cons_succ]
    refine wpAnyH_take (i := 20) (oi := { dst := some 130, op := Op.fieldAddr 73 (Operand.tmp 129) 3, type := 0, pos := "outright.go:178", after := #[{ on := 19, ground := Ground.data }, { on := 0, ground := Ground.phase }, { on := 1, ground := Ground.phase }, { on := 2, ground := Ground.phase }, { on := 3, ground := Ground.phase }, { on := 4, ground := Ground.phase }, { on := 5, ground := Ground.phase }, { on := 6, ground := Ground.phase }, { on := 7, ground := Ground.phase }, { on := 8, ground := Ground.phase }, { on := 9, ground := Ground.phase }, { on := 10, ground := Ground.phase }, { on := 11, ground := Ground.phase }, { on := 12, ground := Ground.phase }, { on := 13, ground := Ground.phase }, { on := 14, ground := Ground.phase }, { on := 15, ground := Ground.phase }, { on := 16, ground := Ground.phase }, { on := 17, ground := Ground.phase }, { on := 18, ground := Ground.phase }], guard := none }) (v := ?_) rfl (by kernel_rfl) (by kernel_rfl) (by kernel_rfl) (fun _ _ _ h => h) (Or.inl ⟨by rfl, ?_⟩) (by assumption) ?_
    rotate_left
    · intro W hSw
      clear hSw
      go_simp
      try with_reducible rfl
    simp only [Act.put, List.setIfInBounds_toArray, List.set_cons_zero, List.set_cons_succ]
    refine wpAnyH_ready (rs := [21]) (by kernel_rfl) (by simp) (AllReadyH.cons (o := { dst := none, op := Op.store 58 (Operand.tmp 130) (Operand.tmp 128), type := 0, pos := "outright.go:178", after := #[{ on := 20, ground := Ground.data }, { on := 18, ground := Ground.data }, { on := 18, ground := Ground.chain }, { on := 0, ground := Ground.phase }, { on := 1, ground := Ground.phase }, { on := 2, ground := Ground.phase }, { on := 3, ground := Ground.phase }, { on := 4, ground := Ground.phase }, { on := 5, ground := Ground.phase }, { on := 6, ground := Ground.phase }, { on := 7, ground := Ground.phase }, { on := 8, ground := Ground.phase }, { on := 9, ground := Ground.phase }, { on := 10, ground := Ground.phase }, { on := 11, ground := Ground.phase }, { on := 12, ground := Ground.phase }, { on := 13, ground := Ground.phase }, { on := 14, ground := Ground.phase }, { on := 15, ground := Ground.phase }, { on := 16, ground := Ground.phase }, { on := 17, ground := Ground.phase }, { on := 18, ground := Ground.phase }], guard := none }) rfl (fun K hK => ?_) AllReadyH.nil)
    obtain ⟨cz, fz⟩ := CL6.out
    go_simp
    clear cz fz hHeld
    refine hK.out _ _ (⟨by have h0 := HWR.out.1.c0.2.2; rw [show (addW g i ⟨0, ke, true, emp⟩).lives.length = g.lives.length from List.length_set .., show ({ x with hs := x.hs.set i (A6, c6) } : LX).lA = x.lA from rfl, HA.out] at h0; exact h0, CP6.out.2.other (fun e => KTN6.out (e)) _⟩) (fun hHeld => ?_)
    clear hK K
    refine wpAnyH_done (by kernel_rfl) (NoPanic.normal ?_) _
    clear hHeld
    have HFIN : Hid (LgK B w (w6.setCell ⟨b, off + i * 6 + 3, none⟩ (.slice A6 ((gl g i).ws.length + 1) c6))) := Lib.hid ((LgK.of_below HB.out).tr HWR.out.2)
    generalize w6.setCell ⟨b, off + i * 6 + 3, none⟩ (.slice A6 ((gl g i).ws.length + 1) c6) = w7 at *
    go_wp2
    refine bodyPost_end (results_none rfl _ _ _) rfl ?_
    exact ⟨rfl, _, by rw [HE.out]; exact HWR.out.1, HFIN.out⟩
  · go_simp
    have hb : Below Wd.heap.size Wd (Wd.alloc (.cells #[.int .i64 0, .string ke, .bool true, .string ⟨#[]⟩] 75)) := (Below.refl _ _).alloc (Nat.le_refl _) _
    have KV : Hid (Blk (Wd.alloc (.cells #[.int .i64 0, .string ke, .bool true, .string ⟨#[]⟩] 75)) Wd.heap.size (fcE ⟨0, ke, true, emp⟩).toArray 75) := Lib.hid (Blk.new Wd _ 75)
    replace HB := Lib.hid (stepB HB.out hb)
    replace KT := Lib.hid (KT.out.later hb)
    replace H := Lib.hid (H.out.later hb)
    clear hb hHeld
    refine hK.out _ _ (⟨by have h0 := H.out.c0.2.2; rw [HA.out] at h0; exact h0, KT.out⟩) (fun hHeld => ?_)
    clear hK K
    generalize Wd.alloc (.cells #[.int .i64 0, .string ke, .bool true, .string ⟨#[]⟩] 75) = We at *
    obtain ⟨qv, hqv⟩ : ∃ z, Wd.heap.size = z := ⟨_, rfl⟩
    rw [hqv] at KV ⊢
    clear hqv
    refine wpAnyH_ready (rs := [12]) (by kernel_rfl) (by simp) (AllReadyH.cons (o := { dst := some 122, op := Op.load 58 (Operand.tmp 121), type := 58, pos := "outright.go:178", after := #[{ on := 11, ground := Ground.data }], guard := none }) rfl (fun K hK => ?_) AllReadyH.nil)
    have hl := HL3.out We H.out
    go_simp
    clear hl hHeld
    refine hK.out _ _ (⟨by have h0 := H.out.c0.2.2; rw [HA.out] at h0; exact h0, KT.out⟩) (fun hHeld => ?_)
    clear hK K
    refine wpAnyH_ready (rs := [18]) (by kernel_rfl) (by simp) (AllReadyH.cons (o := { dst := some 128, op := Op.call { callee := Callee.builtin Builtin.append, args := #[Operand.tmp 122, Operand.tmp 127], argTypes := #[58, 58] }, type := 58, pos := "outright.go:178", after := #[{ on := 12, ground := Ground.data }, { on := 17, ground := Ground.data }], guard := none }) rfl (fun K hK => ?_) AllReadyH.nil)
    refine wp_append_row1 elemF (.tmp 122) (.tmp 127) rfl B (.slice hd.1 (gl g i).ws.length hd.2) (gl g i).ws.length (gl g i).ws rfl (H.out.ws i hd _ HH.out (gl_at HLI.out)) qv 1 ⟨0, ke, true, emp⟩ rfl KV.out.rsl (by have := HWL.out; omega) (by decide) (Nat.le_trans HBB.out HB.out.size) ?_
    intro A6 c6 w6 ho6 hg6 hn6 _
    have hwr := H.out.wrote HLI.out HH.out ho6 hg6 hn6 HA.out
    have HWR := Lib.hid hwr
    have HG6 := Lib.hid (LgK.grown (H.out.ws i hd _ HH.out (gl_at HLI.out)) (.inr rfl) hg6)
    have CP6 : Hid (w6.cell? ⟨p, 2, none⟩ = some (.slice (some ⟨b, off, none⟩) g.lives.length x.lc) ∧ Blk w6 w.heap.size #[.int .i64 ta, .int .u8 4, .int .i64 tx, .string ke, .string en, .string va, .int .i64 li, .int .u8 (eg : Int)] 63) := Lib.hid ⟨by
        have h0 := H.out.c0.2.2
        rw [HA.out] at h0
        exact (cell_keep (hneW H.out HLI.out HH.out hg6 H.out.blk (by decide))).trans h0, (hneW H.out HLI.out HH.out hg6 KT.out (by decide)).trans KT.out⟩
    have CL6 : Hid (w6.cell? ⟨b, off + i * 6 + 3, none⟩ = some (.slice hd.1 (gl g i).ws.length hd.2) ∧ w6.frozen? ⟨b, off + i * 6 + 3, none⟩ = false) := Lib.hid (by
      obtain ⟨cur, hbk⟩ := H.out.lblk HLI.out HA.out
      have e := hneW H.out HLI.out HH.out hg6 hbk (by decide)
      exact ⟨(cell_keep e).trans (HL3.out _ H.out), Blk.frozen (show Blk w6 b cur 73 from e.trans hbk) _⟩)
    have KTN6 : Hid (w.heap.size ≠ b) := Lib.hid (fun e => by
      obtain ⟨cur, hbk⟩ := H.out.lblk HLI.out HA.out
      have h1 : Blk We w.heap.size #[.int .i64 ta, .int .u8 4, .int .i64 tx, .string ke, .string en, .string va, .int .i64 li, .int .u8 (eg : Int)] 63 := KT.out
      rw [e] at h1
      have h1 : _ = some (Obj.cells #[.int .i64 ta, .int .u8 4, .int .i64 tx, .string ke, .string en, .string va, .int .i64 li, .int .u8 (eg : Int)] 63 (0, 0)) := h1
      rw [show _ = some (Obj.cells cur 73 (0, 0)) from hbk] at h1
      simp only [Option.some.injEq, Obj.cells.injEq] at h1
      exact absurd h1.2.1 (by decide))
    clear ho6 hg6 hn6 hwr hHeld KV
    refine hK.out _ _ (CP6.out) (fun hHeld => ?_)
    clear hK K
    refine wpAnyH_take (i := 19) (oi := { dst := some 129, op := Op.indexAddr 59 (Operand.tmp 113) (Operand.tmp 114), type := 0, pos := "outright.go:178", after := #[{ on := 3, ground := Ground.data }, { on := 4, ground := Ground.data }, { on := 0, ground := Ground.phase }, { on := 1, ground := Ground.phase }, { on := 2, ground := Ground.phase }, { on := 3, ground := Ground.phase }, { on := 4, ground := Ground.phase }, { on := 5, ground := Ground.phase }, { on := 6, ground := Ground.phase }, { on := 7, ground := Ground.phase }, { on := 8, ground := Ground.phase }, { on := 9, ground := Ground.phase }, { on := 10, ground := Ground.phase }, { on := 11, ground := Ground.phase }, { on := 12, ground := Ground.phase }, { on := 13, ground := Ground.phase }, { on := 14, ground := Ground.phase }, { on := 15, ground := Ground.phase }, { on := 16, ground := Ground.phase }, { on := 17, ground := Ground.phase }, { on := 18, ground := Ground.phase }], guard := none }) (v := ?_) rfl (by kernel_rfl) (by kernel_rfl) (by kernel_rfl) (fun _ _ _ h => h) (Or.inl ⟨by rfl, ?_⟩) (by assumption) ?_
    rotate_left
    · intro W hSw
      clear hSw
      go_simp
      try with_reducible rfl
    simp only [Act.put, List.setIfInBounds_toArray, List.set_cons_zero, List.set_cons_succ]
    refine wpAnyH_take (i := 20) (oi := { dst := some 130, op := Op.fieldAddr 73 (Operand.tmp 129) 3, type := 0, pos := "outright.go:178", after := #[{ on := 19, ground := Ground.data }, { on := 0, ground := Ground.phase }, { on := 1, ground := Ground.phase }, { on := 2, ground := Ground.phase }, { on := 3, ground := Ground.phase }, { on := 4, ground := Ground.phase }, { on := 5, ground := Ground.phase }, { on := 6, ground := Ground.phase }, { on := 7, ground := Ground.phase }, { on := 8, ground := Ground.phase }, { on := 9, ground := Ground.phase }, { on := 10, ground := Ground.phase }, { on := 11, ground := Ground.phase }, { on := 12, ground := Ground.phase }, { on := 13, ground := Ground.phase }, { on := 14, ground := Ground.phase }, { on := 15, ground := Ground.phase }, { on := 16, ground := Ground.phase }, { on := 17, ground := Ground.phase }, { on := 18, ground := Ground.phase }], guard := none }) (v := ?_) rfl (by kernel_rfl) (by kernel_rfl) (by kernel_rfl) (fun _ _ _ h => h) (Or.inl ⟨by rfl, ?_⟩) (by assumption) ?_
    rotate_left
    · intro W hSw
      clear hSw
      go_simp
      try with_reducible rfl
    simp only [Act.put, List.setIfInBounds_toArray, List.set_cons_zero, List.set_cons_succ]
    refine wpAnyH_ready (rs := [21]) (by kernel_rfl) (by simp) (AllReadyH.cons (o := { dst := none, op := Op.store 58 (Operand.tmp 130) (Operand.tmp 128), type := 0, pos := "outright.go:178", after := #[{ on := 20, ground := Ground.data }, { on := 18, ground := Ground.data }, { on := 18, ground := Ground.chain }, { on := 0, ground := Ground.phase }, { on := 1, ground := Ground.phase }, { on := 2, ground := Ground.phase }, { on := 3, ground := Ground.phase }, { on := 4, ground := Ground.phase }, { on := 5, ground := Ground.phase }, { on := 6, ground := Ground.phase }, { on := 7, ground := Ground.phase }, { on := 8, ground := Ground.phase }, { on := 9, ground := Ground.phase }, { on := 10, ground := Ground.phase }, { on := 11, ground := Ground.phase }, { on := 12, ground := Ground.phase }, { on := 13, ground := Ground.phase }, { on := 14, ground := Ground.phase }, { on := 15, ground := Ground.phase }, { on := 16, ground := Ground.phase }, { on := 17, ground := Ground.phase }, { on := 18, ground := Ground.phase }], guard := none }) rfl (fun K hK => ?_) AllReadyH.nil)
    obtain ⟨cz, fz⟩ := CL6.out
    go_simp
    clear cz fz hHeld
    refine hK.out _ _ (⟨by have h0 := HWR.out.1.c0.2.2; rw [show (addW g i ⟨0, ke, true, emp⟩).lives.length = g.lives.length from List.length_set .., show ({ x with hs := x.hs.set i (A6, c6) } : LX).lA = x.lA from rfl, HA.out] at h0; exact h0, CP6.out.2.other (fun e => KTN6.out (e)) _⟩) (fun hHeld => ?_)
    clear hK K
    refine wpAnyH_done (by kernel_rfl) (NoPanic.normal ?_) _
    clear hHeld
    have HFIN : Hid (LgK B w (w6.setCell ⟨b, off + i * 6 + 3, none⟩ (.slice A6 ((gl g i).ws.length + 1) c6))) := Lib.hid ((LgK.of_below HB.out).tr HWR.out.2)
    generalize w6.setCell ⟨b, off + i * 6 + 3, none⟩ (.slice A6 ((gl g i).ws.length + 1) c6) = w7 at *
    go_wp2
    refine bodyPost_end (results_none rfl _ _ _) rfl ?_
    exact ⟨rfl, _, by rw [HE.out]; exact HWR.out.1, HFIN.out⟩
end Go.Proofs.Ytoinjnocopejjaa
