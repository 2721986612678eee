/- NV, NW in one. -/
import Derived.Test.YtoinjnocopejjaaNU
import Derived.StillTailTactics
/- Versions. -/
namespace Go.Proofs.Ytoinjnocopejjaa
open Go.ChangeShapes Go.WideShapes Go.ChangeAt Go.RowKit Go.Maps
set_option linter.unusedVariables false
set_option linter.unusedSimpArgs false
/-- a call ends with a row of versions of its own -/
def VsEnd (L : List Ver) (w : World) (e : Ending) (w' : World) : Prop := ∃ v, e = .returned v ∧ w'.ownsRow w.heap.size 26 4 v L.length (vsv L) ∧ Below w.heap.size w w'
theorem versions_nil (k : ByteArray) (w : World) : Calls Try.prog 20 #[.pointer none, .string k] w fun e w' => e = .returned (.slice none 0 0) ∧ w = w' := by
  go_enter Try.func20, Try.ntmps20
  go_wp2
  go_ret
  exact ⟨rfl, rfl⟩
set_option maxRecDepth 100000 in
set_option maxHeartbeats 1600000 in
theorem versions_any (B p : Nat) (s : MS) (S : Nat → Prop) (k : ByteArray) (w : World) (h : MR w B p s S) (hk : k.size ≤ maxLen) : Calls Try.prog 20 #[.pointer (some ⟨p, 0, none⟩), .string k] w (VsEnd (getR s k).1 w) := by
  obtain ⟨x, h, rfl⟩ := h
  have k12 := h.c0 12
  simp only [mdC, List.getElem?_cons_succ, List.getElem?_cons_zero] at k12
  have hlk := h.look0 k hk
  have hgr := h.getR k
  have hat := h.hdAt k
  obtain ⟨hd, hq0⟩ : ∃ hd, hdG x k = hd := ⟨_, rfl⟩
  rw [hq0] at hlk hgr hat
  have HGR : Hid (hdR hd = getR s k) := Lib.hid hgr.symm
  obtain ⟨A, n, c, L, ⟨iw, its, itm, iv⟩⟩ := hd
  have HG : Hid ((getR s k).1 = L ∧ L.length = n) := Lib.hid ⟨by rw [← HGR.out]; rfl, hat.1.1⟩
  have hcl := cloneo_any A n c L w (by have h8 : n ≤ 8 := hat.2.2.2; omega) (vers_of hat)
  have HCL := Lib.hid hcl
  rw [HG.out.1]
  unfold rowV at hlk
  simp only at hlk
  have hf := fieldL A n c iw its itm iv
  clear h hgr hat hq0 hcl HGR
  go_enter Try.func20, Try.ntmps20
  go_wp2_with fail
  refine HCL.out.mono ?_
  rintro e w1 ⟨vc, rfl, hov, hb⟩
  have HV : Hid (w1.ownsRow w.heap.size 26 4 vc L.length (vsv L)) := Lib.hid (by rw [HG.out.2]; exact hov)
  have HB := Lib.hid hb
  clear hov hb HCL
  go_wp2
  go_ret
  exact ⟨_, rfl, HV.out, HB.out⟩
end Go.Proofs.Ytoinjnocopejjaa

/- Intent. -/
namespace Go.Proofs.Ytoinjnocopejjaa
open Go.ChangeShapes Go.WideShapes Go.ChangeAt Go.RowKit Go.Maps
set_option linter.unusedVariables false
set_option linter.unusedSimpArgs false
set_option maxRecDepth 100000 in
set_option maxHeartbeats 1600000 in
theorem intent_any (B p : Nat) (s : MS) (S : Nat → Prop) (k : ByteArray) (w : World) (h : MR w B p s S) (hk : k.size ≤ maxLen) : Calls Try.prog 16 #[.pointer (some ⟨p, 0, none⟩), .string k] w (RdEnd (getR s k).2 (decide ((getR s k).2.w > 0)) w) := by
  obtain ⟨x, h, _⟩ := h
  have hb1 : Below w.heap.size w (w.alloc (.cells #[.int .i64 0, .int .i64 0, .bool false, .string ⟨#[]⟩] 26)) := (Below.refl _ _).alloc (Nat.le_refl _) _
  have h1 := h.later hb1
  have k12 := h1.c0 12
  have hlk := h1.look0 k hk
  have hg := h1.getR k
  generalize hdG x k = hd at *
  obtain ⟨A, n, c, L, ⟨iw, its, itm, iv⟩⟩ := hd
  unfold rowV at hlk
  simp only at hlk
  simp only [mdC, List.getElem?_cons_succ, List.getElem?_cons_zero] at k12
  have hr : (getR s k).2 = ⟨iw, its, itm, iv⟩ := by rw [hg]; rfl
  rw [hr]
  have hf := fieldI A n c iw its itm iv
  have HB : Hid (Below w.heap.size w ((w.alloc (.cells #[.int .i64 0, .int .i64 0, .bool false, .string ⟨#[]⟩] 26)).alloc (.cells #[.int .i64 iw, .int .i64 its, .bool itm, .string iv] 26))) := Lib.hid (hb1.alloc (by simp) _)
  have K8 : Hid (Blk ((w.alloc (.cells #[.int .i64 0, .int .i64 0, .bool false, .string ⟨#[]⟩] 26)).alloc (.cells #[.int .i64 iw, .int .i64 its, .bool itm, .string iv] 26)) (w.heap.size + 1) #[.int .i64 iw, .int .i64 its, .bool itm, .string iv] 26) := Lib.hid (Blk.new2 _ _ 26 (by simp))
  have K6 : Hid (Blk ((w.alloc (.cells #[.int .i64 0, .int .i64 0, .bool false, .string ⟨#[]⟩] 26)).alloc (.cells #[.int .i64 iw, .int .i64 its, .bool itm, .string iv] 26)) w.heap.size #[.int .i64 0, .int .i64 0, .bool false, .string ⟨#[]⟩] 26) := Lib.hid ((Blk.new w _ 26).alloc _)
  clear hr hg hb1 h1 h
  unfold RdEnd
  rw [Ver.agg_eq]
  simp only
  obtain ⟨b, hb⟩ : ∃ b, decide (iw > 0) = b := ⟨_, rfl⟩
  have hb' : decide (0 < iw) = b := hb
  rw [hb]
  go_enter Try.func16, Try.ntmps16
  go_upto_region 4 with (fail)
  clear hlk k12 hf
  generalize ((w.alloc (.cells #[.int .i64 0, .int .i64 0, .bool false, .string ⟨#[]⟩] 26)).alloc (.cells #[.int .i64 iw, .int .i64 its, .bool itm, .string iv] 26)) = w2 at *
  refine wp_region_noPanic ?_
  obtain ⟨W0, rfl⟩ : ∃ W0 : World, W0 = w2 := ⟨_, rfl⟩
  refine wp_region_held_drew (S := fun W => Below w.heap.size w W ∧ Blk W (w.heap.size + 1) #[.int .i64 iw, .int .i64 its, .bool itm, .string iv] 26) (by kernel_rfl) (⟨Below.drew HB.out, K8.out⟩) (fun hHeld => ?_)
  replace HB : Hid (Below w.heap.size w (World.drew W0)) := Lib.hid (Below.drew HB.out)
  replace K8 : Hid (Blk (World.drew W0) (w.heap.size + 1) #[.int .i64 iw, .int .i64 its, .bool itm, .string iv] 26) := Lib.hid K8.out
  replace K6 : Hid (Blk (World.drew W0) w.heap.size #[.int .i64 0, .int .i64 0, .bool false, .string ⟨#[]⟩] 26) := Lib.hid K6.out
  generalize World.drew W0 = Wd at *
  refine wpAnyH_take (i := 0) (oi := { dst := some 17, op := Op.load 26 (Operand.tmp 6), type := 26, pos := "model.go:288", after := #[], guard := none }) (v := ?_) rfl (by kernel_rfl) (by kernel_rfl) (by kernel_rfl) (fun _ _ _ h => h) (Or.inl ⟨by rfl, ?_⟩) (by assumption) ?_
  rotate_left
  · intro W hSw
    have z0 := hSw.2.cell 0
    have z1 := hSw.2.cell 1
    have z2 := hSw.2.cell 2
    have z3 := hSw.2.cell 3
    simp only [List.getElem?_toArray, List.getElem?_cons_zero, List.getElem?_cons_succ] at z0 z1 z2 z3
    clear hSw
    go_simp
    try with_reducible rfl
  simp only [Act.put, List.setIfInBounds_toArray, List.set_cons_zero, List.set_cons_succ]
  refine wpAnyH_take (i := 1) (oi := { dst := some 18, op := Op.fieldAddr 26 (Operand.tmp 6) 0, type := 0, pos := "model.go:288", after := #[{ on := 4, ground := Ground.gcOnly Departure.lateStores }], guard := none }) (v := ?_) rfl (by kernel_rfl) (by kernel_rfl) (by kernel_rfl) (fun _ _ _ h => h) (Or.inl ⟨by rfl, ?_⟩) (by assumption) ?_
  rotate_left
  · intro W hSw
    clear hSw
    go_simp
    try with_reducible rfl
  simp only [Act.put, List.setIfInBounds_toArray, List.set_cons_zero, List.set_cons_succ]
  refine wpAnyH_take (i := 2) (oi := { dst := some 19, op := Op.load 3 (Operand.tmp 18), type := 3, pos := "model.go:288", after := #[{ on := 1, ground := Ground.data }, { on := 4, ground := Ground.gcOnly Departure.lateStores }], guard := none }) (v := ?_) rfl (by kernel_rfl) (by kernel_rfl) (by kernel_rfl) (fun _ _ _ h => h) (Or.inl ⟨by rfl, ?_⟩) (by assumption) ?_
  rotate_left
  · intro W hSw
    have z0 := hSw.2.cell 0
    have z1 := hSw.2.cell 1
    have z2 := hSw.2.cell 2
    have z3 := hSw.2.cell 3
    simp only [List.getElem?_toArray, List.getElem?_cons_zero, List.getElem?_cons_succ] at z0 z1 z2 z3
    clear hSw
    go_simp
    try with_reducible rfl
  simp only [Act.put, List.setIfInBounds_toArray, List.set_cons_zero, List.set_cons_succ]
  refine wpAnyH_take (i := 3) (oi := { dst := some 20, op := Op.binOp BinOp.gtr 3 (Operand.tmp 19) (Operand.const (Value.int IntKind.i64 0)) 3, type := 4, pos := "model.go:288", after := #[{ on := 2, ground := Ground.data }, { on := 4, ground := Ground.gcOnly Departure.lateStores }], guard := none }) (v := ?_) rfl (by kernel_rfl) (by kernel_rfl) (by kernel_rfl) (fun _ _ _ h => h) (Or.inl ⟨by rfl, ?_⟩) (by assumption) ?_
  rotate_left
  · intro W hSw
    clear hSw
    go_simp
    try with_reducible rfl
  simp only [Act.put, List.setIfInBounds_toArray, List.set_cons_zero, List.set_cons_succ]
  refine wpAnyH_ready (rs := [4]) (by kernel_rfl) (by simp) (AllReadyH.cons (o := { dst := none, op := Op.store 26 (Operand.tmp 4) (Operand.tmp 17), type := 0, pos := "model.go:288", after := #[{ on := 0, ground := Ground.data }, { on := 0, ground := Ground.phase }, { on := 1, ground := Ground.textOnly Departure.lateStores }, { on := 2, ground := Ground.textOnly Departure.lateStores }, { on := 3, ground := Ground.textOnly Departure.lateStores }], guard := none }) rfl (fun K hK => ?_) AllReadyH.nil)
  refine wp_store_row 26 (.tmp 4) (.tmp 17) rfl w.heap.size #[.int .i64 iw, .int .i64 its, .bool itm, .string iv] rfl rfl 26 #[.int .i64 0, .int .i64 0, .bool false, .string ⟨#[]⟩] K6.out (by kernel_rfl) rfl (by first | rfl | (simp [Value.oneCell']; done)) ?_
  have HBS := Lib.hid (below_setRow HB.out (Nat.le_refl _) #[.int .i64 iw, .int .i64 its, .bool itm, .string iv])
  have KS : Hid (Blk (Wd.setRow w.heap.size #[.int .i64 iw, .int .i64 its, .bool itm, .string iv]) w.heap.size #[.int .i64 iw, .int .i64 its, .bool itm, .string iv] 26) := Lib.hid (Blk.setRow_self K6.out)
  clear hHeld
  refine hK.out _ _ (⟨HBS.out, Blk.setRow K8.out (by omega)⟩) (fun hHeld => ?_)
  clear hK K
  refine wpAnyH_take (i := 5) (oi := { dst := some 5, op := Op.assign (Operand.tmp 20), type := 4, pos := "model.go:288", after := #[{ on := 3, ground := Ground.data }, { on := 4, ground := Ground.chain }, { on := 0, ground := Ground.phase }, { on := 1, ground := Ground.phase }, { on := 2, ground := Ground.phase }, { on := 3, ground := Ground.phase }, { on := 4, ground := Ground.phase }], guard := none }) (v := ?_) rfl (by kernel_rfl) (by kernel_rfl) (by kernel_rfl) (fun _ _ _ h => h) (Or.inl ⟨by rfl, ?_⟩) (by assumption) ?_
  rotate_left
  · intro W hSw
    clear hSw
    go_simp
    try with_reducible rfl
  simp only [Act.put, List.setIfInBounds_toArray, List.set_cons_zero, List.set_cons_succ]
  refine wpAnyH_done (by kernel_rfl) (NoPanic.normal ?_) _
  clear hHeld
  go_wp2
  refine bodyPost_ret (results_cell_row2 rfl _ _ w.heap.size 26 _ (0, 0) _ rfl KS.out Try.underlying26 rfl (by kernel_rfl) rfl) rfl ?_
  exact ⟨rfl, HBS.out⟩
end Go.Proofs.Ytoinjnocopejjaa
