/- A Mark. -/
import Derived.Test.YtoinjnocopejjaaPA
import Derived.StillTailTactics
import Derived.Deep.QuietTactic
import Derived.BigQuiet
namespace Go.Proofs.Ytoinjnocopejjaa
open Go.ChangeShapes Go.WideShapes Go.ChangeAt Go.RowKit Go.Maps
set_option linter.unusedVariables false
set_option linter.unusedSimpArgs false
/-- behind a Mark -/
def MkEnd (w0 : World) (b : Nat) (p : Pl) (W : World) (e : Ending) (w' : World) : Prop := e = .returned (.int .i64 0) ∧ Fw w0 W w' ∧ ∃ x', PlAt w0 w' b p x'
set_option maxRecDepth 100000 in
set_option maxHeartbeats 1600000 in
theorem mark_any {w0 W : World} {b i : Nat} {p : Pl} {x : PX} {g : Pg} (h : PlAt w0 W b p x) (hi : p.tasks[i]? = some g) (wh ta ca er : Int) (fo : Bool) (va : ByteArray) (A : Option Addr) (m cc : Nat) (hn : p.m.txns.length ≤ 100000) (hdl : p.done.length ≤ 10000) (hc : 0 ≤ g.call ∧ g.call < (g.prog.length : Int)) : Calls Try.prog 111 #[.pointer (some ⟨b, 0, none⟩), .pointer (some ⟨x.tb, i * 4, none⟩), .agg #[.int .u8 wh, .int .i64 ta, .int .i64 ca, .int .i64 er, .bool fo, .string va, .slice A m cc]] W (MkEnd w0 b { m := (doM p.m ta (clG g)).1, tasks := p.tasks.set i { g with ph := 2, don := p.done.length }, taken := p.taken, done := p.done ++ [⟨ta, ca, (doM p.m ta (clG g)).2, p.taken, -1⟩] } W) := by
  obtain ⟨kc, hkc⟩ : ∃ kc : Nat, g.call = (kc : Int) := ⟨g.call.toNat, by omega⟩
  have hcl : g.prog[kc]? = some (clG g) := by
    unfold clG
    rw [List.getD_eq_getElem?_getD, show g.call.toNat = kc by omega, List.getElem?_eq_getElem (by omega)]; rfl
  have hco := h.cok g (List.mem_of_getElem? hi) _ (List.mem_of_getElem? hcl)
  obtain ⟨cl, hclg⟩ : ∃ cl, clG g = cl := ⟨_, rfl⟩
  rw [hclg] at hcl hco ⊢
  clear hclg
  obtain ⟨kn, tx, ke, en, vl, li, eg⟩ := cl
  obtain ⟨R1, hR1⟩ : ∃ R, doM p.m ta (kn, tx, ke, en, vl, li, eg) = R := ⟨_, rfl⟩
  obtain ⟨t1, er1, fo1, va1, pr1⟩ := R1
  have HC1 : Hid (∀ W own, MQ_ W w0.heap.size own x.mp p.m → Calls Try.prog 18 #[.pointer (some ⟨x.mp, 0, none⟩), .int .i64 ta, .agg #[.int .u8 (kn : Int), .int .i64 tx, .string ke, .string en, .string vl, .int .i64 li, .int .u8 (eg : Int)]] W (DoE w0.heap.size own x.mp t1 (er1, fo1, va1, pr1) W)) := Lib.hid (fun W own hq => by
    have := mq_do hq ta tx li ke en vl kn eg hn hco
    rw [hR1] at this; exact this)
  rw [hR1]
  have HCL := Lib.hid hcl
  have HKC := Lib.hid hkc
  have HCC : Hid (kc < g.prog.length) := Lib.hid (by omega)
  have HDL := Lib.hid hdl
  clear hR1 hcl hkc hco hn hc hdl
  obtain ⟨y, hy⟩ := h.hdr hi
  have hb : Below W.heap.size W (W.alloc (.cells #[.int .u8 wh, .int .i64 ta, .int .i64 ca, .int .i64 er, .bool fo, .string va, .slice A m cc] 89)) := (Below.refl _ _).alloc (Nat.le_refl _) _
  have HP := Lib.hid (h.later hb)
  have HF := Lib.hid (Fw.of h.bel hb)
  have KE : Hid (Blk (W.alloc (.cells #[.int .u8 wh, .int .i64 ta, .int .i64 ca, .int .i64 er, .bool fo, .string va, .slice A m cc] 89)) W.heap.size #[.int .u8 wh, .int .i64 ta, .int .i64 ca, .int .i64 er, .bool fo, .string va, .slice A m cc] 89) := Lib.hid (Blk.new W _ 89)
  have HI := Lib.hid hi
  have HY := Lib.hid hy
  clear hb hi hy h
  go_enter Try.func111, Try.ntmps111
  go_upto_region 1 with (fail)
  generalize W.alloc (.cells #[.int .u8 wh, .int .i64 ta, .int .i64 ca, .int .i64 er, .bool fo, .string va, .slice A m cc] 89) = w1 at *
  have z2 := HP.out.pgc HI.out HY.out 2 (by decide)
  simp only [pgE, List.getElem?_cons_zero, List.getElem?_cons_succ, Nat.add_zero] at z2
  have f2 := HP.out.pgf (i * 4 + 2)
  have HS := Lib.hid (HP.out.setG (g' := { g with ph := 2 }) (u := .int .i64 2) HI.out HY.out (show 2 < 4 by decide) rfl rfl)
  go_upto_region 2 with (fail)
  generalize w1.setCell ⟨x.tb, i * 4 + 2, none⟩ (.int .i64 2) = w2 at *
  have HF2 := Lib.hid (HF.out.trans HS.out.2)
  have HP2 := Lib.hid HS.out.1
  have HI2 : Hid (({ p with tasks := p.tasks.set i { g with ph := 2 } } : Pl).tasks[i]? = some { g with ph := 2 }) := Lib.hid (by
    show (p.tasks.set i _)[i]? = _
    rw [List.getElem?_set, if_pos rfl, if_pos (List.getElem?_eq_some_iff.1 HI.out).1])
  have KE2 := Lib.hid (HS.out.2.blk _ _ _ KE.out rfl)
  clear HS HF HP KE z2 f2
  have z3 := HP2.out.pgc HI2.out HY.out 3 (by decide)
  simp only [pgE, List.getElem?_cons_zero, List.getElem?_cons_succ, Nat.add_zero] at z3
  have f3 := HP2.out.pgf (i * 4 + 3)
  have c3 := HP2.out.c0 3
  simp only [plC, List.getElem?_cons_zero, List.getElem?_cons_succ] at c3
  have HS := Lib.hid (HP2.out.setG (g' := { g with ph := 2, don := p.done.length }) (u := .int .i64 (p.done.length : Nat)) HI2.out HY.out (show 3 < 4 by decide) rfl rfl)
  go_upto_region 3 with (fail)
  generalize w2.setCell ⟨x.tb, i * 4 + 3, none⟩ (.int .i64 (p.done.length : Nat)) = w3 at *
  have HF3 := Lib.hid (HF2.out.trans HS.out.2)
  have HP3 : Hid (PlAt w0 w3 b { p with tasks := p.tasks.set i { g with ph := 2, don := p.done.length } } x) := Lib.hid (by
    have := HS.out.1
    simp only [List.set_set] at this
    exact this)
  have HI3 : Hid (({ p with tasks := p.tasks.set i { g with ph := 2, don := p.done.length } } : Pl).tasks[i]? = some { g with ph := 2, don := p.done.length }) := Lib.hid (by
    show (p.tasks.set i _)[i]? = _
    rw [List.getElem?_set, if_pos rfl, if_pos (List.getElem?_eq_some_iff.1 HI.out).1])
  have KE3 := Lib.hid (HS.out.2.blk _ _ _ KE2.out rfl)
  clear HS HF2 HP2 KE2 HI2 z3 f3 c3 HI
  obtain ⟨be, hbe⟩ : ∃ z, W.heap.size = z := ⟨_, rfl⟩
  rw [hbe] at KE3 ⊢
  clear hbe
  obtain ⟨p3, hp3⟩ : ∃ p3, ({ p with tasks := p.tasks.set i { g with ph := 2, don := p.done.length } } : Pl) = p3 := ⟨_, rfl⟩
  have HPE : Hid (p3.m = p.m ∧ p3.tasks = p.tasks.set i { g with ph := 2, don := p.done.length } ∧ p3.taken = p.taken ∧ p3.done = p.done) := Lib.hid (by rw [← hp3]; exact ⟨rfl, rfl, rfl, rfl⟩)
  rw [hp3] at HP3 HI3
  clear hp3
  obtain ⟨cg, coff, hya, _, _⟩ := (HP3.out.prg i y _ HY.out HI3.out w3 (Fw.refl HF3.out.bel)).2 (show 0 < g.prog.length by have := HCC.out; omega)
  have HYA := Lib.hid hya
  clear hya
  have HFX : Hid (∀ W', Fw w0 w3 W' → Blk W' b (plC p3 x).toArray 142 → Blk W' x.tb (rv pgE (p3.tasks.zip x.ph)).toArray 175 → (W'.cell? ⟨b, 0, none⟩ = some (.pointer (some ⟨x.mp, 0, none⟩)) ∧ W'.cell? ⟨be, 1, none⟩ = some (.int .i64 ta) ∧ W'.cell? ⟨x.tb, i * 4, none⟩ = some (.slice (some ⟨cg, coff, none⟩) g.prog.length y.2) ∧ W'.cell? ⟨x.tb, i * 4 + 1, none⟩ = some (.int .i64 kc)) ∧ (W'.cell? ⟨cg, coff + kc * 7, none⟩ = some (.int .u8 (kn : Int)) ∧ W'.cell? ⟨cg, coff + kc * 7 + 1, none⟩ = some (.int .i64 tx) ∧ W'.cell? ⟨cg, coff + kc * 7 + 2, none⟩ = some (.string ke) ∧ W'.cell? ⟨cg, coff + kc * 7 + 3, none⟩ = some (.string en) ∧ W'.cell? ⟨cg, coff + kc * 7 + 4, none⟩ = some (.string vl) ∧ W'.cell? ⟨cg, coff + kc * 7 + 5, none⟩ = some (.int .i64 li) ∧ W'.cell? ⟨cg, coff + kc * 7 + 6, none⟩ = some (.int .u8 (eg : Int)))) := Lib.hid (fun W' hf hb1 hb2 => by
    have k1 := (hf.blk _ _ _ KE3.out rfl).cell 1
    have k0 := hb1.cell 0
    have z0 := pg_cell hb2 HI3.out HY.out 0 (by decide)
    have z1 := pg_cell hb2 HI3.out HY.out 1 (by decide)
    obtain ⟨cg', coff', e', _, hcc⟩ := (HP3.out.prg i y _ HY.out HI3.out W' hf).2 (show 0 < g.prog.length by have := HCC.out; omega)
    rw [HYA.out] at e'
    cases e'
    simp only [plC, pgE, List.getElem?_toArray, List.getElem?_cons_zero, List.getElem?_cons_succ, Nat.add_zero] at k0 k1 z0 z1
    rw [HYA.out] at z0
    rw [HKC.out] at z1
    exact ⟨⟨k0, k1, z0, z1⟩, hcc kc _ HCL.out 0 (by decide), hcc kc _ HCL.out 1 (by decide), hcc kc _ HCL.out 2 (by decide), hcc kc _ HCL.out 3 (by decide), hcc kc _ HCL.out 4 (by decide), hcc kc _ HCL.out 5 (by decide), hcc kc _ HCL.out 6 (by decide)⟩)
  have ix := idx92 cg coff g.prog.length y.2 kc (kc : Int) rfl HCC.out
  obtain ⟨HPM, HPT, HPK, HPD⟩ := HPE.out
  replace HC1 : Hid (∀ W own, MQ_ W w0.heap.size own x.mp p3.m → Calls Try.prog 18 #[.pointer (some ⟨x.mp, 0, none⟩), .int .i64 ta, .agg #[.int .u8 (kn : Int), .int .i64 tx, .string ke, .string en, .string vl, .int .i64 li, .int .u8 (eg : Int)]] W (DoE w0.heap.size own x.mp t1 (er1, fo1, va1, pr1) W)) := Lib.hid (by rw [HPM]; exact HC1.out)
  clear HPM HPT HPK HPD
  refine wp_region_noPanic ?_
  obtain ⟨W0, rfl⟩ : ∃ W0 : World, W0 = w3 := ⟨_, rfl⟩
  refine wp_region_held_drew (S := fun W => Fw w0 W0 W ∧ Blk W b (plC p3 x).toArray 142 ∧ Blk W x.tb (rv pgE (p3.tasks.zip x.ph)).toArray 175) (by kernel_rfl) (⟨Fw.of HF3.out.bel (Below.drew (Below.refl _ _)), HP3.out.blk, HP3.out.tb⟩) (fun hHeld => ?_)
  have hb : Below W0.heap.size W0 (World.drew W0) := Below.drew (Below.refl _ _)
  have HF4 := Lib.hid (HF3.out.then hb)
  have HP4 := Lib.hid (HP3.out.later hb)
  have HFS := Lib.hid (Fw.of HF3.out.bel hb)
  clear hb
  obtain ⟨Wd, hWd⟩ : ∃ z, World.drew W0 = z := ⟨_, rfl⟩
  rw [hWd] at HF4 HP4 HFS hHeld ⊢
  clear hWd
  refine tkL 0 ?_ rfl rfl ?_ (fun _ _ _ h => h) (by assumption) (by kernel_rfl) ?_
  rotate_left
  · intro W hSw
    clear hSw
    go_simp
    try with_reducible rfl
  simp only [pu_]
  refine tkL 1 ?_ rfl rfl ?_ (fun _ _ _ h => h) (by assumption) (by kernel_rfl) ?_
  rotate_left
  · intro W hSw
    clear hSw
    go_simp
    try with_reducible rfl
  simp only [pu_]
  refine tkL 2 ?_ rfl rfl ?_ (fun _ _ _ h => h) (by assumption) (by kernel_rfl) ?_
  rotate_left
  · intro W hSw
    clear hSw
    go_simp
    try with_reducible rfl
  simp only [pu_]
  refine tkL 3 ?_ rfl rfl ?_ (fun _ _ _ h => h) (by assumption) (by kernel_rfl) ?_
  rotate_left
  · intro W hSw
    obtain ⟨hq1, hq2, hq3⟩ := hSw
    obtain ⟨⟨q0, q1, q2, q3⟩, q4, q5, q6, q7, q8, q9, q10⟩ := HFX.out W hq1 hq2 hq3
    clear hq1 hq2 hq3
    go_simp
    try with_reducible rfl
  simp only [pu_]
  refine tkL 4 ?_ rfl rfl ?_ (fun _ _ _ h => h) (by assumption) (by kernel_rfl) ?_
  rotate_left
  · intro W hSw
    clear hSw
    go_simp
    try with_reducible rfl
  simp only [pu_]
  refine tkL 5 ?_ rfl rfl ?_ (fun _ _ _ h => h) (by assumption) (by kernel_rfl) ?_
  rotate_left
  · intro W hSw
    obtain ⟨hq1, hq2, hq3⟩ := hSw
    obtain ⟨⟨q0, q1, q2, q3⟩, q4, q5, q6, q7, q8, q9, q10⟩ := HFX.out W hq1 hq2 hq3
    clear hq1 hq2 hq3
    go_simp
    try with_reducible rfl
  simp only [pu_]
  refine tkL 6 ?_ rfl rfl ?_ (fun _ _ _ h => h) (by assumption) (by kernel_rfl) ?_
  rotate_left
  · intro W hSw
    clear hSw
    go_simp
    try with_reducible rfl
  simp only [pu_]
  refine tkL 7 ?_ rfl rfl ?_ (fun _ _ _ h => h) (by assumption) (by kernel_rfl) ?_
  rotate_left
  · intro W hSw
    clear hSw
    go_simp
    try with_reducible rfl
  simp only [pu_]
  refine tkL 8 ?_ rfl rfl ?_ (fun _ _ _ h => h) (by assumption) (by kernel_rfl) ?_
  rotate_left
  · intro W hSw
    clear hSw
    go_simp
    try with_reducible rfl
  simp only [pu_]
  refine tkL 9 ?_ rfl rfl ?_ (fun _ _ _ h => h) (by assumption) (by kernel_rfl) ?_
  rotate_left
  · intro W hSw
    obtain ⟨hq1, hq2, hq3⟩ := hSw
    obtain ⟨⟨q0, q1, q2, q3⟩, q4, q5, q6, q7, q8, q9, q10⟩ := HFX.out W hq1 hq2 hq3
    clear hq1 hq2 hq3
    go_simp
    try with_reducible rfl
  simp only [pu_]
  refine tkL 10 ?_ rfl rfl ?_ (fun _ _ _ h => h) (by assumption) (by kernel_rfl) ?_
  rotate_left
  · intro W hSw
    clear hSw
    go_simp
    try with_reducible rfl
  simp only [pu_]
  refine tkL 11 ?_ rfl rfl ?_ (fun _ _ _ h => h) (by assumption) (by kernel_rfl) ?_
  rotate_left
  · intro W hSw
    clear hSw
    go_simp
    try with_reducible rfl
  simp only [pu_]
  refine tkL 12 ?_ rfl rfl ?_ (fun _ _ _ h => h) (by assumption) (by kernel_rfl) ?_
  rotate_left
  · intro W hSw
    clear hSw
    go_simp
    try with_reducible rfl
  simp only [pu_]
  refine tkL 13 ?_ rfl rfl ?_ (fun _ _ _ h => h) (by assumption) (by kernel_rfl) ?_
  rotate_left
  · intro W hSw
    obtain ⟨hq1, hq2, hq3⟩ := hSw
    obtain ⟨⟨q0, q1, q2, q3⟩, q4, q5, q6, q7, q8, q9, q10⟩ := HFX.out W hq1 hq2 hq3
    clear hq1 hq2 hq3
    go_simp
    try with_reducible rfl
  simp only [pu_]
  refine tkL 14 ?_ rfl rfl ?_ (fun _ _ _ h => h) (by assumption) (by kernel_rfl) ?_
  rotate_left
  · intro W hSw
    obtain ⟨hq1, hq2, hq3⟩ := hSw
    obtain ⟨⟨q0, q1, q2, q3⟩, q4, q5, q6, q7, q8, q9, q10⟩ := HFX.out W hq1 hq2 hq3
    clear hq1 hq2 hq3
    go_simp
    try with_reducible rfl
  simp only [pu_]
  refine tkL 15 ?_ rfl rfl ?_ (fun _ _ _ h => h) (by assumption) (by kernel_rfl) ?_
  rotate_left
  · intro W hSw
    obtain ⟨hq1, hq2, hq3⟩ := hSw
    obtain ⟨⟨q0, q1, q2, q3⟩, q4, q5, q6, q7, q8, q9, q10⟩ := HFX.out W hq1 hq2 hq3
    clear hq1 hq2 hq3
    go_simp
    try with_reducible rfl
  simp only [pu_]
  refine wpAnyH_ready (rs := [16, 17]) (by kernel_rfl) (by simp) (AllReadyH.cons (o := { dst := some 35, op := Op.call { callee := Callee.value (Operand.func 18), args := #[Operand.tmp 22, Operand.tmp 24, Operand.tmp 34], argTypes := #[22, 3, 36] }, type := 33, pos := "replay.go:100", after := #[{ on := 3, ground := Ground.data }, { on := 5, ground := Ground.data }, { on := 15, ground := Ground.data }], guard := none }) rfl (fun K hK => ?_) (AllReadyH.cons (o := { dst := some 7, op := Op.alloc 33, type := 0, pos := "replay.go:100", after := #[], guard := none }) rfl (fun K hK => ?_) AllReadyH.nil))
  · have HCL2 := Lib.hid (HC1.out Wd _ HP4.out.md)
    go_simp
    refine HCL2.out.mono ?_
    rintro e Wp1 ⟨A1, c1, rfl, hro, hm, hoth, hkp, hbl⟩
    have RO1 := Lib.hid (hro.base HF4.out.bel.size)
    have HBN := Lib.hid (hbl _ _ HF4.out.bel (Nat.le_refl _))
    replace HFS := Lib.hid (HFS.out.trans (Fw.kp HBN.out hkp))
    replace HF4 := Lib.hid (HF4.out.trans (Fw.kp HBN.out hkp))
    replace HP4 := Lib.hid (HP4.out.kp hkp HBN.out hm)
    clear hro hm hoth hkp hbl hHeld HCL2 HC1 HBN
    refine hK.out _ _ (⟨HFS.out, HP4.out.blk, HP4.out.tb⟩) (fun hHeld => ?_)
    clear hK K
    refine wpAnyH_ready (rs := [17]) (by kernel_rfl) (by simp) (AllReadyH.cons (o := { dst := some 7, op := Op.alloc 33, type := 0, pos := "replay.go:100", after := #[], guard := none }) rfl (fun K hK => ?_) AllReadyH.nil)
    go_simp
    have hb : Below Wp1.heap.size Wp1 (Wp1.alloc (.cells #[.int .i64 0, .bool false, .string { data := #[] }, .slice none 0 0] 33)) := (Below.refl _ _).alloc (Nat.le_refl _) _
    have HPA : Hid (w0.heap.size ≤ Wp1.heap.size) := Lib.hid HF4.out.bel.size
    replace HFS := Lib.hid (HFS.out.then hb)
    replace HF4 := Lib.hid (HF4.out.then hb)
    replace HP4 := Lib.hid (HP4.out.later hb)
    replace RO1 := Lib.hid (RO1.out.later hb)
    have KA : Hid (Blk (Wp1.alloc (.cells #[.int .i64 0, .bool false, .string { data := #[] }, .slice none 0 0] 33)) Wp1.heap.size #[.int .i64 0, .bool false, .string { data := #[] }, .slice none 0 0] 33) := Lib.hid (Blk.new Wp1 _ 33)
    clear hb hHeld
    refine hK.out _ _ (⟨HFS.out, HP4.out.blk, HP4.out.tb⟩) (fun hHeld => ?_)
    clear hK K
    generalize Wp1.alloc (.cells #[.int .i64 0, .bool false, .string { data := #[] }, .slice none 0 0] 33) = Wp2 at *
    obtain ⟨pa, hpp⟩ : ∃ z, Wp1.heap.size = z := ⟨_, rfl⟩
    rw [hpp] at KA HPA ⊢
    clear hpp
    refine wpAnyH_ready (rs := [18]) (by kernel_rfl) (by simp) (AllReadyH.cons (o := { dst := none, op := Op.store 33 (Operand.tmp 7) (Operand.tmp 35), type := 0, pos := "replay.go:100", after := #[{ on := 17, ground := Ground.data }, { on := 16, ground := Ground.data }, { on := 16, ground := Ground.chain }, { on := 0, ground := Ground.phase }, { on := 1, ground := Ground.phase }, { on := 2, ground := Ground.phase }, { on := 3, ground := Ground.phase }, { on := 4, ground := Ground.phase }, { on := 5, ground := Ground.phase }, { on := 6, ground := Ground.phase }, { on := 7, ground := Ground.phase }, { on := 8, ground := Ground.phase }, { on := 9, ground := Ground.phase }, { on := 10, ground := Ground.phase }, { on := 11, ground := Ground.phase }, { on := 12, ground := Ground.phase }, { on := 13, ground := Ground.phase }, { on := 14, ground := Ground.phase }, { on := 15, ground := Ground.phase }, { on := 16, ground := Ground.phase }, { on := 17, ground := Ground.phase }], guard := none }) rfl (fun K hK => ?_) AllReadyH.nil)
    refine wp_store_row 33 (.tmp 7) (.tmp 35) rfl pa #[.int .i64 er1, .bool fo1, .string va1, .slice A1 pr1.length c1] rfl rfl 33 #[.int .i64 0, .bool false, .string { data := #[] }, .slice none 0 0] KA.out (by kernel_rfl) rfl (by first | rfl | (simp [Value.oneCell']; done)) ?_
    have HBX := Lib.hid (HP4.out.box (c2 := #[.int .i64 er1, .bool fo1, .string va1, .slice A1 pr1.length c1]) KA.out HPA.out)
    replace RO1 := Lib.hid (ROwn.setRow (c2 := #[.int .i64 er1, .bool fo1, .string va1, .slice A1 pr1.length c1]) RO1.out KA.out (by decide))
    replace HFS := Lib.hid (HFS.out.trans HBX.out.2)
    replace HF4 := Lib.hid (HF4.out.trans HBX.out.2)
    replace HP4 := Lib.hid HBX.out.1
    replace KA : Hid (Blk (Wp2.setRow pa #[.int .i64 er1, .bool fo1, .string va1, .slice A1 pr1.length c1]) pa #[.int .i64 er1, .bool fo1, .string va1, .slice A1 pr1.length c1] 33) := Lib.hid (Blk.setRow_self KA.out)
    clear hHeld HBX
    refine hK.out _ _ (⟨HFS.out, HP4.out.blk, HP4.out.tb⟩) (fun hHeld => ?_)
    clear hK K
    generalize Wp2.setRow pa #[.int .i64 er1, .bool fo1, .string va1, .slice A1 pr1.length c1] = Wp3 at *
    refine wpAnyH_done (by kernel_rfl) (NoPanic.normal ?_) _
    clear hHeld
    have KE4 := Lib.hid (HFS.out.blk _ _ _ KE3.out rfl)
    clear HFS HFX ix KE3 HP3 HF3
    go_upto_region 4 with (fail)
    refine wp_region_noPanic ?_
    obtain ⟨W1, rfl⟩ : ∃ W1 : World, W1 = Wp3 := ⟨_, rfl⟩
    refine wp_region_held_drew (S := fun W => (∃ v, Blk W b #[.pointer (some ⟨x.mp, 0, none⟩), .slice (some ⟨x.tb, 0, none⟩) p3.tasks.length p3.tasks.length, .int .i64 p3.taken, v] 142) ∧ Blk W be #[.int .u8 wh, .int .i64 ta, .int .i64 ca, .int .i64 er, .bool fo, .string va, .slice A m cc] 89 ∧ Blk W pa #[.int .i64 er1, .bool fo1, .string va1, .slice A1 pr1.length c1] 33) (by kernel_rfl) (⟨⟨_, HP4.out.blk⟩, KE4.out, KA.out⟩) (fun hHeld => ?_)
    have hb : Below W1.heap.size W1 (World.drew W1) := Below.drew (Below.refl _ _)
    replace HF4 := Lib.hid (HF4.out.then hb)
    replace HP4 := Lib.hid (HP4.out.later hb)
    replace RO1 := Lib.hid (RO1.out.later hb)
    replace KE4 := Lib.hid (KE4.out.later hb)
    replace KA := Lib.hid (KA.out.later hb)
    clear hb
    obtain ⟨We, hWe⟩ : ∃ z, World.drew W1 = z := ⟨_, rfl⟩
    rw [hWe] at HF4 HP4 RO1 KE4 KA hHeld ⊢
    clear hWe
    refine tkL 0 ?_ rfl rfl ?_ (fun _ _ _ h => h) (by assumption) (by kernel_rfl) ?_
    rotate_left
    · intro W hSw
      clear hSw
      go_simp
      try with_reducible rfl
    simp only [pu_]
    refine tkL 1 ?_ rfl rfl ?_ (fun _ _ _ h => h) (by assumption) (by kernel_rfl) ?_
    rotate_left
    · intro W hSw
      clear hSw
      go_simp
      try with_reducible rfl
    simp only [pu_]
    refine tkL 2 ?_ rfl rfl ?_ (fun _ _ _ h => h) (by assumption) (by kernel_rfl) ?_
    rotate_left
    · intro W hSw
      clear hSw
      go_simp
      try with_reducible rfl
    simp only [pu_]
    refine tkL 3 ?_ rfl rfl ?_ (fun _ _ _ h => h) (by assumption) (by kernel_rfl) ?_
    rotate_left
    · intro W hSw
      clear hSw
      go_simp
      try with_reducible rfl
    simp only [pu_]
    refine tkL 5 ?_ rfl rfl ?_ (fun _ _ _ h => h) (by assumption) (by kernel_rfl) ?_
    rotate_left
    · intro W hSw
      clear hSw
      go_simp
      try with_reducible rfl
    simp only [pu_]
    refine tkL 6 ?_ rfl rfl ?_ (fun _ _ _ h => h) (by assumption) (by kernel_rfl) ?_
    rotate_left
    · intro W hSw
      obtain ⟨⟨v9, hq1⟩, hq2, hq3⟩ := hSw
      have b0 := hq1.cell 0
      have b1 := hq1.cell 1
      have b2 := hq1.cell 2
      have e1 := hq2.cell 1
      have e2 := hq2.cell 2
      have a0 := hq3.cell 0
      have a1 := hq3.cell 1
      have a2 := hq3.cell 2
      have a3 := hq3.cell 3
      simp only [List.getElem?_toArray, List.getElem?_cons_zero, List.getElem?_cons_succ] at b0 b1 b2 e1 e2 a0 a1 a2 a3
      clear hq1 hq2 hq3
      go_simp
      try with_reducible rfl
    simp only [pu_]
    refine tkL 7 ?_ rfl rfl ?_ (fun _ _ _ h => h) (by assumption) (by kernel_rfl) ?_
    rotate_left
    · intro W hSw
      clear hSw
      go_simp
      try with_reducible rfl
    simp only [pu_]
    refine tkL 8 ?_ rfl rfl ?_ (fun _ _ _ h => h) (by assumption) (by kernel_rfl) ?_
    rotate_left
    · intro W hSw
      obtain ⟨⟨v9, hq1⟩, hq2, hq3⟩ := hSw
      have b0 := hq1.cell 0
      have b1 := hq1.cell 1
      have b2 := hq1.cell 2
      have e1 := hq2.cell 1
      have e2 := hq2.cell 2
      have a0 := hq3.cell 0
      have a1 := hq3.cell 1
      have a2 := hq3.cell 2
      have a3 := hq3.cell 3
      simp only [List.getElem?_toArray, List.getElem?_cons_zero, List.getElem?_cons_succ] at b0 b1 b2 e1 e2 a0 a1 a2 a3
      clear hq1 hq2 hq3
      go_simp
      try with_reducible rfl
    simp only [pu_]
    refine tkL 9 ?_ rfl rfl ?_ (fun _ _ _ h => h) (by assumption) (by kernel_rfl) ?_
    rotate_left
    · intro W hSw
      obtain ⟨⟨v9, hq1⟩, hq2, hq3⟩ := hSw
      have b0 := hq1.cell 0
      have b1 := hq1.cell 1
      have b2 := hq1.cell 2
      have e1 := hq2.cell 1
      have e2 := hq2.cell 2
      have a0 := hq3.cell 0
      have a1 := hq3.cell 1
      have a2 := hq3.cell 2
      have a3 := hq3.cell 3
      simp only [List.getElem?_toArray, List.getElem?_cons_zero, List.getElem?_cons_succ] at b0 b1 b2 e1 e2 a0 a1 a2 a3
      clear hq1 hq2 hq3
      go_simp
      try with_reducible rfl
    simp only [pu_]
    refine tkL 10 ?_ rfl rfl ?_ (fun _ _ _ h => h) (by assumption) (by kernel_rfl) ?_
    rotate_left
    · intro W hSw
      clear hSw
      go_simp
      try with_reducible rfl
    simp only [pu_]
    refine tkL 11 ?_ rfl rfl ?_ (fun _ _ _ h => h) (by assumption) (by kernel_rfl) ?_
    rotate_left
    · intro W hSw
      clear hSw
      go_simp
      try with_reducible rfl
    simp only [pu_]
    refine tkL 12 ?_ rfl rfl ?_ (fun _ _ _ h => h) (by assumption) (by kernel_rfl) ?_
    rotate_left
    · intro W hSw
      clear hSw
      go_simp
      try with_reducible rfl
    simp only [pu_]
    refine tkL 13 ?_ rfl rfl ?_ (fun _ _ _ h => h) (by assumption) (by kernel_rfl) ?_
    rotate_left
    · intro W hSw
      obtain ⟨⟨v9, hq1⟩, hq2, hq3⟩ := hSw
      have b0 := hq1.cell 0
      have b1 := hq1.cell 1
      have b2 := hq1.cell 2
      have e1 := hq2.cell 1
      have e2 := hq2.cell 2
      have a0 := hq3.cell 0
      have a1 := hq3.cell 1
      have a2 := hq3.cell 2
      have a3 := hq3.cell 3
      simp only [List.getElem?_toArray, List.getElem?_cons_zero, List.getElem?_cons_succ] at b0 b1 b2 e1 e2 a0 a1 a2 a3
      clear hq1 hq2 hq3
      go_simp
      try with_reducible rfl
    simp only [pu_]
    refine tkL 14 ?_ rfl rfl ?_ (fun _ _ _ h => h) (by assumption) (by kernel_rfl) ?_
    rotate_left
    · intro W hSw
      clear hSw
      go_simp
      try with_reducible rfl
    simp only [pu_]
    refine wpAnyH_ready (rs := [4, 15]) (by kernel_rfl) (by simp) (AllReadyH.cons (o := { dst := some 40, op := Op.load 99 (Operand.tmp 39), type := 99, pos := "replay.go:101", after := #[{ on := 3, ground := Ground.data }], guard := none }) rfl (fun K hK => ?_) (AllReadyH.cons (o := { dst := some 51, op := Op.buildSlice 99 1 #[(0, Operand.tmp 50)], type := 99, pos := "replay.go:101", after := #[{ on := 14, ground := Ground.data }], guard := none }) rfl (fun K hK => ?_) AllReadyH.nil))
    · have q3 := HP4.out.c0 3
      simp only [plC, List.getElem?_cons_succ, List.getElem?_cons_zero] at q3
      go_simp
      clear q3 hHeld
      refine hK.out _ _ (⟨⟨_, HP4.out.blk⟩, KE4.out, KA.out⟩) (fun hHeld => ?_)
      clear hK K
      refine wpAnyH_ready (rs := [15]) (by kernel_rfl) (by simp) (AllReadyH.cons (o := { dst := some 51, op := Op.buildSlice 99 1 #[(0, Operand.tmp 50)], type := 99, pos := "replay.go:101", after := #[{ on := 14, ground := Ground.data }], guard := none }) rfl (fun K hK => ?_) AllReadyH.nil)
      go_simp
      have hb : Below We.heap.size We (We.alloc (.cells #[.int .i64 ta, .int .i64 ca, .int .i64 er1, .bool fo1, .string va1, .slice A1 pr1.length c1, .int .i64 p3.taken, .int .i64 (-1)] 102)) := (Below.refl _ _).alloc (Nat.le_refl _) _
      have KV : Hid (Blk (We.alloc (.cells #[.int .i64 ta, .int .i64 ca, .int .i64 er1, .bool fo1, .string va1, .slice A1 pr1.length c1, .int .i64 p3.taken, .int .i64 (-1)] 102)) We.heap.size (dnE ((⟨ta, ca, (er1, fo1, va1, pr1), p3.taken, -1⟩ : Dn), (A1, c1))).toArray 102) := Lib.hid (Blk.new We _ 102)
      replace HF4 := Lib.hid (HF4.out.then hb)
      replace HP4 := Lib.hid (HP4.out.later hb)
      replace RO1 := Lib.hid (RO1.out.later hb)
      replace KE4 := Lib.hid (KE4.out.later hb)
      replace KA := Lib.hid (KA.out.later hb)
      clear hb hHeld
      refine hK.out _ _ (⟨⟨_, HP4.out.blk⟩, KE4.out, KA.out⟩) (fun hHeld => ?_)
      clear hK K
      generalize We.alloc (.cells #[.int .i64 ta, .int .i64 ca, .int .i64 er1, .bool fo1, .string va1, .slice A1 pr1.length c1, .int .i64 p3.taken, .int .i64 (-1)] 102) = Wf at *
      obtain ⟨qv, hqv⟩ : ∃ z, We.heap.size = z := ⟨_, rfl⟩
      rw [hqv] at KV ⊢
      clear hqv
      refine wpAnyH_ready (rs := [16]) (by kernel_rfl) (by simp) (AllReadyH.cons (o := { dst := some 52, op := Op.call { callee := Callee.builtin Builtin.append, args := #[Operand.tmp 40, Operand.tmp 51], argTypes := #[99, 99] }, type := 99, pos := "replay.go:101", after := #[{ on := 4, ground := Ground.data }, { on := 15, ground := Ground.data }], guard := none }) rfl (fun K hK => ?_) AllReadyH.nil)
      refine wp_append_row1 elemD (.tmp 40) (.tmp 51) rfl w0.heap.size (.slice x.dA p3.done.length x.dc) p3.done.length (p3.done.zip x.dh) rfl HP4.out.dn qv 1 ((⟨ta, ca, (er1, fo1, va1, pr1), p3.taken, -1⟩ : Dn), (A1, c1)) rfl KV.out.rsl (by have := HDL.out; have := HPE.out.2.2.2; rw [this]; omega) (by decide) HF4.out.bel.size ?_
      intro A6 c6 w6 ho6 hg6 hn6 _
      have HB6 : Hid (Blk w6 b #[.pointer (some ⟨x.mp, 0, none⟩), .slice (some ⟨x.tb, 0, none⟩) p3.tasks.length p3.tasks.length, .int .i64 p3.taken, .slice x.dA p3.done.length x.dc] 142) := Lib.hid ((neT HP4.out.dn hg6 HP4.out.blk (by decide)).trans HP4.out.blk)
      have KE6 : Hid (Blk w6 be #[.int .u8 wh, .int .i64 ta, .int .i64 ca, .int .i64 er, .bool fo, .string va, .slice A m cc] 89) := Lib.hid ((neT HP4.out.dn hg6 KE4.out (by decide)).trans KE4.out)
      have KA6 : Hid (Blk w6 pa #[.int .i64 er1, .bool fo1, .string va1, .slice A1 pr1.length c1] 33) := Lib.hid ((neT HP4.out.dn hg6 KA.out (by decide)).trans KA.out)
      have HM := Lib.hid (HP4.out.more (d := ⟨ta, ca, (er1, fo1, va1, pr1), p3.taken, -1⟩) (y := (A1, c1)) ho6 hg6 RO1.out)
      have HFM := Lib.hid (HF4.out.trans HM.out.2)
      have HPM := Lib.hid HM.out.1
      clear ho6 hg6 hn6 HM KV RO1 KE4 KA HP4 HF4 hHeld
      refine hK.out _ _ (⟨⟨_, HB6.out⟩, KE6.out, KA6.out⟩) (fun hHeld => ?_)
      clear hK K
      refine tkL 17 ?_ rfl rfl ?_ (fun _ _ _ h => h) (by assumption) (by kernel_rfl) ?_
      rotate_left
      · intro W hSw
        clear hSw
        go_simp
        try with_reducible rfl
      simp only [pu_]
      refine tkL 18 ?_ rfl rfl ?_ (fun _ _ _ h => h) (by assumption) (by kernel_rfl) ?_
      rotate_left
      · intro W hSw
        clear hSw
        go_simp
        try with_reducible rfl
      simp only [pu_]
      refine wpAnyH_ready (rs := [19]) (by kernel_rfl) (by simp) (AllReadyH.cons (o := { dst := none, op := Op.store 99 (Operand.tmp 54) (Operand.tmp 52), type := 0, pos := "replay.go:101", after := #[{ on := 18, ground := Ground.data }, { on := 16, ground := Ground.data }, { on := 16, ground := Ground.chain }, { on := 0, ground := Ground.phase }, { on := 1, ground := Ground.phase }, { on := 2, ground := Ground.phase }, { on := 3, ground := Ground.phase }, { on := 4, ground := Ground.phase }, { on := 5, ground := Ground.phase }, { on := 6, ground := Ground.phase }, { on := 7, ground := Ground.phase }, { on := 8, ground := Ground.phase }, { on := 9, ground := Ground.phase }, { on := 10, ground := Ground.phase }, { on := 11, ground := Ground.phase }, { on := 12, ground := Ground.phase }, { on := 13, ground := Ground.phase }, { on := 14, ground := Ground.phase }, { on := 15, ground := Ground.phase }, { on := 16, ground := Ground.phase }], guard := none }) rfl (fun K hK => ?_) AllReadyH.nil)
      have f3 := HB6.out.frozen 3
      have z3 := HB6.out.cell 3
      simp only [List.getElem?_toArray, List.getElem?_cons_succ, List.getElem?_cons_zero] at z3
      go_simp
      clear f3 z3 hHeld
      refine hK.out _ _ (⟨⟨_, HB6.out.set (j := 3) _⟩, KE6.out.other (neBlk KE6.out HB6.out (by decide)) _, KA6.out.other (neBlk KA6.out HB6.out (by decide)) _⟩) (fun hHeld => ?_)
      clear hK K
      refine wpAnyH_done (by kernel_rfl) (NoPanic.normal ?_) _
      clear hHeld HB6 KE6 KA6
      generalize w6.setCell ⟨b, 3, none⟩ (.slice A6 (p3.done.length + 1) c6) = w7 at *
      obtain ⟨h1, h2, h3, h4⟩ := HPE.out
      have HPZ := HPM.out
      simp only [h2, h3, h4] at HPZ
      have HPY := Lib.hid HPZ
      clear HPZ h1 h2 h3 h4
      go_wp2
      go_ret
      exact ⟨rfl, HFM.out, _, HPY.out⟩
    · go_simp
      have hb : Below We.heap.size We (We.alloc (.cells #[.int .i64 ta, .int .i64 ca, .int .i64 er1, .bool fo1, .string va1, .slice A1 pr1.length c1, .int .i64 p3.taken, .int .i64 (-1)] 102)) := (Below.refl _ _).alloc (Nat.le_refl _) _
      have KV : Hid (Blk (We.alloc (.cells #[.int .i64 ta, .int .i64 ca, .int .i64 er1, .bool fo1, .string va1, .slice A1 pr1.length c1, .int .i64 p3.taken, .int .i64 (-1)] 102)) We.heap.size (dnE ((⟨ta, ca, (er1, fo1, va1, pr1), p3.taken, -1⟩ : Dn), (A1, c1))).toArray 102) := Lib.hid (Blk.new We _ 102)
      replace HF4 := Lib.hid (HF4.out.then hb)
      replace HP4 := Lib.hid (HP4.out.later hb)
      replace RO1 := Lib.hid (RO1.out.later hb)
      replace KE4 := Lib.hid (KE4.out.later hb)
      replace KA := Lib.hid (KA.out.later hb)
      clear hb hHeld
      refine hK.out _ _ (⟨⟨_, HP4.out.blk⟩, KE4.out, KA.out⟩) (fun hHeld => ?_)
      clear hK K
      generalize We.alloc (.cells #[.int .i64 ta, .int .i64 ca, .int .i64 er1, .bool fo1, .string va1, .slice A1 pr1.length c1, .int .i64 p3.taken, .int .i64 (-1)] 102) = Wf at *
      obtain ⟨qv, hqv⟩ : ∃ z, We.heap.size = z := ⟨_, rfl⟩
      rw [hqv] at KV ⊢
      clear hqv
      refine wpAnyH_ready (rs := [4]) (by kernel_rfl) (by simp) (AllReadyH.cons (o := { dst := some 40, op := Op.load 99 (Operand.tmp 39), type := 99, pos := "replay.go:101", after := #[{ on := 3, ground := Ground.data }], guard := none }) rfl (fun K hK => ?_) AllReadyH.nil)
      have q3 := HP4.out.c0 3
      simp only [plC, List.getElem?_cons_succ, List.getElem?_cons_zero] at q3
      go_simp
      clear q3 hHeld
      refine hK.out _ _ (⟨⟨_, HP4.out.blk⟩, KE4.out, KA.out⟩) (fun hHeld => ?_)
      clear hK K
      refine wpAnyH_ready (rs := [16]) (by kernel_rfl) (by simp) (AllReadyH.cons (o := { dst := some 52, op := Op.call { callee := Callee.builtin Builtin.append, args := #[Operand.tmp 40, Operand.tmp 51], argTypes := #[99, 99] }, type := 99, pos := "replay.go:101", after := #[{ on := 4, ground := Ground.data }, { on := 15, ground := Ground.data }], guard := none }) rfl (fun K hK => ?_) AllReadyH.nil)
      refine wp_append_row1 elemD (.tmp 40) (.tmp 51) rfl w0.heap.size (.slice x.dA p3.done.length x.dc) p3.done.length (p3.done.zip x.dh) rfl HP4.out.dn qv 1 ((⟨ta, ca, (er1, fo1, va1, pr1), p3.taken, -1⟩ : Dn), (A1, c1)) rfl KV.out.rsl (by have := HDL.out; have := HPE.out.2.2.2; rw [this]; omega) (by decide) HF4.out.bel.size ?_
      intro A6 c6 w6 ho6 hg6 hn6 _
      have HB6 : Hid (Blk w6 b #[.pointer (some ⟨x.mp, 0, none⟩), .slice (some ⟨x.tb, 0, none⟩) p3.tasks.length p3.tasks.length, .int .i64 p3.taken, .slice x.dA p3.done.length x.dc] 142) := Lib.hid ((neT HP4.out.dn hg6 HP4.out.blk (by decide)).trans HP4.out.blk)
      have KE6 : Hid (Blk w6 be #[.int .u8 wh, .int .i64 ta, .int .i64 ca, .int .i64 er, .bool fo, .string va, .slice A m cc] 89) := Lib.hid ((neT HP4.out.dn hg6 KE4.out (by decide)).trans KE4.out)
      have KA6 : Hid (Blk w6 pa #[.int .i64 er1, .bool fo1, .string va1, .slice A1 pr1.length c1] 33) := Lib.hid ((neT HP4.out.dn hg6 KA.out (by decide)).trans KA.out)
      have HM := Lib.hid (HP4.out.more (d := ⟨ta, ca, (er1, fo1, va1, pr1), p3.taken, -1⟩) (y := (A1, c1)) ho6 hg6 RO1.out)
      have HFM := Lib.hid (HF4.out.trans HM.out.2)
      have HPM := Lib.hid HM.out.1
      clear ho6 hg6 hn6 HM KV RO1 KE4 KA HP4 HF4 hHeld
      refine hK.out _ _ (⟨⟨_, HB6.out⟩, KE6.out, KA6.out⟩) (fun hHeld => ?_)
      clear hK K
      refine tkL 17 ?_ rfl rfl ?_ (fun _ _ _ h => h) (by assumption) (by kernel_rfl) ?_
      rotate_left
      · intro W hSw
        clear hSw
        go_simp
        try with_reducible rfl
      simp only [pu_]
      refine tkL 18 ?_ rfl rfl ?_ (fun _ _ _ h => h) (by assumption) (by kernel_rfl) ?_
      rotate_left
      · intro W hSw
        clear hSw
        go_simp
        try with_reducible rfl
      simp only [pu_]
      refine wpAnyH_ready (rs := [19]) (by kernel_rfl) (by simp) (AllReadyH.cons (o := { dst := none, op := Op.store 99 (Operand.tmp 54) (Operand.tmp 52), type := 0, pos := "replay.go:101", after := #[{ on := 18, ground := Ground.data }, { on := 16, ground := Ground.data }, { on := 16, ground := Ground.chain }, { on := 0, ground := Ground.phase }, { on := 1, ground := Ground.phase }, { on := 2, ground := Ground.phase }, { on := 3, ground := Ground.phase }, { on := 4, ground := Ground.phase }, { on := 5, ground := Ground.phase }, { on := 6, ground := Ground.phase }, { on := 7, ground := Ground.phase }, { on := 8, ground := Ground.phase }, { on := 9, ground := Ground.phase }, { on := 10, ground := Ground.phase }, { on := 11, ground := Ground.phase }, { on := 12, ground := Ground.phase }, { on := 13, ground := Ground.phase }, { on := 14, ground := Ground.phase }, { on := 15, ground := Ground.phase }, { on := 16, ground := Ground.phase }], guard := none }) rfl (fun K hK => ?_) AllReadyH.nil)
      have f3 := HB6.out.frozen 3
      have z3 := HB6.out.cell 3
      simp only [List.getElem?_toArray, List.getElem?_cons_succ, List.getElem?_cons_zero] at z3
      go_simp
      clear f3 z3 hHeld
      refine hK.out _ _ (⟨⟨_, HB6.out.set (j := 3) _⟩, KE6.out.other (neBlk KE6.out HB6.out (by decide)) _, KA6.out.other (neBlk KA6.out HB6.out (by decide)) _⟩) (fun hHeld => ?_)
      clear hK K
      refine wpAnyH_done (by kernel_rfl) (NoPanic.normal ?_) _
      clear hHeld HB6 KE6 KA6
      generalize w6.setCell ⟨b, 3, none⟩ (.slice A6 (p3.done.length + 1) c6) = w7 at *
      obtain ⟨h1, h2, h3, h4⟩ := HPE.out
      have HPZ := HPM.out
      simp only [h2, h3, h4] at HPZ
      have HPY := Lib.hid HPZ
      clear HPZ h1 h2 h3 h4
      go_wp2
      go_ret
      exact ⟨rfl, HFM.out, _, HPY.out⟩
  · go_simp
    have hb : Below Wd.heap.size Wd (Wd.alloc (.cells #[.int .i64 0, .bool false, .string { data := #[] }, .slice none 0 0] 33)) := (Below.refl _ _).alloc (Nat.le_refl _) _
    have HPA : Hid (w0.heap.size ≤ Wd.heap.size) := Lib.hid HF4.out.bel.size
    replace HFS := Lib.hid (HFS.out.then hb)
    replace HF4 := Lib.hid (HF4.out.then hb)
    replace HP4 := Lib.hid (HP4.out.later hb)
    have KA : Hid (Blk (Wd.alloc (.cells #[.int .i64 0, .bool false, .string { data := #[] }, .slice none 0 0] 33)) Wd.heap.size #[.int .i64 0, .bool false, .string { data := #[] }, .slice none 0 0] 33) := Lib.hid (Blk.new Wd _ 33)
    clear hb hHeld
    refine hK.out _ _ (⟨HFS.out, HP4.out.blk, HP4.out.tb⟩) (fun hHeld => ?_)
    clear hK K
    generalize Wd.alloc (.cells #[.int .i64 0, .bool false, .string { data := #[] }, .slice none 0 0] 33) = Wp4 at *
    obtain ⟨pa, hpp⟩ : ∃ z, Wd.heap.size = z := ⟨_, rfl⟩
    rw [hpp] at KA HPA ⊢
    clear hpp
    refine wpAnyH_ready (rs := [16]) (by kernel_rfl) (by simp) (AllReadyH.cons (o := { dst := some 35, op := Op.call { callee := Callee.value (Operand.func 18), args := #[Operand.tmp 22, Operand.tmp 24, Operand.tmp 34], argTypes := #[22, 3, 36] }, type := 33, pos := "replay.go:100", after := #[{ on := 3, ground := Ground.data }, { on := 5, ground := Ground.data }, { on := 15, ground := Ground.data }], guard := none }) rfl (fun K hK => ?_) AllReadyH.nil)
    have HCL2 := Lib.hid (HC1.out Wp4 _ HP4.out.md)
    go_simp
    refine HCL2.out.mono ?_
    rintro e Wp5 ⟨A1, c1, rfl, hro, hm, hoth, hkp, hbl⟩
    have RO1 := Lib.hid (hro.base HF4.out.bel.size)
    have HBN := Lib.hid (hbl _ _ HF4.out.bel (Nat.le_refl _))
    replace HFS := Lib.hid (HFS.out.trans (Fw.kp HBN.out hkp))
    replace HF4 := Lib.hid (HF4.out.trans (Fw.kp HBN.out hkp))
    replace HP4 := Lib.hid (HP4.out.kp hkp HBN.out hm)
    replace KA := Lib.hid (hkp.blk _ _ _ KA.out (by decide) (by decide) (by decide) (by decide))
    clear hro hm hoth hkp hbl hHeld HCL2 HC1 HBN
    refine hK.out _ _ (⟨HFS.out, HP4.out.blk, HP4.out.tb⟩) (fun hHeld => ?_)
    clear hK K
    refine wpAnyH_ready (rs := [18]) (by kernel_rfl) (by simp) (AllReadyH.cons (o := { dst := none, op := Op.store 33 (Operand.tmp 7) (Operand.tmp 35), type := 0, pos := "replay.go:100", after := #[{ on := 17, ground := Ground.data }, { on := 16, ground := Ground.data }, { on := 16, ground := Ground.chain }, { on := 0, ground := Ground.phase }, { on := 1, ground := Ground.phase }, { on := 2, ground := Ground.phase }, { on := 3, ground := Ground.phase }, { on := 4, ground := Ground.phase }, { on := 5, ground := Ground.phase }, { on := 6, ground := Ground.phase }, { on := 7, ground := Ground.phase }, { on := 8, ground := Ground.phase }, { on := 9, ground := Ground.phase }, { on := 10, ground := Ground.phase }, { on := 11, ground := Ground.phase }, { on := 12, ground := Ground.phase }, { on := 13, ground := Ground.phase }, { on := 14, ground := Ground.phase }, { on := 15, ground := Ground.phase }, { on := 16, ground := Ground.phase }, { on := 17, ground := Ground.phase }], guard := none }) rfl (fun K hK => ?_) AllReadyH.nil)
    refine wp_store_row 33 (.tmp 7) (.tmp 35) rfl pa #[.int .i64 er1, .bool fo1, .string va1, .slice A1 pr1.length c1] rfl rfl 33 #[.int .i64 0, .bool false, .string { data := #[] }, .slice none 0 0] KA.out (by kernel_rfl) rfl (by first | rfl | (simp [Value.oneCell']; done)) ?_
    have HBX := Lib.hid (HP4.out.box (c2 := #[.int .i64 er1, .bool fo1, .string va1, .slice A1 pr1.length c1]) KA.out HPA.out)
    replace RO1 := Lib.hid (ROwn.setRow (c2 := #[.int .i64 er1, .bool fo1, .string va1, .slice A1 pr1.length c1]) RO1.out KA.out (by decide))
    replace HFS := Lib.hid (HFS.out.trans HBX.out.2)
    replace HF4 := Lib.hid (HF4.out.trans HBX.out.2)
    replace HP4 := Lib.hid HBX.out.1
    replace KA : Hid (Blk (Wp5.setRow pa #[.int .i64 er1, .bool fo1, .string va1, .slice A1 pr1.length c1]) pa #[.int .i64 er1, .bool fo1, .string va1, .slice A1 pr1.length c1] 33) := Lib.hid (Blk.setRow_self KA.out)
    clear hHeld HBX
    refine hK.out _ _ (⟨HFS.out, HP4.out.blk, HP4.out.tb⟩) (fun hHeld => ?_)
    clear hK K
    generalize Wp5.setRow pa #[.int .i64 er1, .bool fo1, .string va1, .slice A1 pr1.length c1] = Wp6 at *
    refine wpAnyH_done (by kernel_rfl) (NoPanic.normal ?_) _
    clear hHeld
    have KE4 := Lib.hid (HFS.out.blk _ _ _ KE3.out rfl)
    clear HFS HFX ix KE3 HP3 HF3
    go_upto_region 4 with (fail)
    refine wp_region_noPanic ?_
    obtain ⟨W1, rfl⟩ : ∃ W1 : World, W1 = Wp6 := ⟨_, rfl⟩
    refine wp_region_held_drew (S := fun W => (∃ v, Blk W b #[.pointer (some ⟨x.mp, 0, none⟩), .slice (some ⟨x.tb, 0, none⟩) p3.tasks.length p3.tasks.length, .int .i64 p3.taken, v] 142) ∧ Blk W be #[.int .u8 wh, .int .i64 ta, .int .i64 ca, .int .i64 er, .bool fo, .string va, .slice A m cc] 89 ∧ Blk W pa #[.int .i64 er1, .bool fo1, .string va1, .slice A1 pr1.length c1] 33) (by kernel_rfl) (⟨⟨_, HP4.out.blk⟩, KE4.out, KA.out⟩) (fun hHeld => ?_)
    have hb : Below W1.heap.size W1 (World.drew W1) := Below.drew (Below.refl _ _)
    replace HF4 := Lib.hid (HF4.out.then hb)
    replace HP4 := Lib.hid (HP4.out.later hb)
    replace RO1 := Lib.hid (RO1.out.later hb)
    replace KE4 := Lib.hid (KE4.out.later hb)
    replace KA := Lib.hid (KA.out.later hb)
    clear hb
    obtain ⟨We, hWe⟩ : ∃ z, World.drew W1 = z := ⟨_, rfl⟩
    rw [hWe] at HF4 HP4 RO1 KE4 KA hHeld ⊢
    clear hWe
    refine tkL 0 ?_ rfl rfl ?_ (fun _ _ _ h => h) (by assumption) (by kernel_rfl) ?_
    rotate_left
    · intro W hSw
      clear hSw
      go_simp
      try with_reducible rfl
    simp only [pu_]
    refine tkL 1 ?_ rfl rfl ?_ (fun _ _ _ h => h) (by assumption) (by kernel_rfl) ?_
    rotate_left
    · intro W hSw
      clear hSw
      go_simp
      try with_reducible rfl
    simp only [pu_]
    refine tkL 2 ?_ rfl rfl ?_ (fun _ _ _ h => h) (by assumption) (by kernel_rfl) ?_
    rotate_left
    · intro W hSw
      clear hSw
      go_simp
      try with_reducible rfl
    simp only [pu_]
    refine tkL 3 ?_ rfl rfl ?_ (fun _ _ _ h => h) (by assumption) (by kernel_rfl) ?_
    rotate_left
    · intro W hSw
      clear hSw
      go_simp
      try with_reducible rfl
    simp only [pu_]
    refine tkL 5 ?_ rfl rfl ?_ (fun _ _ _ h => h) (by assumption) (by kernel_rfl) ?_
    rotate_left
    · intro W hSw
      clear hSw
      go_simp
      try with_reducible rfl
    simp only [pu_]
    refine tkL 6 ?_ rfl rfl ?_ (fun _ _ _ h => h) (by assumption) (by kernel_rfl) ?_
    rotate_left
    · intro W hSw
      obtain ⟨⟨v9, hq1⟩, hq2, hq3⟩ := hSw
      have b0 := hq1.cell 0
      have b1 := hq1.cell 1
      have b2 := hq1.cell 2
      have e1 := hq2.cell 1
      have e2 := hq2.cell 2
      have a0 := hq3.cell 0
      have a1 := hq3.cell 1
      have a2 := hq3.cell 2
      have a3 := hq3.cell 3
      simp only [List.getElem?_toArray, List.getElem?_cons_zero, List.getElem?_cons_succ] at b0 b1 b2 e1 e2 a0 a1 a2 a3
      clear hq1 hq2 hq3
      go_simp
      try with_reducible rfl
    simp only [pu_]
    refine tkL 7 ?_ rfl rfl ?_ (fun _ _ _ h => h) (by assumption) (by kernel_rfl) ?_
    rotate_left
    · intro W hSw
      clear hSw
      go_simp
      try with_reducible rfl
    simp only [pu_]
    refine tkL 8 ?_ rfl rfl ?_ (fun _ _ _ h => h) (by assumption) (by kernel_rfl) ?_
    rotate_left
    · intro W hSw
      obtain ⟨⟨v9, hq1⟩, hq2, hq3⟩ := hSw
      have b0 := hq1.cell 0
      have b1 := hq1.cell 1
      have b2 := hq1.cell 2
      have e1 := hq2.cell 1
      have e2 := hq2.cell 2
      have a0 := hq3.cell 0
      have a1 := hq3.cell 1
      have a2 := hq3.cell 2
      have a3 := hq3.cell 3
      simp only [List.getElem?_toArray, List.getElem?_cons_zero, List.getElem?_cons_succ] at b0 b1 b2 e1 e2 a0 a1 a2 a3
      clear hq1 hq2 hq3
      go_simp
      try with_reducible rfl
    simp only [pu_]
    refine tkL 9 ?_ rfl rfl ?_ (fun _ _ _ h => h) (by assumption) (by kernel_rfl) ?_
    rotate_left
    · intro W hSw
      obtain ⟨⟨v9, hq1⟩, hq2, hq3⟩ := hSw
      have b0 := hq1.cell 0
      have b1 := hq1.cell 1
      have b2 := hq1.cell 2
      have e1 := hq2.cell 1
      have e2 := hq2.cell 2
      have a0 := hq3.cell 0
      have a1 := hq3.cell 1
      have a2 := hq3.cell 2
      have a3 := hq3.cell 3
      simp only [List.getElem?_toArray, List.getElem?_cons_zero, List.getElem?_cons_succ] at b0 b1 b2 e1 e2 a0 a1 a2 a3
      clear hq1 hq2 hq3
      go_simp
      try with_reducible rfl
    simp only [pu_]
    refine tkL 10 ?_ rfl rfl ?_ (fun _ _ _ h => h) (by assumption) (by kernel_rfl) ?_
    rotate_left
    · intro W hSw
      clear hSw
      go_simp
      try with_reducible rfl
    simp only [pu_]
    refine tkL 11 ?_ rfl rfl ?_ (fun _ _ _ h => h) (by assumption) (by kernel_rfl) ?_
    rotate_left
    · intro W hSw
      clear hSw
      go_simp
      try with_reducible rfl
    simp only [pu_]
    refine tkL 12 ?_ rfl rfl ?_ (fun _ _ _ h => h) (by assumption) (by kernel_rfl) ?_
    rotate_left
    · intro W hSw
      clear hSw
      go_simp
      try with_reducible rfl
    simp only [pu_]
    refine tkL 13 ?_ rfl rfl ?_ (fun _ _ _ h => h) (by assumption) (by kernel_rfl) ?_
    rotate_left
    · intro W hSw
      obtain ⟨⟨v9, hq1⟩, hq2, hq3⟩ := hSw
      have b0 := hq1.cell 0
      have b1 := hq1.cell 1
      have b2 := hq1.cell 2
      have e1 := hq2.cell 1
      have e2 := hq2.cell 2
      have a0 := hq3.cell 0
      have a1 := hq3.cell 1
      have a2 := hq3.cell 2
      have a3 := hq3.cell 3
      simp only [List.getElem?_toArray, List.getElem?_cons_zero, List.getElem?_cons_succ] at b0 b1 b2 e1 e2 a0 a1 a2 a3
      clear hq1 hq2 hq3
      go_simp
      try with_reducible rfl
    simp only [pu_]
    refine tkL 14 ?_ rfl rfl ?_ (fun _ _ _ h => h) (by assumption) (by kernel_rfl) ?_
    rotate_left
    · intro W hSw
      clear hSw
      go_simp
      try with_reducible rfl
    simp only [pu_]
    refine wpAnyH_ready (rs := [4, 15]) (by kernel_rfl) (by simp) (AllReadyH.cons (o := { dst := some 40, op := Op.load 99 (Operand.tmp 39), type := 99, pos := "replay.go:101", after := #[{ on := 3, ground := Ground.data }], guard := none }) rfl (fun K hK => ?_) (AllReadyH.cons (o := { dst := some 51, op := Op.buildSlice 99 1 #[(0, Operand.tmp 50)], type := 99, pos := "replay.go:101", after := #[{ on := 14, ground := Ground.data }], guard := none }) rfl (fun K hK => ?_) AllReadyH.nil))
    · have q3 := HP4.out.c0 3
      simp only [plC, List.getElem?_cons_succ, List.getElem?_cons_zero] at q3
      go_simp
      clear q3 hHeld
      refine hK.out _ _ (⟨⟨_, HP4.out.blk⟩, KE4.out, KA.out⟩) (fun hHeld => ?_)
      clear hK K
      refine wpAnyH_ready (rs := [15]) (by kernel_rfl) (by simp) (AllReadyH.cons (o := { dst := some 51, op := Op.buildSlice 99 1 #[(0, Operand.tmp 50)], type := 99, pos := "replay.go:101", after := #[{ on := 14, ground := Ground.data }], guard := none }) rfl (fun K hK => ?_) AllReadyH.nil)
      go_simp
      have hb : Below We.heap.size We (We.alloc (.cells #[.int .i64 ta, .int .i64 ca, .int .i64 er1, .bool fo1, .string va1, .slice A1 pr1.length c1, .int .i64 p3.taken, .int .i64 (-1)] 102)) := (Below.refl _ _).alloc (Nat.le_refl _) _
      have KV : Hid (Blk (We.alloc (.cells #[.int .i64 ta, .int .i64 ca, .int .i64 er1, .bool fo1, .string va1, .slice A1 pr1.length c1, .int .i64 p3.taken, .int .i64 (-1)] 102)) We.heap.size (dnE ((⟨ta, ca, (er1, fo1, va1, pr1), p3.taken, -1⟩ : Dn), (A1, c1))).toArray 102) := Lib.hid (Blk.new We _ 102)
      replace HF4 := Lib.hid (HF4.out.then hb)
      replace HP4 := Lib.hid (HP4.out.later hb)
      replace RO1 := Lib.hid (RO1.out.later hb)
      replace KE4 := Lib.hid (KE4.out.later hb)
      replace KA := Lib.hid (KA.out.later hb)
      clear hb hHeld
      refine hK.out _ _ (⟨⟨_, HP4.out.blk⟩, KE4.out, KA.out⟩) (fun hHeld => ?_)
      clear hK K
      generalize We.alloc (.cells #[.int .i64 ta, .int .i64 ca, .int .i64 er1, .bool fo1, .string va1, .slice A1 pr1.length c1, .int .i64 p3.taken, .int .i64 (-1)] 102) = Wf at *
      obtain ⟨qv, hqv⟩ : ∃ z, We.heap.size = z := ⟨_, rfl⟩
      rw [hqv] at KV ⊢
      clear hqv
      refine wpAnyH_ready (rs := [16]) (by kernel_rfl) (by simp) (AllReadyH.cons (o := { dst := some 52, op := Op.call { callee := Callee.builtin Builtin.append, args := #[Operand.tmp 40, Operand.tmp 51], argTypes := #[99, 99] }, type := 99, pos := "replay.go:101", after := #[{ on := 4, ground := Ground.data }, { on := 15, ground := Ground.data }], guard := none }) rfl (fun K hK => ?_) AllReadyH.nil)
      refine wp_append_row1 elemD (.tmp 40) (.tmp 51) rfl w0.heap.size (.slice x.dA p3.done.length x.dc) p3.done.length (p3.done.zip x.dh) rfl HP4.out.dn qv 1 ((⟨ta, ca, (er1, fo1, va1, pr1), p3.taken, -1⟩ : Dn), (A1, c1)) rfl KV.out.rsl (by have := HDL.out; have := HPE.out.2.2.2; rw [this]; omega) (by decide) HF4.out.bel.size ?_
      intro A6 c6 w6 ho6 hg6 hn6 _
      have HB6 : Hid (Blk w6 b #[.pointer (some ⟨x.mp, 0, none⟩), .slice (some ⟨x.tb, 0, none⟩) p3.tasks.length p3.tasks.length, .int .i64 p3.taken, .slice x.dA p3.done.length x.dc] 142) := Lib.hid ((neT HP4.out.dn hg6 HP4.out.blk (by decide)).trans HP4.out.blk)
      have KE6 : Hid (Blk w6 be #[.int .u8 wh, .int .i64 ta, .int .i64 ca, .int .i64 er, .bool fo, .string va, .slice A m cc] 89) := Lib.hid ((neT HP4.out.dn hg6 KE4.out (by decide)).trans KE4.out)
      have KA6 : Hid (Blk w6 pa #[.int .i64 er1, .bool fo1, .string va1, .slice A1 pr1.length c1] 33) := Lib.hid ((neT HP4.out.dn hg6 KA.out (by decide)).trans KA.out)
      have HM := Lib.hid (HP4.out.more (d := ⟨ta, ca, (er1, fo1, va1, pr1), p3.taken, -1⟩) (y := (A1, c1)) ho6 hg6 RO1.out)
      have HFM := Lib.hid (HF4.out.trans HM.out.2)
      have HPM := Lib.hid HM.out.1
      clear ho6 hg6 hn6 HM KV RO1 KE4 KA HP4 HF4 hHeld
      refine hK.out _ _ (⟨⟨_, HB6.out⟩, KE6.out, KA6.out⟩) (fun hHeld => ?_)
      clear hK K
      refine tkL 17 ?_ rfl rfl ?_ (fun _ _ _ h => h) (by assumption) (by kernel_rfl) ?_
      rotate_left
      · intro W hSw
        clear hSw
        go_simp
        try with_reducible rfl
      simp only [pu_]
      refine tkL 18 ?_ rfl rfl ?_ (fun _ _ _ h => h) (by assumption) (by kernel_rfl) ?_
      rotate_left
      · intro W hSw
        clear hSw
        go_simp
        try with_reducible rfl
      simp only [pu_]
      refine wpAnyH_ready (rs := [19]) (by kernel_rfl) (by simp) (AllReadyH.cons (o := { dst := none, op := Op.store 99 (Operand.tmp 54) (Operand.tmp 52), type := 0, pos := "replay.go:101", after := #[{ on := 18, ground := Ground.data }, { on := 16, ground := Ground.data }, { on := 16, ground := Ground.chain }, { on := 0, ground := Ground.phase }, { on := 1, ground := Ground.phase }, { on := 2, ground := Ground.phase }, { on := 3, ground := Ground.phase }, { on := 4, ground := Ground.phase }, { on := 5, ground := Ground.phase }, { on := 6, ground := Ground.phase }, { on := 7, ground := Ground.phase }, { on := 8, ground := Ground.phase }, { on := 9, ground := Ground.phase }, { on := 10, ground := Ground.phase }, { on := 11, ground := Ground.phase }, { on := 12, ground := Ground.phase }, { on := 13, ground := Ground.phase }, { on := 14, ground := Ground.phase }, { on := 15, ground := Ground.phase }, { on := 16, ground := Ground.phase }], guard := none }) rfl (fun K hK => ?_) AllReadyH.nil)
      have f3 := HB6.out.frozen 3
      have z3 := HB6.out.cell 3
      simp only [List.getElem?_toArray, List.getElem?_cons_succ, List.getElem?_cons_zero] at z3
      go_simp
      clear f3 z3 hHeld
      refine hK.out _ _ (⟨⟨_, HB6.out.set (j := 3) _⟩, KE6.out.other (neBlk KE6.out HB6.out (by decide)) _, KA6.out.other (neBlk KA6.out HB6.out (by decide)) _⟩) (fun hHeld => ?_)
      clear hK K
      refine wpAnyH_done (by kernel_rfl) (NoPanic.normal ?_) _
      clear hHeld HB6 KE6 KA6
      generalize w6.setCell ⟨b, 3, none⟩ (.slice A6 (p3.done.length + 1) c6) = w7 at *
      obtain ⟨h1, h2, h3, h4⟩ := HPE.out
      have HPZ := HPM.out
      simp only [h2, h3, h4] at HPZ
      have HPY := Lib.hid HPZ
      clear HPZ h1 h2 h3 h4
      go_wp2
      go_ret
      exact ⟨rfl, HFM.out, _, HPY.out⟩
    · go_simp
      have hb : Below We.heap.size We (We.alloc (.cells #[.int .i64 ta, .int .i64 ca, .int .i64 er1, .bool fo1, .string va1, .slice A1 pr1.length c1, .int .i64 p3.taken, .int .i64 (-1)] 102)) := (Below.refl _ _).alloc (Nat.le_refl _) _
      have KV : Hid (Blk (We.alloc (.cells #[.int .i64 ta, .int .i64 ca, .int .i64 er1, .bool fo1, .string va1, .slice A1 pr1.length c1, .int .i64 p3.taken, .int .i64 (-1)] 102)) We.heap.size (dnE ((⟨ta, ca, (er1, fo1, va1, pr1), p3.taken, -1⟩ : Dn), (A1, c1))).toArray 102) := Lib.hid (Blk.new We _ 102)
      replace HF4 := Lib.hid (HF4.out.then hb)
      replace HP4 := Lib.hid (HP4.out.later hb)
      replace RO1 := Lib.hid (RO1.out.later hb)
      replace KE4 := Lib.hid (KE4.out.later hb)
      replace KA := Lib.hid (KA.out.later hb)
      clear hb hHeld
      refine hK.out _ _ (⟨⟨_, HP4.out.blk⟩, KE4.out, KA.out⟩) (fun hHeld => ?_)
      clear hK K
      generalize We.alloc (.cells #[.int .i64 ta, .int .i64 ca, .int .i64 er1, .bool fo1, .string va1, .slice A1 pr1.length c1, .int .i64 p3.taken, .int .i64 (-1)] 102) = Wf at *
      obtain ⟨qv, hqv⟩ : ∃ z, We.heap.size = z := ⟨_, rfl⟩
      rw [hqv] at KV ⊢
      clear hqv
      refine wpAnyH_ready (rs := [4]) (by kernel_rfl) (by simp) (AllReadyH.cons (o := { dst := some 40, op := Op.load 99 (Operand.tmp 39), type := 99, pos := "replay.go:101", after := #[{ on := 3, ground := Ground.data }], guard := none }) rfl (fun K hK => ?_) AllReadyH.nil)
      have q3 := HP4.out.c0 3
      simp only [plC, List.getElem?_cons_succ, List.getElem?_cons_zero] at q3
      go_simp
      clear q3 hHeld
      refine hK.out _ _ (⟨⟨_, HP4.out.blk⟩, KE4.out, KA.out⟩) (fun hHeld => ?_)
      clear hK K
      refine wpAnyH_ready (rs := [16]) (by kernel_rfl) (by simp) (AllReadyH.cons (o := { dst := some 52, op := Op.call { callee := Callee.builtin Builtin.append, args := #[Operand.tmp 40, Operand.tmp 51], argTypes := #[99, 99] }, type := 99, pos := "replay.go:101", after := #[{ on := 4, ground := Ground.data }, { on := 15, ground := Ground.data }], guard := none }) rfl (fun K hK => ?_) AllReadyH.nil)
      refine wp_append_row1 elemD (.tmp 40) (.tmp 51) rfl w0.heap.size (.slice x.dA p3.done.length x.dc) p3.done.length (p3.done.zip x.dh) rfl HP4.out.dn qv 1 ((⟨ta, ca, (er1, fo1, va1, pr1), p3.taken, -1⟩ : Dn), (A1, c1)) rfl KV.out.rsl (by have := HDL.out; have := HPE.out.2.2.2; rw [this]; omega) (by decide) HF4.out.bel.size ?_
      intro A6 c6 w6 ho6 hg6 hn6 _
      have HB6 : Hid (Blk w6 b #[.pointer (some ⟨x.mp, 0, none⟩), .slice (some ⟨x.tb, 0, none⟩) p3.tasks.length p3.tasks.length, .int .i64 p3.taken, .slice x.dA p3.done.length x.dc] 142) := Lib.hid ((neT HP4.out.dn hg6 HP4.out.blk (by decide)).trans HP4.out.blk)
      have KE6 : Hid (Blk w6 be #[.int .u8 wh, .int .i64 ta, .int .i64 ca, .int .i64 er, .bool fo, .string va, .slice A m cc] 89) := Lib.hid ((neT HP4.out.dn hg6 KE4.out (by decide)).trans KE4.out)
      have KA6 : Hid (Blk w6 pa #[.int .i64 er1, .bool fo1, .string va1, .slice A1 pr1.length c1] 33) := Lib.hid ((neT HP4.out.dn hg6 KA.out (by decide)).trans KA.out)
      have HM := Lib.hid (HP4.out.more (d := ⟨ta, ca, (er1, fo1, va1, pr1), p3.taken, -1⟩) (y := (A1, c1)) ho6 hg6 RO1.out)
      have HFM := Lib.hid (HF4.out.trans HM.out.2)
      have HPM := Lib.hid HM.out.1
      clear ho6 hg6 hn6 HM KV RO1 KE4 KA HP4 HF4 hHeld
      refine hK.out _ _ (⟨⟨_, HB6.out⟩, KE6.out, KA6.out⟩) (fun hHeld => ?_)
      clear hK K
      refine tkL 17 ?_ rfl rfl ?_ (fun _ _ _ h => h) (by assumption) (by kernel_rfl) ?_
      rotate_left
      · intro W hSw
        clear hSw
        go_simp
        try with_reducible rfl
      simp only [pu_]
      refine tkL 18 ?_ rfl rfl ?_ (fun _ _ _ h => h) (by assumption) (by kernel_rfl) ?_
      rotate_left
      · intro W hSw
        clear hSw
        go_simp
        try with_reducible rfl
      simp only [pu_]
      refine wpAnyH_ready (rs := [19]) (by kernel_rfl) (by simp) (AllReadyH.cons (o := { dst := none, op := Op.store 99 (Operand.tmp 54) (Operand.tmp 52), type := 0, pos := "replay.go:101", after := #[{ on := 18, ground := Ground.data }, { on := 16, ground := Ground.data }, { on := 16, ground := Ground.chain }, { on := 0, ground := Ground.phase }, { on := 1, ground := Ground.phase }, { on := 2, ground := Ground.phase }, { on := 3, ground := Ground.phase }, { on := 4, ground := Ground.phase }, { on := 5, ground := Ground.phase }, { on := 6, ground := Ground.phase }, { on := 7, ground := Ground.phase }, { on := 8, ground := Ground.phase }, { on := 9, ground := Ground.phase }, { on := 10, ground := Ground.phase }, { on := 11, ground := Ground.phase }, { on := 12, ground := Ground.phase }, { on := 13, ground := Ground.phase }, { on := 14, ground := Ground.phase }, { on := 15, ground := Ground.phase }, { on := 16, ground := Ground.phase }], guard := none }) rfl (fun K hK => ?_) AllReadyH.nil)
      have f3 := HB6.out.frozen 3
      have z3 := HB6.out.cell 3
      simp only [List.getElem?_toArray, List.getElem?_cons_succ, List.getElem?_cons_zero] at z3
      go_simp
      clear f3 z3 hHeld
      refine hK.out _ _ (⟨⟨_, HB6.out.set (j := 3) _⟩, KE6.out.other (neBlk KE6.out HB6.out (by decide)) _, KA6.out.other (neBlk KA6.out HB6.out (by decide)) _⟩) (fun hHeld => ?_)
      clear hK K
      refine wpAnyH_done (by kernel_rfl) (NoPanic.normal ?_) _
      clear hHeld HB6 KE6 KA6
      generalize w6.setCell ⟨b, 3, none⟩ (.slice A6 (p3.done.length + 1) c6) = w7 at *
      obtain ⟨h1, h2, h3, h4⟩ := HPE.out
      have HPZ := HPM.out
      simp only [h2, h3, h4] at HPZ
      have HPY := Lib.hid HPZ
      clear HPZ h1 h2 h3 h4
      go_wp2
      go_ret
      exact ⟨rfl, HFM.out, _, HPY.out⟩
end Go.Proofs.Ytoinjnocopejjaa
