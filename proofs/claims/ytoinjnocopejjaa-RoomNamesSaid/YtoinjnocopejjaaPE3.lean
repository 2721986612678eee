/- An event is taken: 3. -/
import Derived.Test.YtoinjnocopejjaaPE1
import Derived.StillTailTactics
import Derived.Deep.QuietTactic
import Derived.BigQuiet
namespace Go.Proofs.Ytoinjnocopejjaa
open Go.ChangeShapes Go.WideShapes Go.ChangeAt Go.RowKit Go.Maps
set_option linter.unusedVariables false
set_option linter.unusedSimpArgs false
set_option maxRecDepth 100000 in
set_option maxHeartbeats 16000000 in
theorem take_g3 {w0 W : World} {b : Nat} {p : Pl} {x : PX} {c : Conf} {P : Ps} (h : PlAt w0 W b p x) (hok : POk c P p) {i : Nat} {g : Pg} (hi : p.tasks[i]? = some g) (ca er : Int) (fo : Bool) (va : ByteArray) (A : Option Addr) (m cc : Nat) (pr : List Pr) (hm : m = pr.length) (hE : ERd w0 W (3, (i : Int), ca, er, fo, va, pr) A) (hl : m ≤ 100000) (hdl : p.done.length ≤ 10000) (hpl : g.prog.length ≤ 10000) (htk : p.taken ≤ 100000) : Calls Try.prog 99 #[.pointer (some ⟨b, 0, none⟩), .agg #[.int .u8 3, .int .i64 (i : Int), .int .i64 ca, .int .i64 er, .bool fo, .string va, .slice A m cc]] W (TkEnd w0 b (takeP p (3, (i : Int), ca, er, fo, va, pr)) W) := by
  obtain ⟨R, hR⟩ : ∃ R, takeP p (3, (i : Int), ca, er, fo, va, pr) = R := ⟨_, rfl⟩
  have HNO : Hid (g.ph ≠ 3 - 1 ∨ ca ≠ g.call ∨ ((3 : Int) ≠ 3 ∧ (er, fo, va, pr) ≠ as0) → R = (p, 4)) := Lib.hid (fun h => by rw [← hR]; exact take_no1 hi (by decide) h)
  have HYES := Lib.hid (fun (kd : Nat) (d : Dn) (h1 : g.ph = 2) (h2 : ca = g.call) (h3 : g.don = (kd : Int)) (h4 : p.done[kd]? = some d) => (hR.symm.trans (take_3 (a := (er, fo, va, pr)) hi h1 h2 h3 h4)))
  rw [hR]
  clear hR
  have HTK : Hid (0 ≤ p.taken ∧ p.taken ≤ 100000) := Lib.hid ⟨by have := hok.tk; omega, htk⟩
  have HTX : Hid (p.m.txns.length ≤ 100000) := Lib.hid (by have := hok.tx; omega)
  have HDL := Lib.hid hdl
  have HGC : Hid (g.ph ≠ 0 → 0 ≤ g.call ∧ g.call < (g.prog.length : Int)) := Lib.hid (fun h => ⟨(hok.prg i g hi).2.1, (hok.prg i g hi).2.2.2.2 h⟩)
  have HGB : Hid (0 ≤ g.call ∧ g.call ≤ 100000) := Lib.hid (by have := hok.prg i g hi; omega)
  have HMR : Hid (g.ph = 2 → ∃ (k : Nat) (d : Dn), g.don = k ∧ p.done[k]? = some d ∧ d.back = -1 ∧ d.task = i ∧ d.call = g.call) := Lib.hid (hok.mrk i g hi)
  have HM := Lib.hid hm
  have HL := Lib.hid hl
  have HER := Lib.hid hE
  have HSM : Hid (∀ W', Fw w0 W W' → Calls Try.prog 39 #[.agg #[.int .i64 er, .bool fo, .string va, .slice A m cc], .agg #[.int .i64 0, .bool false, .string { data := #[] }, .slice none 0 0]] W' fun e w' => e = .returned (.bool (decide ((er, fo, va, pr) = as0))) ∧ Below W'.heap.size W' w') := Lib.hid (fun W' hf => by
    have hE := HER.out W' hf
    rw [show pr.length = m from HM.out.symm] at hE
    exact same_any A none m cc 0 0 (er, fo, va, pr) as0 W' HL.out hE (RSl.nil _ _))
  clear hok hm hl hE hdl hpl htk
  have hb : Below W.heap.size W (((W.alloc (.cells #[.int .u8 3, .int .i64 (i : Int), .int .i64 ca, .int .i64 er, .bool fo, .string va, .slice A m cc] 89)).alloc (.cells #[.int .i64 0, .bool false, .nilFunc, .int .i64 0, .bool false, .nilFunc, .int .i64 0, .bool false, .nilFunc, .int .i64 0, .bool false, .nilFunc] 180)).setRow (W.heap.size + 1) #[.int .i64 0, .bool false, .nilFunc, .int .i64 0, .bool false, .func (.func 110) #[] #[], .int .i64 1, .bool false, .func (.func 111) #[] #[], .int .i64 2, .bool true, .func (.func 112) #[] #[]]) := below_setRow (((Below.refl _ _).alloc (Nat.le_refl _) _).alloc (by simp) _) (by simp) _
  have HP := Lib.hid (h.later hb)
  have HF := Lib.hid (Fw.of h.bel hb)
  have KZ : Hid (Blk ((W.alloc (.cells #[.int .u8 3, .int .i64 (i : Int), .int .i64 ca, .int .i64 er, .bool fo, .string va, .slice A m cc] 89)).alloc (.cells #[.int .i64 0, .bool false, .nilFunc, .int .i64 0, .bool false, .nilFunc, .int .i64 0, .bool false, .nilFunc, .int .i64 0, .bool false, .nilFunc] 180)) (W.heap.size + 1) #[.int .i64 0, .bool false, .nilFunc, .int .i64 0, .bool false, .nilFunc, .int .i64 0, .bool false, .nilFunc, .int .i64 0, .bool false, .nilFunc] 180) := Lib.hid (Blk.new2 _ _ 180 (by simp))
  have KA : Hid (Blk (((W.alloc (.cells #[.int .u8 3, .int .i64 (i : Int), .int .i64 ca, .int .i64 er, .bool fo, .string va, .slice A m cc] 89)).alloc (.cells #[.int .i64 0, .bool false, .nilFunc, .int .i64 0, .bool false, .nilFunc, .int .i64 0, .bool false, .nilFunc, .int .i64 0, .bool false, .nilFunc] 180)).setRow (W.heap.size + 1) #[.int .i64 0, .bool false, .nilFunc, .int .i64 0, .bool false, .func (.func 110) #[] #[], .int .i64 1, .bool false, .func (.func 111) #[] #[], .int .i64 2, .bool true, .func (.func 112) #[] #[]]) (W.heap.size + 1) #[.int .i64 0, .bool false, .nilFunc, .int .i64 0, .bool false, .func (.func 110) #[] #[], .int .i64 1, .bool false, .func (.func 111) #[] #[], .int .i64 2, .bool true, .func (.func 112) #[] #[]] 180) := Lib.hid (Blk.setRow_self KZ.out)
  have KE : Hid (Blk (((W.alloc (.cells #[.int .u8 3, .int .i64 (i : Int), .int .i64 ca, .int .i64 er, .bool fo, .string va, .slice A m cc] 89)).alloc (.cells #[.int .i64 0, .bool false, .nilFunc, .int .i64 0, .bool false, .nilFunc, .int .i64 0, .bool false, .nilFunc, .int .i64 0, .bool false, .nilFunc] 180)).setRow (W.heap.size + 1) #[.int .i64 0, .bool false, .nilFunc, .int .i64 0, .bool false, .func (.func 110) #[] #[], .int .i64 1, .bool false, .func (.func 111) #[] #[], .int .i64 2, .bool true, .func (.func 112) #[] #[]]) W.heap.size #[.int .u8 3, .int .i64 (i : Int), .int .i64 ca, .int .i64 er, .bool fo, .string va, .slice A m cc] 89) := Lib.hid (((Blk.new W _ 89).alloc _).setRow (by omega))
  clear hb h
  go_enter Try.func99, Try.ntmps99
  go_upto_region 2 with (first | (refine wpList_store_row rfl 180 (.tmp 5) (.tmp 12) rfl (W.heap.size + 1) #[.int .i64 0, .bool false, .nilFunc, .int .i64 0, .bool false, .func (.func 110) #[] #[], .int .i64 1, .bool false, .func (.func 111) #[] #[], .int .i64 2, .bool true, .func (.func 112) #[] #[]] rfl rfl 180 #[.int .i64 0, .bool false, .nilFunc, .int .i64 0, .bool false, .nilFunc, .int .i64 0, .bool false, .nilFunc, .int .i64 0, .bool false, .nilFunc] KZ.out (by kernel_rfl) rfl (by first | rfl | (simp [Value.oneCell']; done)) ?_) | go_in)
  clear KZ
  generalize (((W.alloc (.cells #[.int .u8 3, .int .i64 (i : Int), .int .i64 ca, .int .i64 er, .bool fo, .string va, .slice A m cc] 89)).alloc (.cells #[.int .i64 0, .bool false, .nilFunc, .int .i64 0, .bool false, .nilFunc, .int .i64 0, .bool false, .nilFunc, .int .i64 0, .bool false, .nilFunc] 180)).setRow (W.heap.size + 1) #[.int .i64 0, .bool false, .nilFunc, .int .i64 0, .bool false, .func (.func 110) #[] #[], .int .i64 1, .bool false, .func (.func 111) #[] #[], .int .i64 2, .bool true, .func (.func 112) #[] #[]]) = w2 at *
  obtain ⟨be, hbe⟩ : ∃ z, W.heap.size = z := ⟨_, rfl⟩
  rw [hbe] at KE KA ⊢
  clear hbe
  have e0 := KE.out.cell 0
  have e1 := KE.out.cell 1
  have b1 := HP.out.c0 1
  simp only [plC, List.getElem?_toArray, List.getElem?_cons_zero, List.getElem?_cons_succ] at e0 e1 b1
  have HI := Lib.hid hi
  obtain ⟨y, hy⟩ := HP.out.hdr hi
  have HY := Lib.hid hy
  have HIL : Hid (i < p.tasks.length) := Lib.hid (List.getElem?_eq_some_iff.1 hi).1
  have g3 : decide ((i : Int) < 0) = false := decide_eq_false (by omega)
  have g4 : decide ((i : Int) ≥ (p.tasks.length : Int)) = false := decide_eq_false (by have := HIL.out; omega)
  have g4' : decide ((p.tasks.length : Int) ≤ (i : Int)) = false := decide_eq_false (by have := HIL.out; omega)
  have g4'' : decide (p.tasks.length ≤ i) = false := decide_eq_false (by have := HIL.out; omega)
  clear hi hy
  go_quiet (fail)
  have hb : Below w2.heap.size w2 (w2.drewN nq) := (SameW.drewN w2 nq).below (Below.refl _ _)
  replace HF := Lib.hid (HF.out.then hb)
  replace HP := Lib.hid (HP.out.later hb)
  replace KE := Lib.hid (KE.out.later hb)
  replace KA := Lib.hid (KA.out.later hb)
  clear hb
  generalize w2.drewN nq = w3 at *
  clear g3 g4 g4' g4'' e0 e1 b1
  go_upto_region 4 with (fail)
  have ix := idx140 x.tb 0 p.tasks.length p.tasks.length i (i : Int) rfl HIL.out
  simp only [Nat.zero_add] at ix
  refine wp_region_noPanic ?_
  obtain ⟨W0, rfl⟩ : ∃ W0 : World, W0 = w3 := ⟨_, rfl⟩
  refine wp_region_held_drew (S := fun W => Below W0.heap.size W0 W) (by kernel_rfl) (Below.drew (Below.refl _ _)) (fun hHeld => ?_)
  have hb : Below W0.heap.size W0 (World.drew W0) := Below.drew (Below.refl _ _)
  have HFD := Lib.hid (HF.out.then hb)
  clear hb
  obtain ⟨Wd, hWd⟩ : ∃ z, World.drew W0 = z := ⟨_, rfl⟩
  rw [hWd] at HFD hHeld ⊢
  clear hWd
  refine tkL 0 ?_ rfl rfl ?_ (fun _ _ _ h => h) (by assumption) (by kernel_rfl) ?_
  rotate_left
  · intro W hSw
    clear hSw
    go_simp
    try with_reducible rfl
  simp only [pu_]
  refine tkL 1 ?_ rfl rfl ?_ (fun _ _ _ h => h) (by assumption) (by kernel_rfl) ?_
  rotate_left
  · intro W hSw
    have e0 := (KE.out.later hSw).cell 0
    have e1 := (KE.out.later hSw).cell 1
    have b1 := (HP.out.later hSw).c0 1
    have a0 := (KA.out.later hSw).cell 9
    have a1 := (KA.out.later hSw).cell 10
    have a2 := (KA.out.later hSw).cell 11
    simp only [plC, List.getElem?_toArray, List.getElem?_cons_zero, List.getElem?_cons_succ] at e0 e1 b1 a0 a1 a2
    clear hSw
    go_simp
    try with_reducible rfl
  simp only [pu_]
  refine tkL 2 ?_ rfl rfl ?_ (fun _ _ _ h => h) (by assumption) (by kernel_rfl) ?_
  rotate_left
  · intro W hSw
    have e0 := (KE.out.later hSw).cell 0
    have e1 := (KE.out.later hSw).cell 1
    have b1 := (HP.out.later hSw).c0 1
    have a0 := (KA.out.later hSw).cell 9
    have a1 := (KA.out.later hSw).cell 10
    have a2 := (KA.out.later hSw).cell 11
    simp only [plC, List.getElem?_toArray, List.getElem?_cons_zero, List.getElem?_cons_succ] at e0 e1 b1 a0 a1 a2
    clear hSw
    go_simp
    try with_reducible rfl
  simp only [pu_]
  refine tkL 3 ?_ rfl rfl ?_ (fun _ _ _ h => h) (by assumption) (by kernel_rfl) ?_
  rotate_left
  · intro W hSw
    have e0 := (KE.out.later hSw).cell 0
    have e1 := (KE.out.later hSw).cell 1
    have b1 := (HP.out.later hSw).c0 1
    have a0 := (KA.out.later hSw).cell 9
    have a1 := (KA.out.later hSw).cell 10
    have a2 := (KA.out.later hSw).cell 11
    simp only [plC, List.getElem?_toArray, List.getElem?_cons_zero, List.getElem?_cons_succ] at e0 e1 b1 a0 a1 a2
    clear hSw
    go_simp
    try with_reducible rfl
  simp only [pu_]
  refine tkL 4 ?_ rfl rfl ?_ (fun _ _ _ h => h) (by assumption) (by kernel_rfl) ?_
  rotate_left
  · intro W hSw
    clear hSw
    go_simp
    try with_reducible rfl
  simp only [pu_]
  refine tkL 5 ?_ rfl rfl ?_ (fun _ _ _ h => h) (by assumption) (by kernel_rfl) ?_
  rotate_left
  · intro W hSw
    clear hSw
    go_simp
    try with_reducible rfl
  simp only [pu_]
  refine tkL 6 ?_ rfl rfl ?_ (fun _ _ _ h => h) (by assumption) (by kernel_rfl) ?_
  rotate_left
  · intro W hSw
    clear hSw
    go_simp
    try with_reducible rfl
  simp only [pu_]
  refine tkL 7 ?_ rfl rfl ?_ (fun _ _ _ h => h) (by assumption) (by kernel_rfl) ?_
  rotate_left
  · intro W hSw
    have e0 := (KE.out.later hSw).cell 0
    have e1 := (KE.out.later hSw).cell 1
    have b1 := (HP.out.later hSw).c0 1
    have a0 := (KA.out.later hSw).cell 9
    have a1 := (KA.out.later hSw).cell 10
    have a2 := (KA.out.later hSw).cell 11
    simp only [plC, List.getElem?_toArray, List.getElem?_cons_zero, List.getElem?_cons_succ] at e0 e1 b1 a0 a1 a2
    clear hSw
    go_simp
    try with_reducible rfl
  simp only [pu_]
  refine tkL 8 ?_ rfl rfl ?_ (fun _ _ _ h => h) (by assumption) (by kernel_rfl) ?_
  rotate_left
  · intro W hSw
    clear hSw
    go_simp
    try with_reducible rfl
  simp only [pu_]
  refine tkL 9 ?_ rfl rfl ?_ (fun _ _ _ h => h) (by assumption) (by kernel_rfl) ?_
  rotate_left
  · intro W hSw
    have e0 := (KE.out.later hSw).cell 0
    have e1 := (KE.out.later hSw).cell 1
    have b1 := (HP.out.later hSw).c0 1
    have a0 := (KA.out.later hSw).cell 9
    have a1 := (KA.out.later hSw).cell 10
    have a2 := (KA.out.later hSw).cell 11
    simp only [plC, List.getElem?_toArray, List.getElem?_cons_zero, List.getElem?_cons_succ] at e0 e1 b1 a0 a1 a2
    clear hSw
    go_simp
    try with_reducible rfl
  simp only [pu_]
  refine tkL 10 ?_ rfl rfl ?_ (fun _ _ _ h => h) (by assumption) (by kernel_rfl) ?_
  rotate_left
  · intro W hSw
    have e0 := (KE.out.later hSw).cell 0
    have e1 := (KE.out.later hSw).cell 1
    have b1 := (HP.out.later hSw).c0 1
    have a0 := (KA.out.later hSw).cell 9
    have a1 := (KA.out.later hSw).cell 10
    have a2 := (KA.out.later hSw).cell 11
    simp only [plC, List.getElem?_toArray, List.getElem?_cons_zero, List.getElem?_cons_succ] at e0 e1 b1 a0 a1 a2
    clear hSw
    go_simp
    try with_reducible rfl
  simp only [pu_]
  refine wpAnyH_ready (rs := [11]) (by kernel_rfl) (by simp) (AllReadyH.cons (o := { dst := some 6, op := Op.alloc 179, type := 0, pos := "replay.go:80", after := #[], guard := none }) rfl (fun K hK => ?_) AllReadyH.nil)
  go_simp
  have hb : Below W0.heap.size W0 (Wd.alloc (.cells #[.int .i64 0, .bool false, .nilFunc] 179)) := stepB hHeld ((Below.refl _ _).alloc (Nat.le_refl _) _)
  have hsz : W0.heap.size ≤ Wd.heap.size := hHeld.size
  have K6 : Hid (Blk (Wd.alloc (.cells #[.int .i64 0, .bool false, .nilFunc] 179)) Wd.heap.size #[.int .i64 0, .bool false, .nilFunc] 179) := Lib.hid (Blk.new Wd _ 179)
  have HSZ := Lib.hid hsz
  clear hHeld hsz
  refine hK.out _ _ (hb) (fun hHeld => ?_)
  clear hK K
  clear hb
  have hb := hHeld
  generalize Wd.alloc (.cells #[.int .i64 0, .bool false, .nilFunc] 179) = We at *
  obtain ⟨pa, hpa⟩ : ∃ z, Wd.heap.size = z := ⟨_, rfl⟩
  rw [hpa] at K6 HSZ ⊢
  clear hpa hb
  refine wpAnyH_ready (rs := [12]) (by kernel_rfl) (by simp) (AllReadyH.cons (o := { dst := none, op := Op.store 179 (Operand.tmp 6) (Operand.tmp 40), type := 0, pos := "replay.go:80", after := #[{ on := 11, ground := Ground.data }, { on := 3, ground := Ground.data }, { on := 0, ground := Ground.phase }, { on := 1, ground := Ground.phase }, { on := 2, ground := Ground.phase }, { on := 3, ground := Ground.phase }, { on := 4, ground := Ground.textOnly Departure.lateStores }, { on := 5, ground := Ground.textOnly Departure.lateStores }, { on := 6, ground := Ground.textOnly Departure.lateStores }, { on := 7, ground := Ground.textOnly Departure.lateStores }, { on := 8, ground := Ground.textOnly Departure.lateStores }, { on := 9, ground := Ground.textOnly Departure.lateStores }, { on := 10, ground := Ground.textOnly Departure.lateStores }, { on := 11, ground := Ground.phase }], guard := none }) rfl (fun K hK => ?_) AllReadyH.nil)
  refine wp_store_row 179 (.tmp 6) (.tmp 40) rfl pa #[.int .i64 2, .bool true, .func (.func 112) #[] #[]] rfl rfl 179 #[.int .i64 0, .bool false, .nilFunc] K6.out (by kernel_rfl) rfl (by first | rfl | (simp [Value.oneCell']; done)) ?_
  have hb : Below W0.heap.size W0 (We.setRow pa #[.int .i64 2, .bool true, .func (.func 112) #[] #[]]) := below_setRow hHeld HSZ.out _
  have K7 : Hid (Blk (We.setRow pa #[.int .i64 2, .bool true, .func (.func 112) #[] #[]]) pa #[.int .i64 2, .bool true, .func (.func 112) #[] #[]] 179) := Lib.hid (Blk.setRow_self K6.out)
  clear hHeld K6
  refine hK.out _ _ (hb) (fun hHeld => ?_)
  clear hK K
  have HF7 := Lib.hid (HF.out.then hHeld)
  have HP7 := Lib.hid (HP.out.later hHeld)
  have KE7 := Lib.hid (KE.out.later hHeld)
  clear hb
  generalize We.setRow pa #[.int .i64 2, .bool true, .func (.func 112) #[] #[]] = w4 at *
  refine tkL 13 ?_ rfl rfl ?_ (fun _ _ _ h => h) (by assumption) (by kernel_rfl) ?_
  rotate_left
  · intro W hSw
    clear hSw
    go_simp
    try with_reducible rfl
  simp only [pu_]
  refine wpAnyH_done (by kernel_rfl) (NoPanic.normal ?_) _
  clear hHeld ix HF HP KE KA HFD HSZ HIL
  go_upto_region 5 with (fail)
  have t0 := HP7.out.pgc HI.out HY.out 0 (by decide)
  have t1 := HP7.out.pgc HI.out HY.out 1 (by decide)
  have t2 := HP7.out.pgc HI.out HY.out 2 (by decide)
  have e2 := KE7.out.cell 2
  have k0 := K7.out.cell 0
  have k1 := K7.out.cell 1
  simp only [pgE, List.getElem?_toArray, List.getElem?_cons_zero, List.getElem?_cons_succ, Nat.add_zero] at t0 t1 t2 e2 k0 k1
  clear t0 t1 t2 e2 k0 k1
  by_cases h1 : g.ph = 2
  rotate_left
  · have d1 : (g.ph == 2) = false := by rw [beq_eq_false_iff_ne]; exact h1
    have d1' : (g.ph != 2) = true := by rw [bne_iff_ne]; exact h1
    have HR1 : Hid (R = (p, 4)) := Lib.hid (HNO.out (.inl (by omega)))
    clear h1
    refine wp_region_noPanic ?_
    obtain ⟨W1, rfl⟩ : ∃ W1 : World, W1 = w4 := ⟨_, rfl⟩
    refine wp_region_held_drew (S := fun W => Below W1.heap.size W1 W) (by kernel_rfl) (Below.drew (Below.refl _ _)) (fun hHeld => ?_)
    obtain ⟨Wg, hWg⟩ : ∃ z, World.drew W1 = z := ⟨_, rfl⟩
    rw [hWg] at hHeld ⊢
    clear hWg
    refine tkL 0 ?_ rfl rfl ?_ (fun _ _ _ h => h) (by assumption) (by kernel_rfl) ?_
    rotate_left
    · intro W hSw
      clear hSw
      go_simp
      try with_reducible rfl
    simp only [pu_]
    refine tkL 1 ?_ rfl rfl ?_ (fun _ _ _ h => h) (by assumption) (by kernel_rfl) ?_
    rotate_left
    · intro W hSw
      clear hSw
      go_simp
      try with_reducible rfl
    simp only [pu_]
    refine tkL 2 ?_ rfl rfl ?_ (fun _ _ _ h => h) (by assumption) (by kernel_rfl) ?_
    rotate_left
    · intro W hSw
      clear hSw
      go_simp
      try with_reducible rfl
    simp only [pu_]
    refine tkL 3 ?_ rfl rfl ?_ (fun _ _ _ h => h) (by assumption) (by kernel_rfl) ?_
    rotate_left
    · intro W hSw
      have t1 := (HP7.out.later hSw).pgc HI.out HY.out 1 (by decide)
      have t2 := (HP7.out.later hSw).pgc HI.out HY.out 2 (by decide)
      have e2 := (KE7.out.later hSw).cell 2
      have e3 := (KE7.out.later hSw).cell 3
      have e4 := (KE7.out.later hSw).cell 4
      have e5 := (KE7.out.later hSw).cell 5
      have e6 := (KE7.out.later hSw).cell 6
      have k0 := (K7.out.later hSw).cell 0
      have k1 := (K7.out.later hSw).cell 1
      simp only [pgE, List.getElem?_toArray, List.getElem?_cons_zero, List.getElem?_cons_succ, Nat.add_zero] at t1 t2 e2 e3 e4 e5 e6 k0 k1
      clear hSw
      go_simp
      try with_reducible rfl
    simp only [pu_]
    refine tkL 4 ?_ rfl rfl ?_ (fun _ _ _ h => h) (by assumption) (by kernel_rfl) ?_
    rotate_left
    · intro W hSw
      clear hSw
      go_simp
      try with_reducible rfl
    simp only [pu_]
    refine tkL 5 ?_ rfl rfl ?_ (fun _ _ _ h => h) (by assumption) (by kernel_rfl) ?_
    rotate_left
    · intro W hSw
      have t1 := (HP7.out.later hSw).pgc HI.out HY.out 1 (by decide)
      have t2 := (HP7.out.later hSw).pgc HI.out HY.out 2 (by decide)
      have e2 := (KE7.out.later hSw).cell 2
      have e3 := (KE7.out.later hSw).cell 3
      have e4 := (KE7.out.later hSw).cell 4
      have e5 := (KE7.out.later hSw).cell 5
      have e6 := (KE7.out.later hSw).cell 6
      have k0 := (K7.out.later hSw).cell 0
      have k1 := (K7.out.later hSw).cell 1
      simp only [pgE, List.getElem?_toArray, List.getElem?_cons_zero, List.getElem?_cons_succ, Nat.add_zero] at t1 t2 e2 e3 e4 e5 e6 k0 k1
      clear hSw
      go_simp
      try with_reducible rfl
    simp only [pu_]
    refine tkL 6 ?_ rfl rfl ?_ (fun _ _ _ h => h) (by assumption) (by kernel_rfl) ?_
    rotate_left
    · intro W hSw
      clear hSw
      go_simp
      try with_reducible rfl
    simp only [pu_]
    refine tkL 7 ?_ rfl rfl ?_ (fun _ _ _ h => h) (by assumption) (by kernel_rfl) ?_
    rotate_left
    · intro W hSw
      clear hSw
      go_simp
      try with_reducible rfl
    simp only [pu_]
    refine skL 8 rfl rfl rfl rfl rfl rfl (fun _ _ _ h => h) (by assumption) (by kernel_rfl) ?_
    simp only [pu_]
    refine skL 9 rfl rfl rfl rfl rfl rfl (fun _ _ _ h => h) (by assumption) (by kernel_rfl) ?_
    simp only [pu_]
    refine skL 10 rfl rfl rfl rfl rfl rfl (fun _ _ _ h => h) (by assumption) (by kernel_rfl) ?_
    simp only [pu_]
    refine skL 11 rfl rfl rfl rfl rfl rfl (fun _ _ _ h => h) (by assumption) (by kernel_rfl) ?_
    simp only [pu_]
    refine skL 12 rfl rfl rfl rfl rfl rfl (fun _ _ _ h => h) (by assumption) (by kernel_rfl) ?_
    simp only [pu_]
    refine skL 13 rfl rfl rfl rfl rfl rfl (fun _ _ _ h => h) (by assumption) (by kernel_rfl) ?_
    simp only [pu_]
    refine skL 14 rfl rfl rfl rfl rfl rfl (fun _ _ _ h => h) (by assumption) (by kernel_rfl) ?_
    simp only [pu_]
    refine tkL 15 ?_ rfl rfl ?_ (fun _ _ _ h => h) (by assumption) (by kernel_rfl) ?_
    rotate_left
    · intro W hSw
      clear hSw
      go_simp
      try with_reducible rfl
    simp only [pu_]
    refine tkL 16 ?_ rfl rfl ?_ (fun _ _ _ h => h) (by assumption) (by kernel_rfl) ?_
    rotate_left
    · intro W hSw
      clear hSw
      go_simp
      try with_reducible rfl
    simp only [pu_]
    refine skL 17 rfl rfl rfl rfl rfl rfl (fun _ _ _ h => h) (by assumption) (by kernel_rfl) ?_
    simp only [pu_]
    refine skL 18 rfl rfl rfl rfl rfl rfl (fun _ _ _ h => h) (by assumption) (by kernel_rfl) ?_
    simp only [pu_]
    refine skL 19 rfl rfl rfl rfl rfl rfl (fun _ _ _ h => h) (by assumption) (by kernel_rfl) ?_
    simp only [pu_]
    refine skL 20 rfl rfl rfl rfl rfl rfl (fun _ _ _ h => h) (by assumption) (by kernel_rfl) ?_
    simp only [pu_]
    refine skL 21 rfl rfl rfl rfl rfl rfl (fun _ _ _ h => h) (by assumption) (by kernel_rfl) ?_
    simp only [pu_]
    refine skL 22 rfl rfl rfl rfl rfl rfl (fun _ _ _ h => h) (by assumption) (by kernel_rfl) ?_
    simp only [pu_]
    refine skL 23 rfl rfl rfl rfl rfl rfl (fun _ _ _ h => h) (by assumption) (by kernel_rfl) ?_
    simp only [pu_]
    refine skL 24 rfl rfl rfl rfl rfl rfl (fun _ _ _ h => h) (by assumption) (by kernel_rfl) ?_
    simp only [pu_]
    refine skL 25 rfl rfl rfl rfl rfl rfl (fun _ _ _ h => h) (by assumption) (by kernel_rfl) ?_
    simp only [pu_]
    refine skL 26 rfl rfl rfl rfl rfl rfl (fun _ _ _ h => h) (by assumption) (by kernel_rfl) ?_
    simp only [pu_]
    refine tkL 27 ?_ rfl rfl ?_ (fun _ _ _ h => h) (by assumption) (by kernel_rfl) ?_
    rotate_left
    · intro W hSw
      clear hSw
      go_simp
      try with_reducible rfl
    simp only [pu_]
    refine wpAnyH_done (by kernel_rfl) (NoPanic.normal ?_) _
    have HFE := Lib.hid (HF7.out.then hHeld)
    clear hHeld
    go_wp2
    go_ret
    exact ⟨by rw [HR1.out] <;> rfl, HFE.out, fun h => absurd (by rw [HR1.out]) h⟩
  have d1 : (g.ph == 2) = true := by rw [h1]; rfl
  have d1' : (g.ph != 2) = false := by rw [h1]; rfl
  have H1 := Lib.hid h1
  clear h1
  by_cases h2 : ca = g.call
  rotate_left
  · have d2 : (ca == g.call) = false := by rw [beq_eq_false_iff_ne]; exact h2
    have d2' : (ca != g.call) = true := by rw [bne_iff_ne]; exact h2
    have HR1 : Hid (R = (p, 4)) := Lib.hid (HNO.out (.inr (.inl h2)))
    clear h2
    refine wp_region_noPanic ?_
    obtain ⟨W1, rfl⟩ : ∃ W1 : World, W1 = w4 := ⟨_, rfl⟩
    refine wp_region_held_drew (S := fun W => Below W1.heap.size W1 W) (by kernel_rfl) (Below.drew (Below.refl _ _)) (fun hHeld => ?_)
    obtain ⟨Wg, hWg⟩ : ∃ z, World.drew W1 = z := ⟨_, rfl⟩
    rw [hWg] at hHeld ⊢
    clear hWg
    refine tkL 0 ?_ rfl rfl ?_ (fun _ _ _ h => h) (by assumption) (by kernel_rfl) ?_
    rotate_left
    · intro W hSw
      clear hSw
      go_simp
      try with_reducible rfl
    simp only [pu_]
    refine tkL 1 ?_ rfl rfl ?_ (fun _ _ _ h => h) (by assumption) (by kernel_rfl) ?_
    rotate_left
    · intro W hSw
      clear hSw
      go_simp
      try with_reducible rfl
    simp only [pu_]
    refine tkL 2 ?_ rfl rfl ?_ (fun _ _ _ h => h) (by assumption) (by kernel_rfl) ?_
    rotate_left
    · intro W hSw
      clear hSw
      go_simp
      try with_reducible rfl
    simp only [pu_]
    refine tkL 3 ?_ rfl rfl ?_ (fun _ _ _ h => h) (by assumption) (by kernel_rfl) ?_
    rotate_left
    · intro W hSw
      have t1 := (HP7.out.later hSw).pgc HI.out HY.out 1 (by decide)
      have t2 := (HP7.out.later hSw).pgc HI.out HY.out 2 (by decide)
      have e2 := (KE7.out.later hSw).cell 2
      have e3 := (KE7.out.later hSw).cell 3
      have e4 := (KE7.out.later hSw).cell 4
      have e5 := (KE7.out.later hSw).cell 5
      have e6 := (KE7.out.later hSw).cell 6
      have k0 := (K7.out.later hSw).cell 0
      have k1 := (K7.out.later hSw).cell 1
      simp only [pgE, List.getElem?_toArray, List.getElem?_cons_zero, List.getElem?_cons_succ, Nat.add_zero] at t1 t2 e2 e3 e4 e5 e6 k0 k1
      clear hSw
      go_simp
      try with_reducible rfl
    simp only [pu_]
    refine tkL 4 ?_ rfl rfl ?_ (fun _ _ _ h => h) (by assumption) (by kernel_rfl) ?_
    rotate_left
    · intro W hSw
      clear hSw
      go_simp
      try with_reducible rfl
    simp only [pu_]
    refine tkL 5 ?_ rfl rfl ?_ (fun _ _ _ h => h) (by assumption) (by kernel_rfl) ?_
    rotate_left
    · intro W hSw
      have t1 := (HP7.out.later hSw).pgc HI.out HY.out 1 (by decide)
      have t2 := (HP7.out.later hSw).pgc HI.out HY.out 2 (by decide)
      have e2 := (KE7.out.later hSw).cell 2
      have e3 := (KE7.out.later hSw).cell 3
      have e4 := (KE7.out.later hSw).cell 4
      have e5 := (KE7.out.later hSw).cell 5
      have e6 := (KE7.out.later hSw).cell 6
      have k0 := (K7.out.later hSw).cell 0
      have k1 := (K7.out.later hSw).cell 1
      simp only [pgE, List.getElem?_toArray, List.getElem?_cons_zero, List.getElem?_cons_succ, Nat.add_zero] at t1 t2 e2 e3 e4 e5 e6 k0 k1
      clear hSw
      go_simp
      try with_reducible rfl
    simp only [pu_]
    refine tkL 6 ?_ rfl rfl ?_ (fun _ _ _ h => h) (by assumption) (by kernel_rfl) ?_
    rotate_left
    · intro W hSw
      clear hSw
      go_simp
      try with_reducible rfl
    simp only [pu_]
    refine tkL 7 ?_ rfl rfl ?_ (fun _ _ _ h => h) (by assumption) (by kernel_rfl) ?_
    rotate_left
    · intro W hSw
      clear hSw
      go_simp
      try with_reducible rfl
    simp only [pu_]
    refine tkL 8 ?_ rfl rfl ?_ (fun _ _ _ h => h) (by assumption) (by kernel_rfl) ?_
    rotate_left
    · intro W hSw
      clear hSw
      go_simp
      try with_reducible rfl
    simp only [pu_]
    refine tkL 9 ?_ rfl rfl ?_ (fun _ _ _ h => h) (by assumption) (by kernel_rfl) ?_
    rotate_left
    · intro W hSw
      have t1 := (HP7.out.later hSw).pgc HI.out HY.out 1 (by decide)
      have t2 := (HP7.out.later hSw).pgc HI.out HY.out 2 (by decide)
      have e2 := (KE7.out.later hSw).cell 2
      have e3 := (KE7.out.later hSw).cell 3
      have e4 := (KE7.out.later hSw).cell 4
      have e5 := (KE7.out.later hSw).cell 5
      have e6 := (KE7.out.later hSw).cell 6
      have k0 := (K7.out.later hSw).cell 0
      have k1 := (K7.out.later hSw).cell 1
      simp only [pgE, List.getElem?_toArray, List.getElem?_cons_zero, List.getElem?_cons_succ, Nat.add_zero] at t1 t2 e2 e3 e4 e5 e6 k0 k1
      clear hSw
      go_simp
      try with_reducible rfl
    simp only [pu_]
    refine tkL 10 ?_ rfl rfl ?_ (fun _ _ _ h => h) (by assumption) (by kernel_rfl) ?_
    rotate_left
    · intro W hSw
      clear hSw
      go_simp
      try with_reducible rfl
    simp only [pu_]
    refine tkL 11 ?_ rfl rfl ?_ (fun _ _ _ h => h) (by assumption) (by kernel_rfl) ?_
    rotate_left
    · intro W hSw
      clear hSw
      go_simp
      try with_reducible rfl
    simp only [pu_]
    refine tkL 12 ?_ rfl rfl ?_ (fun _ _ _ h => h) (by assumption) (by kernel_rfl) ?_
    rotate_left
    · intro W hSw
      clear hSw
      go_simp
      try with_reducible rfl
    simp only [pu_]
    refine tkL 13 ?_ rfl rfl ?_ (fun _ _ _ h => h) (by assumption) (by kernel_rfl) ?_
    rotate_left
    · intro W hSw
      have t1 := (HP7.out.later hSw).pgc HI.out HY.out 1 (by decide)
      have t2 := (HP7.out.later hSw).pgc HI.out HY.out 2 (by decide)
      have e2 := (KE7.out.later hSw).cell 2
      have e3 := (KE7.out.later hSw).cell 3
      have e4 := (KE7.out.later hSw).cell 4
      have e5 := (KE7.out.later hSw).cell 5
      have e6 := (KE7.out.later hSw).cell 6
      have k0 := (K7.out.later hSw).cell 0
      have k1 := (K7.out.later hSw).cell 1
      simp only [pgE, List.getElem?_toArray, List.getElem?_cons_zero, List.getElem?_cons_succ, Nat.add_zero] at t1 t2 e2 e3 e4 e5 e6 k0 k1
      clear hSw
      go_simp
      try with_reducible rfl
    simp only [pu_]
    refine tkL 14 ?_ rfl rfl ?_ (fun _ _ _ h => h) (by assumption) (by kernel_rfl) ?_
    rotate_left
    · intro W hSw
      clear hSw
      go_simp
      try with_reducible rfl
    simp only [pu_]
    refine tkL 15 ?_ rfl rfl ?_ (fun _ _ _ h => h) (by assumption) (by kernel_rfl) ?_
    rotate_left
    · intro W hSw
      clear hSw
      go_simp
      try with_reducible rfl
    simp only [pu_]
    refine tkL 16 ?_ rfl rfl ?_ (fun _ _ _ h => h) (by assumption) (by kernel_rfl) ?_
    rotate_left
    · intro W hSw
      clear hSw
      go_simp
      try with_reducible rfl
    simp only [pu_]
    refine skL 17 rfl rfl rfl rfl rfl rfl (fun _ _ _ h => h) (by assumption) (by kernel_rfl) ?_
    simp only [pu_]
    refine skL 18 rfl rfl rfl rfl rfl rfl (fun _ _ _ h => h) (by assumption) (by kernel_rfl) ?_
    simp only [pu_]
    refine skL 19 rfl rfl rfl rfl rfl rfl (fun _ _ _ h => h) (by assumption) (by kernel_rfl) ?_
    simp only [pu_]
    refine skL 20 rfl rfl rfl rfl rfl rfl (fun _ _ _ h => h) (by assumption) (by kernel_rfl) ?_
    simp only [pu_]
    refine skL 21 rfl rfl rfl rfl rfl rfl (fun _ _ _ h => h) (by assumption) (by kernel_rfl) ?_
    simp only [pu_]
    refine skL 22 rfl rfl rfl rfl rfl rfl (fun _ _ _ h => h) (by assumption) (by kernel_rfl) ?_
    simp only [pu_]
    refine skL 23 rfl rfl rfl rfl rfl rfl (fun _ _ _ h => h) (by assumption) (by kernel_rfl) ?_
    simp only [pu_]
    refine skL 24 rfl rfl rfl rfl rfl rfl (fun _ _ _ h => h) (by assumption) (by kernel_rfl) ?_
    simp only [pu_]
    refine skL 25 rfl rfl rfl rfl rfl rfl (fun _ _ _ h => h) (by assumption) (by kernel_rfl) ?_
    simp only [pu_]
    refine skL 26 rfl rfl rfl rfl rfl rfl (fun _ _ _ h => h) (by assumption) (by kernel_rfl) ?_
    simp only [pu_]
    refine tkL 27 ?_ rfl rfl ?_ (fun _ _ _ h => h) (by assumption) (by kernel_rfl) ?_
    rotate_left
    · intro W hSw
      clear hSw
      go_simp
      try with_reducible rfl
    simp only [pu_]
    refine wpAnyH_done (by kernel_rfl) (NoPanic.normal ?_) _
    have HFE := Lib.hid (HF7.out.then hHeld)
    clear hHeld
    go_wp2
    go_ret
    exact ⟨by rw [HR1.out] <;> rfl, HFE.out, fun h => absurd (by rw [HR1.out]) h⟩
  have d2 : (ca == g.call) = true := by rw [h2, beq_iff_eq]
  have d2' : (ca != g.call) = false := by rw [h2]; simp
  have H2 := Lib.hid h2
  clear h2
  refine wp_region_noPanic ?_
  obtain ⟨W1, rfl⟩ : ∃ W1 : World, W1 = w4 := ⟨_, rfl⟩
  refine wp_region_held_drew (S := fun W => Below W1.heap.size W1 W) (by kernel_rfl) (Below.drew (Below.refl _ _)) (fun hHeld => ?_)
  obtain ⟨Wg, hWg⟩ : ∃ z, World.drew W1 = z := ⟨_, rfl⟩
  rw [hWg] at hHeld ⊢
  clear hWg
  refine tkL 0 ?_ rfl rfl ?_ (fun _ _ _ h => h) (by assumption) (by kernel_rfl) ?_
  rotate_left
  · intro W hSw
    clear hSw
    go_simp
    try with_reducible rfl
  simp only [pu_]
  refine tkL 1 ?_ rfl rfl ?_ (fun _ _ _ h => h) (by assumption) (by kernel_rfl) ?_
  rotate_left
  · intro W hSw
    clear hSw
    go_simp
    try with_reducible rfl
  simp only [pu_]
  refine tkL 2 ?_ rfl rfl ?_ (fun _ _ _ h => h) (by assumption) (by kernel_rfl) ?_
  rotate_left
  · intro W hSw
    clear hSw
    go_simp
    try with_reducible rfl
  simp only [pu_]
  refine tkL 3 ?_ rfl rfl ?_ (fun _ _ _ h => h) (by assumption) (by kernel_rfl) ?_
  rotate_left
  · intro W hSw
    have t1 := (HP7.out.later hSw).pgc HI.out HY.out 1 (by decide)
    have t2 := (HP7.out.later hSw).pgc HI.out HY.out 2 (by decide)
    have e2 := (KE7.out.later hSw).cell 2
    have e3 := (KE7.out.later hSw).cell 3
    have e4 := (KE7.out.later hSw).cell 4
    have e5 := (KE7.out.later hSw).cell 5
    have e6 := (KE7.out.later hSw).cell 6
    have k0 := (K7.out.later hSw).cell 0
    have k1 := (K7.out.later hSw).cell 1
    simp only [pgE, List.getElem?_toArray, List.getElem?_cons_zero, List.getElem?_cons_succ, Nat.add_zero] at t1 t2 e2 e3 e4 e5 e6 k0 k1
    clear hSw
    go_simp
    try with_reducible rfl
  simp only [pu_]
  refine tkL 4 ?_ rfl rfl ?_ (fun _ _ _ h => h) (by assumption) (by kernel_rfl) ?_
  rotate_left
  · intro W hSw
    clear hSw
    go_simp
    try with_reducible rfl
  simp only [pu_]
  refine tkL 5 ?_ rfl rfl ?_ (fun _ _ _ h => h) (by assumption) (by kernel_rfl) ?_
  rotate_left
  · intro W hSw
    have t1 := (HP7.out.later hSw).pgc HI.out HY.out 1 (by decide)
    have t2 := (HP7.out.later hSw).pgc HI.out HY.out 2 (by decide)
    have e2 := (KE7.out.later hSw).cell 2
    have e3 := (KE7.out.later hSw).cell 3
    have e4 := (KE7.out.later hSw).cell 4
    have e5 := (KE7.out.later hSw).cell 5
    have e6 := (KE7.out.later hSw).cell 6
    have k0 := (K7.out.later hSw).cell 0
    have k1 := (K7.out.later hSw).cell 1
    simp only [pgE, List.getElem?_toArray, List.getElem?_cons_zero, List.getElem?_cons_succ, Nat.add_zero] at t1 t2 e2 e3 e4 e5 e6 k0 k1
    clear hSw
    go_simp
    try with_reducible rfl
  simp only [pu_]
  refine tkL 6 ?_ rfl rfl ?_ (fun _ _ _ h => h) (by assumption) (by kernel_rfl) ?_
  rotate_left
  · intro W hSw
    clear hSw
    go_simp
    try with_reducible rfl
  simp only [pu_]
  refine tkL 7 ?_ rfl rfl ?_ (fun _ _ _ h => h) (by assumption) (by kernel_rfl) ?_
  rotate_left
  · intro W hSw
    clear hSw
    go_simp
    try with_reducible rfl
  simp only [pu_]
  refine tkL 8 ?_ rfl rfl ?_ (fun _ _ _ h => h) (by assumption) (by kernel_rfl) ?_
  rotate_left
  · intro W hSw
    clear hSw
    go_simp
    try with_reducible rfl
  simp only [pu_]
  refine tkL 9 ?_ rfl rfl ?_ (fun _ _ _ h => h) (by assumption) (by kernel_rfl) ?_
  rotate_left
  · intro W hSw
    have t1 := (HP7.out.later hSw).pgc HI.out HY.out 1 (by decide)
    have t2 := (HP7.out.later hSw).pgc HI.out HY.out 2 (by decide)
    have e2 := (KE7.out.later hSw).cell 2
    have e3 := (KE7.out.later hSw).cell 3
    have e4 := (KE7.out.later hSw).cell 4
    have e5 := (KE7.out.later hSw).cell 5
    have e6 := (KE7.out.later hSw).cell 6
    have k0 := (K7.out.later hSw).cell 0
    have k1 := (K7.out.later hSw).cell 1
    simp only [pgE, List.getElem?_toArray, List.getElem?_cons_zero, List.getElem?_cons_succ, Nat.add_zero] at t1 t2 e2 e3 e4 e5 e6 k0 k1
    clear hSw
    go_simp
    try with_reducible rfl
  simp only [pu_]
  refine tkL 10 ?_ rfl rfl ?_ (fun _ _ _ h => h) (by assumption) (by kernel_rfl) ?_
  rotate_left
  · intro W hSw
    clear hSw
    go_simp
    try with_reducible rfl
  simp only [pu_]
  refine tkL 11 ?_ rfl rfl ?_ (fun _ _ _ h => h) (by assumption) (by kernel_rfl) ?_
  rotate_left
  · intro W hSw
    clear hSw
    go_simp
    try with_reducible rfl
  simp only [pu_]
  refine tkL 12 ?_ rfl rfl ?_ (fun _ _ _ h => h) (by assumption) (by kernel_rfl) ?_
  rotate_left
  · intro W hSw
    clear hSw
    go_simp
    try with_reducible rfl
  simp only [pu_]
  refine tkL 13 ?_ rfl rfl ?_ (fun _ _ _ h => h) (by assumption) (by kernel_rfl) ?_
  rotate_left
  · intro W hSw
    have t1 := (HP7.out.later hSw).pgc HI.out HY.out 1 (by decide)
    have t2 := (HP7.out.later hSw).pgc HI.out HY.out 2 (by decide)
    have e2 := (KE7.out.later hSw).cell 2
    have e3 := (KE7.out.later hSw).cell 3
    have e4 := (KE7.out.later hSw).cell 4
    have e5 := (KE7.out.later hSw).cell 5
    have e6 := (KE7.out.later hSw).cell 6
    have k0 := (K7.out.later hSw).cell 0
    have k1 := (K7.out.later hSw).cell 1
    simp only [pgE, List.getElem?_toArray, List.getElem?_cons_zero, List.getElem?_cons_succ, Nat.add_zero] at t1 t2 e2 e3 e4 e5 e6 k0 k1
    clear hSw
    go_simp
    try with_reducible rfl
  simp only [pu_]
  refine tkL 14 ?_ rfl rfl ?_ (fun _ _ _ h => h) (by assumption) (by kernel_rfl) ?_
  rotate_left
  · intro W hSw
    clear hSw
    go_simp
    try with_reducible rfl
  simp only [pu_]
  refine tkL 15 ?_ rfl rfl ?_ (fun _ _ _ h => h) (by assumption) (by kernel_rfl) ?_
  rotate_left
  · intro W hSw
    clear hSw
    go_simp
    try with_reducible rfl
  simp only [pu_]
  refine tkL 16 ?_ rfl rfl ?_ (fun _ _ _ h => h) (by assumption) (by kernel_rfl) ?_
  rotate_left
  · intro W hSw
    clear hSw
    go_simp
    try with_reducible rfl
  simp only [pu_]
  refine tkL 17 ?_ rfl rfl ?_ (fun _ _ _ h => h) (by assumption) (by kernel_rfl) ?_
  rotate_left
  · intro W hSw
    clear hSw
    go_simp
    try with_reducible rfl
  simp only [pu_]
  refine tkL 18 ?_ rfl rfl ?_ (fun _ _ _ h => h) (by assumption) (by kernel_rfl) ?_
  rotate_left
  · intro W hSw
    have t1 := (HP7.out.later hSw).pgc HI.out HY.out 1 (by decide)
    have t2 := (HP7.out.later hSw).pgc HI.out HY.out 2 (by decide)
    have e2 := (KE7.out.later hSw).cell 2
    have e3 := (KE7.out.later hSw).cell 3
    have e4 := (KE7.out.later hSw).cell 4
    have e5 := (KE7.out.later hSw).cell 5
    have e6 := (KE7.out.later hSw).cell 6
    have k0 := (K7.out.later hSw).cell 0
    have k1 := (K7.out.later hSw).cell 1
    simp only [pgE, List.getElem?_toArray, List.getElem?_cons_zero, List.getElem?_cons_succ, Nat.add_zero] at t1 t2 e2 e3 e4 e5 e6 k0 k1
    clear hSw
    go_simp
    try with_reducible rfl
  simp only [pu_]
  refine tkL 19 ?_ rfl rfl ?_ (fun _ _ _ h => h) (by assumption) (by kernel_rfl) ?_
  rotate_left
  · intro W hSw
    clear hSw
    go_simp
    try with_reducible rfl
  simp only [pu_]
  refine tkL 20 ?_ rfl rfl ?_ (fun _ _ _ h => h) (by assumption) (by kernel_rfl) ?_
  rotate_left
  · intro W hSw
    clear hSw
    go_simp
    try with_reducible rfl
  simp only [pu_]
  refine skL 21 rfl rfl rfl rfl rfl rfl (fun _ _ _ h => h) (by assumption) (by kernel_rfl) ?_
  simp only [pu_]
  refine skL 22 rfl rfl rfl rfl rfl rfl (fun _ _ _ h => h) (by assumption) (by kernel_rfl) ?_
  simp only [pu_]
  refine skL 23 rfl rfl rfl rfl rfl rfl (fun _ _ _ h => h) (by assumption) (by kernel_rfl) ?_
  simp only [pu_]
  refine skL 24 rfl rfl rfl rfl rfl rfl (fun _ _ _ h => h) (by assumption) (by kernel_rfl) ?_
  simp only [pu_]
  refine skL 25 rfl rfl rfl rfl rfl rfl (fun _ _ _ h => h) (by assumption) (by kernel_rfl) ?_
  simp only [pu_]
  refine tkL 26 ?_ rfl rfl ?_ (fun _ _ _ h => h) (by assumption) (by kernel_rfl) ?_
  rotate_left
  · intro W hSw
    clear hSw
    go_simp
    try with_reducible rfl
  simp only [pu_]
  refine tkL 27 ?_ rfl rfl ?_ (fun _ _ _ h => h) (by assumption) (by kernel_rfl) ?_
  rotate_left
  · intro W hSw
    clear hSw
    go_simp
    try with_reducible rfl
  simp only [pu_]
  refine wpAnyH_done (by kernel_rfl) (NoPanic.normal ?_) _
  have HF8 := Lib.hid (HF7.out.then hHeld)
  have HP8 := Lib.hid (HP7.out.later hHeld)
  have KE8 := Lib.hid (KE7.out.later hHeld)
  have K8 := Lib.hid (K7.out.later hHeld)
  have HER8 := Lib.hid (HER.out.fw HF8.out)
  clear hHeld HF7 HP7 KE7 K7 HER d1 d1' d2 d2'
  go_upto_region 7 with (fail)
  have e0 := KE8.out.cell 0
  have e1 := KE8.out.cell 1
  have e2 := KE8.out.cell 2
  have e3 := KE8.out.cell 3
  have e4 := KE8.out.cell 4
  have e5 := KE8.out.cell 5
  have e6 := KE8.out.cell 6
  have k2 := K8.out.cell 2
  simp only [List.getElem?_toArray, List.getElem?_cons_zero, List.getElem?_cons_succ] at e0 e1 e2 e3 e4 e5 e6 k2
  obtain ⟨kd, d, hkd, hd, _, _, _⟩ := HMR.out H1.out
  have HR1 := Lib.hid (HYES.out kd d H1.out H2.out hkd hd)
  obtain ⟨q, hq⟩ : ∃ q : Int, (if (er, fo, va, pr) = d.a then 0 else 7) = q := ⟨_, rfl⟩
  have HQ4 : Hid (R.2 = q) := Lib.hid (by rw [HR1.out]; exact hq)
  have HBC := Lib.hid (back_any HP8.out HI.out 3 (i : Int) ca er fo va A m cc (pr := pr) hkd hd HM.out HER8.out HL.out (HGB.out))
  rw [hq] at HBC
  clear hq
  go_wp2_with fail
  refine HBC.out.mono ?_
  rintro e w9 ⟨rfl, hf, hp⟩
  clear HBC HER8
  have HF9 := Lib.hid (HF8.out.trans hf)
  have HP9 := Lib.hid hp
  clear hf hp HF8 HP8 KE8 K8 e0 e1 e2 e3 e4 e5 e6 k2
  have c2 := HP9.out.c0 2
  simp only [plC, List.getElem?_cons_zero, List.getElem?_cons_succ] at c2
  have f2 := HP9.out.blk.frozen 2
  have wc : IntKind.i64.wrap (p.taken + 1) = p.taken + 1 := IntWalk.i64_in _ (by have := HTK.out; omega)
  have wc2 : wrap64 (p.taken + 1) = p.taken + 1 := by have := HTK.out; unfold wrap64; omega
  have HT := Lib.hid (HP9.out.tick (p.taken + 1))
  go_wp2
  go_ret
  exact ⟨by rw [HQ4.out] <;> rfl, HF9.out.trans HT.out.2, fun _ => ⟨x, by rw [HR1.out]; exact HT.out.1⟩⟩
end Go.Proofs.Ytoinjnocopejjaa
