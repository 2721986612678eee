/- Copy. -/
import Derived.Test.YtoinjnocopejjaaCP
import Derived.Test.YtoinjnocopejjaaNX
import Derived.StillTailTactics
namespace Go.Proofs.Ytoinjnocopejjaa
open Go.ChangeShapes Go.WideShapes Go.ChangeAt Go.RowKit Go.Maps
set_option linter.unusedVariables false
set_option linter.unusedSimpArgs false
theorem below_cell {B q : Nat} {w W : World} (h : Below B w W) (hq : B ≤ q) (j : Nat) (v : Value) : Below B w (W.setCell ⟨q, j, none⟩ v) :=
  h.trans ⟨rfl, rfl, rfl, by simp, fun k hk => Below.heap_setCell W ⟨q, j, none⟩ v k (fun e => by have e : k = q := e; omega)⟩
set_option maxRecDepth 100000 in
set_option maxHeartbeats 1600000 in
theorem copy_any (B p : Nat) (s : MS) (S : Nat → Prop) (w : World) (h : MR w B p s S) (hn : s.txns.length ≤ 100000) : Calls Try.prog 26 #[.pointer (some ⟨p, 0, none⟩)] w fun e w' => ∃ q S', e = .returned (.pointer (some ⟨q, 0, none⟩)) ∧ MR w' w.heap.size q s S' ∧ Below w.heap.size w w' := by
  have HTL := Lib.hid hn
  clear hn
  obtain ⟨x, h, rfl⟩ := h
  have HM := Lib.hid h
  obtain ⟨m, hm⟩ : ∃ m, s.tasks.length = m := ⟨_, rfl⟩
  have HMM := Lib.hid hm
  have hm6 : m ≤ 6 := by have := may_lo h.ok.may; have := h.ok.ntask; omega
  have HM6 := Lib.hid hm6
  obtain ⟨A, c, hav, hac, hnil, hrx⟩ : ∃ A c, x.tv = .slice A s.txns.length c ∧ s.txns.length ≤ c ∧ (A = none → s.txns.length = 0 ∧ c = 0) ∧ RSl txE 2 w A s.txns.length s.txns := by
    have htx := h.tx
    obtain ⟨A, c, e, h1, h2⟩ := htx.sl
    rw [e] at htx
    exact ⟨A, c, e, h1, h2, htx.rsl txE_len⟩
  have HRX := Lib.hid hrx
  have HNIL := Lib.hid hnil
  have k0 := h.blk
  rw [hm] at k0
  have KP : Hid (Blk w p #[.int .i64 s.cf.ta, .int .i64 s.cf.ac, .int .i64 s.cf.ke, .int .i64 s.cf.de, .int .i64 s.cf.ts, .int .i64 s.cf.kl, .int .i64 s.cf.vl, .int .i64 s.cf.fa, .int .i64 s.clock, .int .i64 s.floor, x.tv, .slice (some ⟨x.tb, 0, none⟩) m m, .map (some x.b)] 110) := Lib.hid k0
  have hb1 : Below w.heap.size w (w.alloc (.cells #[.int .i64 s.cf.ta, .int .i64 s.cf.ac, .int .i64 s.cf.ke, .int .i64 s.cf.de, .int .i64 s.cf.ts, .int .i64 s.cf.kl, .int .i64 s.cf.vl, .int .i64 s.cf.fa, .int .i64 s.clock, .int .i64 s.floor, x.tv, .slice (some ⟨x.tb, 0, none⟩) m m, .map (some x.b)] 110)) := (Below.refl _ _).alloc (Nat.le_refl _) _
  have HB := Lib.hid hb1
  have KQ : Hid (Blk (w.alloc (.cells #[.int .i64 s.cf.ta, .int .i64 s.cf.ac, .int .i64 s.cf.ke, .int .i64 s.cf.de, .int .i64 s.cf.ts, .int .i64 s.cf.kl, .int .i64 s.cf.vl, .int .i64 s.cf.fa, .int .i64 s.clock, .int .i64 s.floor, x.tv, .slice (some ⟨x.tb, 0, none⟩) m m, .map (some x.b)] 110)) w.heap.size #[.int .i64 s.cf.ta, .int .i64 s.cf.ac, .int .i64 s.cf.ke, .int .i64 s.cf.de, .int .i64 s.cf.ts, .int .i64 s.cf.kl, .int .i64 s.cf.vl, .int .i64 s.cf.fa, .int .i64 s.clock, .int .i64 s.floor, x.tv, .slice (some ⟨x.tb, 0, none⟩) m m, .map (some x.b)] 110) := Lib.hid (Blk.new w _ 110)
  rw [hav] at KP KQ HB
  have HAV := Lib.hid hav
  clear h hm hm6 hav hac hnil hrx k0 hb1
  have z0 := KP.out.cell 0
  have z1 := KP.out.cell 1
  have z2 := KP.out.cell 2
  have z3 := KP.out.cell 3
  have z4 := KP.out.cell 4
  have z5 := KP.out.cell 5
  have z6 := KP.out.cell 6
  have z7 := KP.out.cell 7
  have z8 := KP.out.cell 8
  have z9 := KP.out.cell 9
  have z10 := KP.out.cell 10
  have z11 := KP.out.cell 11
  have z12 := KP.out.cell 12
  simp only [List.getElem?_toArray, List.getElem?_cons_zero, List.getElem?_cons_succ] at z0 z1 z2 z3 z4 z5 z6 z7 z8 z9 z10 z11 z12
  go_enter Try.func26, Try.ntmps26
  go_upto_region 4 with (fail)
  clear z0 z1 z2 z3 z4 z5 z6 z7 z8 z9 z10 z11 z12
  generalize (w.alloc (.cells #[.int .i64 s.cf.ta, .int .i64 s.cf.ac, .int .i64 s.cf.ke, .int .i64 s.cf.de, .int .i64 s.cf.ts, .int .i64 s.cf.kl, .int .i64 s.cf.vl, .int .i64 s.cf.fa, .int .i64 s.clock, .int .i64 s.floor, .slice A s.txns.length c, .slice (some ⟨x.tb, 0, none⟩) m m, .map (some x.b)] 110)) = w1 at *
  obtain ⟨q, hq⟩ : ∃ q, w.heap.size = q := ⟨_, rfl⟩
  have HQ := Lib.hid hq
  rw [hq] at KQ ⊢
  clear hq
  have z3 := (HB.out.cell (p := ⟨p, 10, none⟩) KP.out.lt).trans (KP.out.cell 10)
  simp only [List.getElem?_toArray, List.getElem?_cons_zero, List.getElem?_cons_succ] at z3
  go_wp2_with fail
  refine (clonet_any A s.txns.length c s.txns _ (HRX.out.later HB.out) (by have := HTL.out; omega) HNIL.out).mono ?_
  rintro e w2 ⟨tv, rfl, hro, hb⟩
  obtain ⟨A2, c2, rfl, _, _⟩ := hro.sl
  have HRO := Lib.hid (hro.base HB.out.size)
  replace HB := Lib.hid (stepB HB.out hb)
  replace KQ := Lib.hid (KQ.out.later hb)
  clear hb hro z3
  have z10 := KQ.out.cell 10
  have f10 := KQ.out.frozen 10
  simp only [List.getElem?_toArray, List.getElem?_cons_zero, List.getElem?_cons_succ] at z10
  go_upto_region 5 with (fail)
  have KQ3 : Hid (Blk (w2.setCell ⟨q, 10, none⟩ (.slice A2 s.txns.length c2)) q #[.int .i64 s.cf.ta, .int .i64 s.cf.ac, .int .i64 s.cf.ke, .int .i64 s.cf.de, .int .i64 s.cf.ts, .int .i64 s.cf.kl, .int .i64 s.cf.vl, .int .i64 s.cf.fa, .int .i64 s.clock, .int .i64 s.floor, .slice A2 s.txns.length c2, .slice (some ⟨x.tb, 0, none⟩) m m, .map (some x.b)] 110) := Lib.hid (KQ.out.set (j := 10) _)
  have HRO3 := Lib.hid (rown_setO (j := 10) (u := .slice A2 s.txns.length c2) HRO.out KQ.out (by decide))
  have HB3 : Hid (Below w.heap.size w (w2.setCell ⟨q, 10, none⟩ (.slice A2 s.txns.length c2))) := Lib.hid (below_cell HB.out (show w.heap.size ≤ q from Nat.le_of_eq HQ.out) 10 _)
  clear z10 f10 KQ HRO HB
  generalize w2.setCell ⟨q, 10, none⟩ (.slice A2 s.txns.length c2) = w3 at *
  have z4 := (HB3.out.cell (p := ⟨p, 11, none⟩) KP.out.lt).trans (KP.out.cell 11)
  have z11 := KQ3.out.cell 11
  have f11 := KQ3.out.frozen 11
  simp only [List.getElem?_toArray, List.getElem?_cons_zero, List.getElem?_cons_succ] at z4 z11
  have hms := make85 m (by have := HM6.out; omega) w3
  rw [made_rep, List.toArray_replicate] at hms
  have KQ4 : Hid (Blk (w3.alloc (.cells (Array.replicate m (Value.slice none 0 0)) 85)) q #[.int .i64 s.cf.ta, .int .i64 s.cf.ac, .int .i64 s.cf.ke, .int .i64 s.cf.de, .int .i64 s.cf.ts, .int .i64 s.cf.kl, .int .i64 s.cf.vl, .int .i64 s.cf.fa, .int .i64 s.clock, .int .i64 s.floor, .slice A2 s.txns.length c2, .slice (some ⟨x.tb, 0, none⟩) m m, .map (some x.b)] 110) := Lib.hid (KQ3.out.alloc _)
  have z11a := KQ4.out.cell 11
  have f11a := KQ4.out.frozen 11
  simp only [List.getElem?_toArray, List.getElem?_cons_zero, List.getElem?_cons_succ] at z11a
  go_upto_region 6 with (fail)
  clear z4 z11 f11 z11a f11a hms
  have hb4 : Below w3.heap.size w3 (w3.alloc (.cells (Array.replicate m (Value.slice none 0 0)) 85)) := (Below.refl _ _).alloc (Nat.le_refl _) _
  have KT4 : Hid (Blk (w3.alloc (.cells (Array.replicate m (Value.slice none 0 0)) 85)) w3.heap.size (Array.replicate m (Value.slice none 0 0)) 85) := Lib.hid (Blk.new w3 _ 85)
  have HNQ : Hid (q ≠ w3.heap.size) := Lib.hid (by have := KQ3.out.lt; omega)
  have KT5 := Lib.hid (KT4.out.other HNQ.out.symm (j := 11) (.slice (some ⟨w3.heap.size, 0, none⟩) m m))
  have KQ5 : Hid (Blk ((w3.alloc (.cells (Array.replicate m (Value.slice none 0 0)) 85)).setCell ⟨q, 11, none⟩ (.slice (some ⟨w3.heap.size, 0, none⟩) m m)) q #[.int .i64 s.cf.ta, .int .i64 s.cf.ac, .int .i64 s.cf.ke, .int .i64 s.cf.de, .int .i64 s.cf.ts, .int .i64 s.cf.kl, .int .i64 s.cf.vl, .int .i64 s.cf.fa, .int .i64 s.clock, .int .i64 s.floor, .slice A2 s.txns.length c2, .slice (some ⟨w3.heap.size, 0, none⟩) m m, .map (some x.b)] 110) := Lib.hid (KQ4.out.set (j := 11) _)
  have HRO5 := Lib.hid (rown_setO (j := 11) (u := .slice (some ⟨w3.heap.size, 0, none⟩) m m) (HRO3.out.later hb4) KQ4.out (by decide))
  have HB5 : Hid (Below w.heap.size w ((w3.alloc (.cells (Array.replicate m (Value.slice none 0 0)) 85)).setCell ⟨q, 11, none⟩ (.slice (some ⟨w3.heap.size, 0, none⟩) m m))) := Lib.hid (below_cell (stepB HB3.out hb4) (show w.heap.size ≤ q from Nat.le_of_eq HQ.out) 11 _)
  have HTB : Hid (w.heap.size ≤ w3.heap.size) := Lib.hid HB3.out.size
  clear hb4 KT4 KQ4 KQ3 HRO3 HB3
  generalize (w3.alloc (.cells (Array.replicate m (Value.slice none 0 0)) 85)).setCell ⟨q, 11, none⟩ (.slice (some ⟨w3.heap.size, 0, none⟩) m m) = w5 at *
  obtain ⟨tb, htb⟩ : ∃ tb, w3.heap.size = tb := ⟨_, rfl⟩
  rw [htb] at KT5 KQ5 HTB HNQ ⊢
  clear htb
  have HC5 : Hid (CpW w w5 s q tb m 0 (.slice A2 s.txns.length c2) (.map (some x.b)) (List.replicate m (.slice none 0 0))) := Lib.hid ⟨HB5.out, KQ5.out, by rw [List.toArray_replicate]; exact KT5.out, List.length_replicate, fun i v l h1 => absurd h1 (Nat.not_lt_zero i), fun i _ h2 => by rw [List.getElem?_replicate, if_pos h2], List.pairwise_iff_getElem.2 (fun i j hi hj hij k e => by rw [List.getElem_replicate] at e; cases e), HRO5.out⟩
  have z4 := (HB5.out.cell (p := ⟨p, 11, none⟩) KP.out.lt).trans (KP.out.cell 11)
  simp only [List.getElem?_toArray, List.getElem?_cons_zero, List.getElem?_cons_succ] at z4
  go_wp2
  clear z4 KT5 KQ5 HRO5 HB5
  go_loopw [29] (fun ix W => ∃ (k : Nat) (kv : List Value), k ≤ m ∧ ix = .int .i64 k ∧ CpW w W s q tb m k (.slice A2 s.txns.length c2) (.map (some x.b)) kv) (fun ix _ => m - (intOf ix).toNat)
  case atStart => exact ⟨0, _, Nat.zero_le _, rfl, HC5.out⟩
  case round =>
    obtain ⟨k, kv, hk, rfl, hc⟩ := hrel
    have HC := Lib.hid hc
    clear hc HC5
    by_cases hlt : k < m
    · have d2 : decide ((k : Int) < (m : Int)) = true := decide_eq_true (by omega)
      have wk : IntKind.i64.wrap ((k : Int) + 1) = (k : Int) + 1 := IntWalk.i64_in _ (by have := HM6.out; omega)
      have wk2 : wrap64 ((k : Int) + 1) = (k : Int) + 1 := by have := HM6.out; unfold wrap64; omega
      have hkl : k < x.kv.length := by rw [HM.out.kl, HMM.out]; exact hlt
      have htl : k < s.tasks.length := by rw [HMM.out]; exact hlt
      have hvk : x.kv[k]? = some x.kv[k] := List.getElem?_eq_getElem hkl
      have hlk : s.tasks[k]? = some s.tasks[k] := List.getElem?_eq_getElem htl
      have hno := HM.out.num k _ _ hvk hlk
      have hln := (HM.out.ok.nums _ (List.getElem_mem htl)).1
      generalize x.kv[k] = v at *
      generalize s.tasks[k] = l at *
      obtain ⟨A3, c3, rfl, _⟩ := Ow.sl hno
      have HNO := Lib.hid hno
      have HLK := Lib.hid hlk
      have HLN := Lib.hid (show l.length ≤ 100000 by have := HTL.out; omega)
      have y0 : wr.cell? ⟨x.tb, k, none⟩ = some (.slice A3 l.length c3) := (HC.out.below.cell (p := ⟨x.tb, k, none⟩) HM.out.tb.lt).trans (by rw [HM.out.tb.cell, List.getElem?_toArray]; exact hvk)
      have i1 := idx107 x.tb 0 m m k (k : Int) rfl hlt
      have i2 := idx107 tb 0 m m k (k : Int) rfl hlt
      simp only [Nat.zero_add] at i1 i2
      clear hkl htl hvk hlk hno hln
      go_upto_region 9 with (fail)
      clear y0 i1
      have HLT := Lib.hid hlt
      refine wp_region_noPanic ?_
      obtain ⟨W0, rfl⟩ : ∃ W0 : World, W0 = wr := ⟨_, rfl⟩
      refine wp_region_held_drew (S := fun W => W.cell? ⟨q, 11, none⟩ = some (.slice (some ⟨tb, 0, none⟩) m m)) (by kernel_rfl) (by have h0 := HC.out.kq.cell 11; simp only [List.getElem?_toArray, List.getElem?_cons_zero, List.getElem?_cons_succ] at h0; exact h0) (fun hHeld => ?_)
      replace HC : Hid (CpW w (World.drew W0) s q tb m k (.slice A2 s.txns.length c2) (.map (some x.b)) kv) := Lib.hid (HC.out.later (Below.drew (Below.refl _ _)))
      have HOL : Hid (Below w.heap.size w (World.drew W0)) := Lib.hid HC.out.below
      generalize World.drew W0 = Wd at *
      refine wpAnyH_take (i := 0) (oi := { dst := some 34, op := Op.fieldAddr 110 (Operand.tmp 3) 4, type := 0, pos := "model.go:350", after := #[], guard := none }) (v := ?_) rfl (by kernel_rfl) (by kernel_rfl) (by kernel_rfl) (fun _ _ _ h => h) (Or.inl ⟨by rfl, ?_⟩) (by assumption) ?_
      rotate_left
      · intro W hSw
        clear hSw
        go_simp
        try with_reducible rfl
      simp only [Act.put, List.setIfInBounds_toArray, List.set_cons_zero, List.set_cons_succ]
      refine wpAnyH_take (i := 1) (oi := { dst := some 35, op := Op.load 107 (Operand.tmp 34), type := 107, pos := "model.go:350", after := #[{ on := 0, ground := Ground.data }], guard := none }) (v := ?_) rfl (by kernel_rfl) (by kernel_rfl) (by kernel_rfl) (fun _ _ _ h => h) (Or.inl ⟨by rfl, ?_⟩) (by assumption) ?_
      rotate_left
      · intro W hSw
        have q11 := hSw
        clear hSw
        go_simp
        try with_reducible rfl
      simp only [Act.put, List.setIfInBounds_toArray, List.set_cons_zero, List.set_cons_succ]
      refine wpAnyH_take (i := 2) (oi := { dst := some 36, op := Op.move (Operand.tmp 4), type := 3, pos := "model.go:350", after := #[], guard := none }) (v := ?_) rfl (by kernel_rfl) (by kernel_rfl) (by kernel_rfl) (fun _ _ _ h => h) (Or.inl ⟨by rfl, ?_⟩) (by assumption) ?_
      rotate_left
      · intro W hSw
        clear hSw
        go_simp
        try with_reducible rfl
      simp only [Act.put, List.setIfInBounds_toArray, List.set_cons_zero, List.set_cons_succ]
      refine wpAnyH_take (i := 3) (oi := { dst := some 37, op := Op.move (Operand.tmp 5), type := 85, pos := "model.go:350", after := #[], guard := none }) (v := ?_) rfl (by kernel_rfl) (by kernel_rfl) (by kernel_rfl) (fun _ _ _ h => h) (Or.inl ⟨by rfl, ?_⟩) (by assumption) ?_
      rotate_left
      · intro W hSw
        clear hSw
        go_simp
        try with_reducible rfl
      simp only [Act.put, List.setIfInBounds_toArray, List.set_cons_zero, List.set_cons_succ]
      refine wpAnyH_ready (rs := [4]) (by kernel_rfl) (by simp) (AllReadyH.cons (o := { dst := some 38, op := Op.call { callee := Callee.value (Operand.func 69), args := #[Operand.tmp 37], argTypes := #[85] }, type := 85, pos := "model.go:350", after := #[{ on := 3, ground := Ground.data }], guard := none }) rfl (fun K hK => ?_) AllReadyH.nil)
      have HCL := Lib.hid (clonei_any B (.slice A3 l.length c3) l Wd (Ow.later HNO.out HOL.out) HLN.out)
      go_simp
      refine HCL.out.mono ?_
      rintro e w6 ⟨v', rfl, ho, hb⟩
      obtain ⟨A9, c9, rfl, _⟩ := Ow.sl ho
      have HBD := Lib.hid (HC.out.bound HMM.out)
      have HNV := Lib.hid ho
      have HBS := Lib.hid HC.out.below.size
      replace HC := Lib.hid (HC.out.later hb)
      clear ho hb hHeld HCL HOL
      refine hK.out _ _ (by have h0 := HC.out.kq.cell 11; simp only [List.getElem?_toArray, List.getElem?_cons_zero, List.getElem?_cons_succ] at h0; exact h0) (fun hHeld => ?_)
      clear hK K
      refine wpAnyH_take (i := 5) (oi := { dst := some 39, op := Op.indexAddr 107 (Operand.tmp 35) (Operand.tmp 36), type := 0, pos := "model.go:350", after := #[{ on := 1, ground := Ground.data }, { on := 2, ground := Ground.data }, { on := 0, ground := Ground.phase }, { on := 1, ground := Ground.phase }, { on := 2, ground := Ground.phase }, { on := 3, ground := Ground.phase }, { on := 4, ground := Ground.phase }], guard := none }) (v := ?_) rfl (by kernel_rfl) (by kernel_rfl) (by kernel_rfl) (fun _ _ _ h => h) (Or.inl ⟨by rfl, ?_⟩) (by assumption) ?_
      rotate_left
      · intro W hSw
        clear hSw
        go_simp
        try with_reducible rfl
      simp only [Act.put, List.setIfInBounds_toArray, List.set_cons_zero, List.set_cons_succ]
      refine wpAnyH_ready (rs := [6]) (by kernel_rfl) (by simp) (AllReadyH.cons (o := { dst := none, op := Op.store 85 (Operand.tmp 39) (Operand.tmp 38), type := 0, pos := "model.go:350", after := #[{ on := 5, ground := Ground.data }, { on := 4, ground := Ground.data }, { on := 4, ground := Ground.chain }, { on := 0, ground := Ground.phase }, { on := 1, ground := Ground.phase }, { on := 2, ground := Ground.phase }, { on := 3, ground := Ground.phase }, { on := 4, ground := Ground.phase }], guard := none }) rfl (fun K hK => ?_) AllReadyH.nil)
      have hlt := HLT.out
      have fz := HC.out.kt.frozen k
      have cz : w6.cell? ⟨tb, k, none⟩ = some (.slice none 0 0) := by rw [HC.out.kt.cell, List.getElem?_toArray]; exact HC.out.rest k (Nat.le_refl _) hlt
      clear hlt
      go_simp
      have HC7 := Lib.hid (HC.out.step HLT.out HLK.out HNV.out HBS.out HTB.out HBD.out HNQ.out)
      clear fz cz hHeld HC HNV HBD HBS
      refine hK.out _ _ (by have h0 := HC7.out.kq.cell 11; simp only [List.getElem?_toArray, List.getElem?_cons_zero, List.getElem?_cons_succ] at h0; exact h0) (fun hHeld => ?_)
      clear hK K
      refine wpAnyH_done (by kernel_rfl) (NoPanic.normal ?_) _
      clear hHeld
      generalize w6.setCell ⟨tb, k, none⟩ (.slice A9 l.length c9) = w7 at *
      go_wp2
      have hlt := HLT.out
      refine ⟨⟨k + 1, _, by omega, by go_num, HC7.out⟩, ?_⟩
      simp [intOf]; omega
    · obtain rfl : m = k := by omega
      have d2 : decide ((m : Int) < (m : Int)) = false := decide_eq_false (by omega)
      have z5 := (HC.out.below.cell (p := ⟨p, 12, none⟩) KP.out.lt).trans (KP.out.cell 12)
      simp only [List.getElem?_toArray, List.getElem?_cons_zero, List.getElem?_cons_succ] at z5
      have HMP : Hid (Calls Try.prog 70 #[.map (some x.b)] wr fun e w' => e = .returned (.map (some wr.heap.size)) ∧ w'.ownsMap Try.prog 9 RH wr.heap.size s.rows.length (DM x) ∧ Below wr.heap.size wr w') := Lib.hid (clonem_any x.b s.rows.length (DM x) wr (map_keep HM.out.map (HC.out.below.block x.b HM.out.map.lt)))
      go_wp2_with fail
      refine HMP.out.mono ?_
      rintro e w6 ⟨rfl, hom, hb⟩
      have HOM := Lib.hid hom
      have HC6 := Lib.hid (HC.out.later hb)
      have HBB := Lib.hid (show w.heap.size ≤ wr.heap.size from HC.out.below.size)
      obtain ⟨mb, hmb⟩ : ∃ mb, wr.heap.size = mb := ⟨_, rfl⟩
      rw [hmb] at HOM HBB ⊢
      clear hom hb HC z5 HMP hmb
      have z12 := HC6.out.kq.cell 12
      have f12 := HC6.out.kq.frozen 12
      simp only [List.getElem?_toArray, List.getElem?_cons_zero, List.getElem?_cons_succ] at z12
      have KQ7 : Hid (Blk (w6.setCell ⟨q, 12, none⟩ (.map (some mb))) q #[.int .i64 s.cf.ta, .int .i64 s.cf.ac, .int .i64 s.cf.ke, .int .i64 s.cf.de, .int .i64 s.cf.ts, .int .i64 s.cf.kl, .int .i64 s.cf.vl, .int .i64 s.cf.fa, .int .i64 s.clock, .int .i64 s.floor, .slice A2 s.txns.length c2, .slice (some ⟨tb, 0, none⟩) m m, .map (some mb)] 110) := Lib.hid (HC6.out.kq.set (j := 12) _)
      have HB7 : Hid (Below w.heap.size w (w6.setCell ⟨q, 12, none⟩ (.map (some mb)))) := Lib.hid (below_cell HC6.out.below (show w.heap.size ≤ q from Nat.le_of_eq HQ.out) 12 _)
      have HFIN : Hid (MR (w6.setCell ⟨q, 12, none⟩ (.map (some mb))) w.heap.size q s (MxS q ⟨.slice A2 s.txns.length c2, tb, kv, mb, x.hs⟩)) := Lib.hid (by
        have hne : mb ≠ q := fun e => by
          subst e
          obtain ⟨es, cl, h1, _⟩ := HOM.out
          have h2 : w6.heap[mb]? = some (.cells _ 110 (0, 0)) := HC6.out.kq
          rw [h1] at h2; cases h2
        refine ⟨⟨.slice A2 s.txns.length c2, tb, kv, mb, x.hs⟩, ⟨Nat.le_of_eq HQ.out, ?_, rown_setO HC6.out.tx HC6.out.kq (by decide), HTB.out, HC6.out.kt.other HNQ.out.symm _, HC6.out.kl.trans HMM.out.symm, fun i v l h1 h2 => ow_setO (HC6.out.num i v l (by have := (List.getElem?_eq_some_iff.1 h1).1; rw [HC6.out.kl] at this; exact this) h1 h2) HC6.out.kq (by decide), HC6.out.ap, HBB.out, map_keep HOM.out (Below.heap_setCell w6 ⟨q, 12, none⟩ _ mb hne), HM.out.rows, fun qh hq => ?_, HM.out.ok⟩, rfl⟩
        · show Blk _ q (mdC s.cf s.clock s.floor (.slice A2 s.txns.length c2) tb s.tasks.length mb).toArray 110
          rw [HMM.out]; exact KQ7.out
        · exact (HM.out.ver qh hq).keep (fun g cur hg => HB7.out.block g (Array.getElem?_eq_some_iff.1 hg).1))
      clear HC6 HOM
      go_wp2
      go_ret
      exact ⟨q, _, rfl, HFIN.out, HB7.out⟩
end Go.Proofs.Ytoinjnocopejjaa
