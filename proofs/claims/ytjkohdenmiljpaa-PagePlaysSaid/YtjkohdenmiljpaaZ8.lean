/- A step, done to both pages. -/
import Derived.Test.YtjkohdenmiljpaaZ7
namespace Go.Proofs.Ytjkohdenmiljpaa
open Go.ChangeShapes Go.WideShapes Go.ChangeAt Go.RowKit Go.Maps
set_option linter.unusedVariables false
set_option linter.unusedSimpArgs false

theorem step_callw {P : Program} {ops : Array Oper} {Q : Exit → Act → World → Prop} {o : Oper} {a : Act} {w : World} {K : Act → World → Prop} {D : Prop} (hw : Region.wanted o (yielded ops a.tmps) = true) (f : FuncId) (args : Array Value) (hrun : (execOp a.eval o).run P w = .ok (.enter f args) w) (h : Calls P f args w fun e w' => ∃ v, e = .returned v ∧ K (a.put o.dst v) w') :
    if Region.wanted o (yielded ops a.tmps) = true then Oper.wp P o a w K Q else D := by
  rw [if_pos hw]
  unfold Oper.wp
  rw [hrun, Oper.upon_enter]
  refine h.mono fun e w' hh => ?_
  obtain ⟨v, rfl, hk⟩ := hh
  exact hk

/-- all but both pages stays -/
structure FrP (w w' : World) (p b q : Nat) (vB vU : Value) : Prop where
  os : w'.os = w.os
  tape : w'.tape = w.tape
  output : w'.output = w.output
  size : w.heap.size ≤ w'.heap.size
  block : ∀ k, k < w.heap.size → k ≠ p → k ≠ b → k ≠ q → vB.ownBlock ≠ some k → vU.ownBlock ≠ some k → w'.heap[k]? = w.heap[k]?
section
variable {w w' w2 : World} {p b q B s : Nat} {vB vU vB2 vU2 : Value}
theorem FrP.of_fr (h : Fr w w' p b) : FrP w w' p b q vB vU := ⟨h.os, h.tape, h.output, h.size, fun k hk h1 h2 _ _ _ => h.block k hk h1 h2⟩
theorem FrP.of_frD (h : FrD w w' q vB vU) : FrP w w' p b q vB vU := ⟨h.os, h.tape, h.output, h.size, fun k hk _ _ h3 h4 h5 => h.block k hk h3 h4 h5⟩
theorem FrP.of_below (h : Below w.heap.size w w') : FrP w w' p b q vB vU := .of_fr (Fr.of_below h)
theorem FrP.trans (h : FrP w w' p b q vB vU) (k : FrP w' w2 p b q vB2 vU2) (h1 : Nw w vB vB2) (h2 : Nw w vU vU2) : FrP w w2 p b q vB vU :=
  ⟨k.os.trans h.os, k.tape.trans h.tape, k.output.trans h.output, Nat.le_trans h.size k.size, fun i hi a1 a2 a3 a4 a5 =>
    (k.block i (Nat.lt_of_lt_of_le hi h.size) a1 a2 a3 (fun e => (h1 i e).elim a4 (by omega)) (fun e => (h2 i e).elim a5 (by omega))).trans (h.block i hi a1 a2 a3 a4 a5)⟩
theorem FrP.below {w0 : World} {B0 : Nat} (h : FrP w w' p b q vB vU) (hb : Below B0 w0 w) (hB : B0 ≤ w.heap.size) (h1 : B0 ≤ p ∧ B0 ≤ b ∧ B0 ≤ q) (h2 : ∀ k, vB.ownBlock = some k → B0 ≤ k) (h3 : ∀ k, vU.ownBlock = some k → B0 ≤ k) : Below B0 w0 w' :=
  hb.trans ⟨h.os, h.tape, h.output, h.size, fun k hk => h.block k (by omega) (by omega) (by omega) (by omega) (fun e => by have := h2 k e; omega) (fun e => by have := h3 k e; omega)⟩
end
/-- what is done to both -/
def DoEnd (B p b q s : Nat) (st : PS) (vB vU : Value) (w : World) (e : Ending) (w' : World) : Prop :=
  e = .returned (.bool true) ∧ PgS w' B p b s st ∧ (∃ Bs Us Bk vB' vU' vK', Dx w' B q s Bs Us Bk vB' vU' vK' ∧ Rel s st Bs Us Bk) ∧ FrP w w' p b q vB vU
theorem do_end {B p b q s : Nat} {st : PS} {vB vU : Value} {w w' : World} {r : Bool} (hr : r = true) (h1 : PgS w' B p b s st) (h2 : ∃ Bs Us Bk vB' vU' vK', Dx w' B q s Bs Us Bk vB' vU' vK' ∧ Rel s st Bs Us Bk) (h3 : FrP w w' p b q vB vU) : DoEnd B p b q s st vB vU w (.returned (.bool r)) w' := by
  subst hr; exact ⟨rfl, h1, h2, h3⟩
abbrev SX (px : Nat) (kd sa so : Int) (sst : ByteArray) (W : World) : Prop := W.cell? ⟨px, 0, none⟩ = some (.int .u8 kd) ∧ W.cell? ⟨px, 1, none⟩ = some (.int .u16 sa) ∧ W.cell? ⟨px, 2, none⟩ = some (.int .u16 so) ∧ W.cell? ⟨px, 3, none⟩ = some (.string sst)
theorem SX.of {px : Nat} {kd sa so : Int} {sst : ByteArray} {W : World} (h : Blk W px #[.int .u8 kd, .int .u16 sa, .int .u16 so, .string sst] 47) : SX px kd sa so sst W := by
  have c0 := h.cell 0
  have c1 := h.cell 1
  have c2 := h.cell 2
  have c3 := h.cell 3
  simp only [List.getElem?_toArray, List.getElem?_cons_zero, List.getElem?_cons_succ] at c0 c1 c2 c3
  exact ⟨c0, c1, c2, c3⟩
set_option maxRecDepth 100000 in
set_option maxHeartbeats 8000000 in
theorem do_any (B p b q s : Nat) (st : PS) (Bs : List ByteArray) (Us : List Bool) (Bk : List Nat) (vB vU vK : Value) (kd sa so : Int) (sst : ByteArray) (w : World) (hP : PgS w B p b s st) (h : Dx w B q s Bs Us Bk vB vU vK) (hr : Rel s st Bs Us Bk) (hB : B ≤ w.heap.size) (hs4 : s ≤ 4096) (ha : 0 ≤ sa ∧ sa ≤ 65535) (ho : 0 ≤ so ∧ so ≤ 65535) : Calls Try.prog 23 #[.agg #[.int .u8 kd, .int .u16 sa, .int .u16 so, .string sst], .pointer (some ⟨p, 0, none⟩), .pointer (some ⟨q, 0, none⟩), .int .i64 (s : Int)] w (DoEnd B p b q s (stS s (kd, sa, so, sst) st) vB vU w) := by
  have hbx : Below w.heap.size w (w.alloc (.cells #[.int .u8 kd, .int .u16 sa, .int .u16 so, .string sst] 47)) := (Below.refl _ _).alloc (Nat.le_refl _) _
  have HX : Hid (Blk (w.alloc (.cells #[.int .u8 kd, .int .u16 sa, .int .u16 so, .string sst] 47)) w.heap.size #[.int .u8 kd, .int .u16 sa, .int .u16 so, .string sst] 47) := Blk.new _ _ _
  have HI := Lib.hid hP.inv
  have HUP := Lib.hid hP.up
  have HNQ : Hid (w.heap.size ≠ p ∧ w.heap.size ≠ b) := by
    have h1 := (hP : Pg _ _ _ _ _ _ _ _ _).at_.plt
    have h2 := (hP : Pg _ _ _ _ _ _ _ _ _).at_.blt
    exact ⟨by omega, by omega⟩
  have HP := Lib.hid (hP.later hbx)
  have HD := Lib.hid (h.later hbx)
  have HF : Hid (FrP w (w.alloc (.cells #[.int .u8 kd, .int .u16 sa, .int .u16 so, .string sst] 47)) p b q vB vU) := FrP.of_below hbx
  have HB : Hid (B ≤ (w.alloc (.cells #[.int .u8 kd, .int .u16 sa, .int .u16 so, .string sst] 47)).heap.size) := Nat.le_trans hB hbx.size
  have HR := Lib.hid hr
  have HA := Lib.hid ha
  have HO := Lib.hid ho
  clear hP h hr hB ha ho hbx
  go_enter Try.func23, Try.ntmps23
  go_upto_region 1 with (fail)
  generalize w.alloc (.cells #[.int .u8 kd, .int .u16 sa, .int .u16 so, .string sst] 47) = w1 at *
  obtain ⟨px, hpx⟩ : ∃ px, w.heap.size = px := ⟨_, rfl⟩
  rw [hpx] at HX HNQ
  rw [hpx]
  have HPX := Lib.hid hpx
  clear hpx
  obtain ⟨x0, x1, x2, x3⟩ := SX.of HX.out
  go_wp2_with fail
  refine (off_any kd sa so sst s w1 HA.out HO.out hs4).mono ?_
  rintro e w2 ⟨rfl, hb⟩
  replace HP := Lib.hid (HP.out.later hb)
  replace HD := Lib.hid (HD.out.later hb)
  replace HX := Lib.hid (HX.out.later hb)
  replace HF := Lib.hid (HF.out.trans (FrP.of_below (vB := vB) (vU := vU) hb) Nw.refl Nw.refl)
  replace HB : Hid (B ≤ w2.heap.size) := Nat.le_trans HB.out hb.size
  clear hb x0 x1 x2 x3 HPX
  have HRG := Lib.hid (offV_rg sa so s)
  obtain ⟨x, hx⟩ : ∃ x, offV sa so (s : Int) = x := ⟨_, rfl⟩
  rw [hx] at HRG
  rw [hx]
  have HXX := Lib.hid hx
  have HWF := Lib.hid (wf16 HRG.out.1 HRG.out.2)
  clear hx
  obtain ⟨x0, x1, x2, x3⟩ := SX.of HX.out
  by_cases e0 : kd = 0
  · have f0 : (kd == 0) = true := by rw [e0]; rfl
    have HST : Hid (stS s (kd, sa, so, sst) st = alS s st) := by show _ = _;  unfold stS; simp only [if_pos e0]
    clear e0
    go_wp2_with fail
    refine (al_any B p b s st w2 HP.out hs4).mono ?_
    rintro e w3 ⟨rfl, hp, hf⟩
    have HP3 := Lib.hid hp
    have HF3 := Lib.hid hf
    have HD3 := Lib.hid (HD.out.fr hf HP.out)
    have HB3 : Hid (B ≤ w3.heap.size) := Nat.le_trans HB.out hf.size
    clear hp hf
    go_wp2_with fail
    refine (dalloc_any B q s st Bs Us Bk vB vU vK w3 HD3.out HR.out HI.out HB3.out hs4).mono ?_
    rintro e w4 ⟨rfl, he⟩
    have HE := Lib.hid he
    clear he
    go_wp2
    go_ret
    obtain ⟨Bs', Us', Bk', vB', vU', vK', hd', hr', hf', hn1, hn2, hn3⟩ := HE.out
    refine do_end ?_ ?_ ?_ ?_
    · first | rfl | simp
    · rw [HST.out]; exact HP3.out.frD hf' HD3.out
    · rw [HST.out]; exact ⟨_, _, _, _, _, _, hd', hr'⟩
    · exact (HF.out.trans (FrP.of_fr HF3.out) Nw.refl Nw.refl).trans (FrP.of_frD hf') Nw.refl Nw.refl
  · have f0 : (kd == 0) = false := by rw [beq_eq_false_iff_ne]; exact e0
    by_cases e1 : kd = 1
    · have f1 : (kd == 1) = true := by rw [e1]; rfl
      have HST : Hid (stS s (kd, sa, so, sst) st = frS x st) := by show _ = _; rw [← HXX.out];  unfold stS; simp only [if_neg e0, if_pos e1]
      clear e0 e1
      go_wp2_with fail
      refine (fr_any B p b s st w2 HP.out x HWF.out).mono ?_
      rintro e w3 ⟨rfl, hp, hf⟩
      have HP3 := Lib.hid hp
      have HF3 := Lib.hid hf
      have HD3 := Lib.hid (HD.out.fr hf HP.out)
      have HB3 : Hid (B ≤ w3.heap.size) := Nat.le_trans HB.out hf.size
      clear hp hf
      go_wp2_with fail
      refine (dfree_any B q s st Bs Us Bk vB vU vK x w3 HD3.out HR.out HI.out HUP.out HB3.out HRG.out.1 HRG.out.2).mono ?_
      rintro e w4 ⟨rfl, he⟩
      have HE := Lib.hid he
      clear he
      go_wp2
      go_ret
      obtain ⟨Bs', Us', Bk', vB', vU', vK', hd', hr', hf', hn1, hn2, hn3⟩ := HE.out
      refine do_end ?_ ?_ ?_ ?_
      · first | rfl | simp
      · rw [HST.out]; exact HP3.out.frD hf' HD3.out
      · rw [HST.out]; exact ⟨_, _, _, _, _, _, hd', hr'⟩
      · exact (HF.out.trans (FrP.of_fr HF3.out) Nw.refl Nw.refl).trans (FrP.of_frD hf') Nw.refl Nw.refl
    · have f1 : (kd == 1) = false := by rw [beq_eq_false_iff_ne]; exact e1
      by_cases e2 : kd = 2
      · have f2 : (kd == 2) = true := by rw [e2]; rfl
        have HST : Hid (stS s (kd, sa, so, sst) st = wrS s x sst st) := by show _ = _; rw [← HXX.out]; unfold stS; simp only [if_neg e0, if_neg e1, if_pos e2]
        have HW1 := Lib.hid (wr_any B p b s st w2.drew (HP.out.later (Below.drew (Below.refl _ _))) hs4 x sst HWF.out)
        clear e0 e1 e2
        go_upto_region 10 with (fail)
        clear x0 x1 x2 x3
        refine wp_region_noPanic ?_
        have hbd : Below w2.heap.size w2 w2.drew := Below.drew (Below.refl _ _)
        replace HP := Lib.hid (HP.out.later hbd)
        replace HD := Lib.hid (HD.out.later hbd)
        replace HX := Lib.hid (HX.out.later hbd)
        replace HF := Lib.hid (HF.out.trans (FrP.of_below (vB := vB) (vU := vU) hbd) Nw.refl Nw.refl)
        replace HB : Hid (B ≤ w2.drew.heap.size) := Nat.le_trans HB.out hbd.size
        clear hbd
        refine wp_region_held_drew (S := SX px kd sa so sst) (by kernel_rfl) (SX.of HX.out) (fun hHeld => ?_)
        refine wpAnyH_take (i := 0) (oi := { dst := some 54, op := Op.move (Operand.tmp 1), type := 22, pos := "law.go:43", after := #[], guard := none }) (v := ?_) rfl (by kernel_rfl) (by kernel_rfl) (by kernel_rfl) (fun _ _ _ h => h) (Or.inl ⟨by rfl, ?_⟩) (by assumption) ?_
        rotate_left
        · intro W hSw
          obtain ⟨k0, k1, k2, k3⟩ := hSw
          go_simp
          try with_reducible rfl
        simp only [Act.put, List.setIfInBounds_toArray, List.set_cons_zero, List.set_cons_succ]
        refine wpAnyH_take (i := 1) (oi := { dst := some 55, op := Op.move (Operand.tmp 9), type := 23, pos := "law.go:43", after := #[], guard := none }) (v := ?_) rfl (by kernel_rfl) (by kernel_rfl) (by kernel_rfl) (fun _ _ _ h => h) (Or.inl ⟨by rfl, ?_⟩) (by assumption) ?_
        rotate_left
        · intro W hSw
          obtain ⟨k0, k1, k2, k3⟩ := hSw
          go_simp
          try with_reducible rfl
        simp only [Act.put, List.setIfInBounds_toArray, List.set_cons_zero, List.set_cons_succ]
        refine wpAnyH_take (i := 2) (oi := { dst := some 56, op := Op.fieldAddr 47 (Operand.tmp 4) 3, type := 0, pos := "law.go:43", after := #[], guard := none }) (v := ?_) rfl (by kernel_rfl) (by kernel_rfl) (by kernel_rfl) (fun _ _ _ h => h) (Or.inl ⟨by rfl, ?_⟩) (by assumption) ?_
        rotate_left
        · intro W hSw
          obtain ⟨k0, k1, k2, k3⟩ := hSw
          go_simp
          try with_reducible rfl
        simp only [Act.put, List.setIfInBounds_toArray, List.set_cons_zero, List.set_cons_succ]
        refine wpAnyH_take (i := 3) (oi := { dst := some 57, op := Op.load 9 (Operand.tmp 56), type := 9, pos := "law.go:43", after := #[{ on := 2, ground := Ground.data }], guard := none }) (v := ?_) rfl (by kernel_rfl) (by kernel_rfl) (by kernel_rfl) (fun _ _ _ h => h) (Or.inl ⟨by rfl, ?_⟩) (by assumption) ?_
        rotate_left
        · intro W hSw
          obtain ⟨k0, k1, k2, k3⟩ := hSw
          go_simp
          try with_reducible rfl
        simp only [Act.put, List.setIfInBounds_toArray, List.set_cons_zero, List.set_cons_succ]
        refine wpAnyH_take (i := 5) (oi := { dst := some 59, op := Op.move (Operand.tmp 2), type := 42, pos := "law.go:43", after := #[], guard := none }) (v := ?_) rfl (by kernel_rfl) (by kernel_rfl) (by kernel_rfl) (fun _ _ _ h => h) (Or.inl ⟨by rfl, ?_⟩) (by assumption) ?_
        rotate_left
        · intro W hSw
          obtain ⟨k0, k1, k2, k3⟩ := hSw
          go_simp
          try with_reducible rfl
        simp only [Act.put, List.setIfInBounds_toArray, List.set_cons_zero, List.set_cons_succ]
        refine wpAnyH_take (i := 6) (oi := { dst := some 60, op := Op.move (Operand.tmp 9), type := 23, pos := "law.go:43", after := #[], guard := none }) (v := ?_) rfl (by kernel_rfl) (by kernel_rfl) (by kernel_rfl) (fun _ _ _ h => h) (Or.inl ⟨by rfl, ?_⟩) (by assumption) ?_
        rotate_left
        · intro W hSw
          obtain ⟨k0, k1, k2, k3⟩ := hSw
          go_simp
          try with_reducible rfl
        simp only [Act.put, List.setIfInBounds_toArray, List.set_cons_zero, List.set_cons_succ]
        refine wpAnyH_take (i := 7) (oi := { dst := some 61, op := Op.fieldAddr 47 (Operand.tmp 4) 3, type := 0, pos := "law.go:43", after := #[], guard := none }) (v := ?_) rfl (by kernel_rfl) (by kernel_rfl) (by kernel_rfl) (fun _ _ _ h => h) (Or.inl ⟨by rfl, ?_⟩) (by assumption) ?_
        rotate_left
        · intro W hSw
          obtain ⟨k0, k1, k2, k3⟩ := hSw
          go_simp
          try with_reducible rfl
        simp only [Act.put, List.setIfInBounds_toArray, List.set_cons_zero, List.set_cons_succ]
        refine wpAnyH_take (i := 8) (oi := { dst := some 62, op := Op.load 9 (Operand.tmp 61), type := 9, pos := "law.go:43", after := #[{ on := 7, ground := Ground.data }], guard := none }) (v := ?_) rfl (by kernel_rfl) (by kernel_rfl) (by kernel_rfl) (fun _ _ _ h => h) (Or.inl ⟨by rfl, ?_⟩) (by assumption) ?_
        rotate_left
        · intro W hSw
          obtain ⟨k0, k1, k2, k3⟩ := hSw
          go_simp
          try with_reducible rfl
        simp only [Act.put, List.setIfInBounds_toArray, List.set_cons_zero, List.set_cons_succ]
        refine wpAnyH_ready (rs := [4]) (by kernel_rfl) (by simp) (AllReadyH.cons (o := { dst := some 58, op := Op.call { callee := Callee.value (Operand.func 13), args := #[Operand.tmp 54, Operand.tmp 55, Operand.tmp 57], argTypes := #[22, 23, 9] }, type := 24, pos := "law.go:43", after := #[{ on := 0, ground := Ground.data }, { on := 1, ground := Ground.data }, { on := 3, ground := Ground.data }], guard := none }) rfl (fun K hK => ?_) AllReadyH.nil)
        refine step_callw (by rfl) 13 #[.pointer (some ⟨p, 0, none⟩), .int .u16 x, .string sst] (by go_simp) ?_
        refine (HW1.out).mono ?_
        rintro z W9 ⟨rfl, hp, hf⟩
        have HP3 := Lib.hid hp
        have HF3 := Lib.hid hf
        have HD3 := Lib.hid (HD.out.fr hf HP.out)
        have HX3 := Lib.hid (hf.blk HX.out HNQ.out.1 HNQ.out.2)
        have HB3 : Hid (B ≤ W9.heap.size) := Nat.le_trans HB.out hf.size
        have HS3 : Hid (SX px kd sa so sst W9) := SX.of HX3.out
        have HW2 := Lib.hid (dwrite_any B q s st Bs Us Bk vB vU vK x sst W9 HD3.out HR.out HI.out hs4 HRG.out.1 HRG.out.2)
        clear hp hf hHeld HW1
        generalize wrE s x sst st = ae at *
        refine ⟨_, rfl, hK.out _ _ HS3.out (fun hHeld => ?_)⟩
        clear hK K
        simp only [Act.put, List.setIfInBounds_toArray, List.set_cons_zero, List.set_cons_succ]
        obtain ⟨w3, hw3⟩ : ∃ w3, W9 = w3 := ⟨_, rfl⟩
        subst hw3
        refine wpAnyH_ready (rs := [9]) (by kernel_rfl) (by simp) (AllReadyH.cons (o := { dst := some 63, op := Op.call { callee := Callee.value (Operand.func 38), args := #[Operand.tmp 59, Operand.tmp 60, Operand.tmp 62], argTypes := #[42, 23, 9] }, type := 24, pos := "law.go:43", after := #[{ on := 5, ground := Ground.data }, { on := 6, ground := Ground.data }, { on := 8, ground := Ground.data }, { on := 4, ground := Ground.chain }], guard := none }) rfl (fun K hK => ?_) AllReadyH.nil)
        refine step_callw (by rfl) 38 #[.pointer (some ⟨q, 0, none⟩), .int .u16 x, .string sst] (by go_simp) ?_
        refine (HW2.out).mono ?_
        rintro z w4 ⟨rfl, he⟩
        have HE := Lib.hid he
        have HS4 : Hid (SX px kd sa so sst w4) := by
          obtain ⟨Bs', Us', Bk', vB', vU', vK', hd', hr', hf', hn1, hn2, hn3⟩ := he
          exact SX.of (hf'.blk HD3.out HX3.out ⟨by decide, by decide, by decide⟩)
        clear he hHeld HW2
        refine ⟨_, rfl, hK.out _ _ HS4.out (fun hHeld2 => ?_)⟩
        clear hK K
        simp only [Act.put, List.setIfInBounds_toArray, List.set_cons_zero, List.set_cons_succ]
        refine wpAnyH_take (i := 10) (oi := { dst := some 64, op := Op.binOp BinOp.eql 24 (Operand.tmp 58) (Operand.tmp 63) 24, type := 4, pos := "law.go:43", after := #[{ on := 4, ground := Ground.data }, { on := 9, ground := Ground.data }], guard := none }) (v := ?_) rfl (by kernel_rfl) (by kernel_rfl) (by kernel_rfl) (fun _ _ _ h => h) (Or.inl ⟨by rfl, ?_⟩) (by assumption) ?_
        rotate_left
        · intro W hSw
          clear hSw
          go_simp
          try with_reducible rfl
        simp only [Act.put, List.setIfInBounds_toArray, List.set_cons_zero, List.set_cons_succ]
        refine wpAnyH_take (i := 11) (oi := { dst := some 8, op := Op.assign (Operand.tmp 64), type := 4, pos := "law.go:43", after := #[{ on := 10, ground := Ground.data }, { on := 9, ground := Ground.chain }, { on := 0, ground := Ground.phase }, { on := 1, ground := Ground.phase }, { on := 2, ground := Ground.phase }, { on := 3, ground := Ground.phase }, { on := 4, ground := Ground.phase }, { on := 5, ground := Ground.phase }, { on := 6, ground := Ground.phase }, { on := 7, ground := Ground.phase }, { on := 8, ground := Ground.phase }, { on := 9, ground := Ground.phase }, { on := 10, ground := Ground.phase }], guard := none }) (v := ?_) rfl (by kernel_rfl) (by kernel_rfl) (by kernel_rfl) (fun _ _ _ h => h) (Or.inl ⟨by rfl, ?_⟩) (by assumption) ?_
        rotate_left
        · intro W hSw
          clear hSw
          go_simp
          try with_reducible rfl
        simp only [Act.put, List.setIfInBounds_toArray, List.set_cons_zero, List.set_cons_succ]
        refine wpAnyH_done (by kernel_rfl) (NoPanic.normal ?_) _
        clear hHeld2
        go_wp2
        go_ret
        obtain ⟨Bs', Us', Bk', vB', vU', vK', hd', hr', hf', hn1, hn2, hn3⟩ := HE.out
        refine do_end ?_ ?_ ?_ ?_
        · first | rfl | simp
        · rw [HST.out]; exact HP3.out.frD hf' HD3.out
        · rw [HST.out]; exact ⟨_, _, _, _, _, _, hd', hr'⟩
        · exact (HF.out.trans (FrP.of_fr HF3.out) Nw.refl Nw.refl).trans (FrP.of_frD hf') Nw.refl Nw.refl
      · have f2 : (kd == 2) = false := by rw [beq_eq_false_iff_ne]; exact e2
        have HST : Hid (stS s (kd, sa, so, sst) st = st) := by show _ = _; unfold stS; simp only [if_neg e0, if_neg e1, if_neg e2]
        clear e0 e1 e2
        go_wp2_with fail
        refine (rd_any B p b s st w2 HP.out x HWF.out).mono ?_
        rintro e w3 ⟨rfl, hb⟩
        have HP3 := Lib.hid (HP.out.later hb)
        have HD3 := Lib.hid (HD.out.later hb)
        have HF3 := Lib.hid (HF.out.trans (FrP.of_below (vB := vB) (vU := vU) hb) Nw.refl Nw.refl)
        clear hb
        have HRD := Lib.hid (dread_any B q s st Bs Us Bk vB vU vK x w3 HD3.out HR.out HI.out HRG.out.1 HRG.out.2)
        generalize rdT s x st = tt at *
        generalize rdE x st = ae at *
        go_wp2_with fail
        refine HRD.out.mono ?_
        rintro e w4 ⟨rfl, rfl⟩
        clear HRD
        go_wp2
        go_ret
        refine do_end ?_ ?_ ?_ HF3.out
        · first | rfl | simp
        · rw [HST.out]; exact HP3.out
        · rw [HST.out]; exact ⟨_, _, _, _, _, _, HD3.out, HR.out⟩
end Go.Proofs.Ytjkohdenmiljpaa
