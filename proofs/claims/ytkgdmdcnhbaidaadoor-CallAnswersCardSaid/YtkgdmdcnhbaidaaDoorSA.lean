/- Same. -/
import Derived.Test.YtkgdmdcnhbaidaaDoorL
namespace Go.Proofs.YtkgdmdcnhbaidaaDoor
open Go.ChangeShapes Go.WideShapes Go.ChangeAt Go.RowKit
set_option linter.unusedVariables false
set_option linter.unusedSimpArgs false

theorem bl (a b : ByteArray) : (a.toList = b.toList) = (a = b) := by
  rw [ByteArray.toList_eq, ByteArray.toList_eq]
  exact propext ⟨fun h => ByteArray.ext (Array.toList_inj.1 h), fun h => by rw [h]⟩
def sameC (x y : Cl) : Bool := decide (clnC x = clnC y)
set_option maxRecDepth 100000 in
set_option maxHeartbeats 16000000 in
theorem same_any (kn : Nat) (tx : Int) (ke en va : ByteArray) (li : Int) (eg : Nat) (kn2 : Nat) (tx2 : Int) (ke2 en2 va2 : ByteArray) (li2 : Int) (eg2 : Nat) (w : World) (hk : kn ≤ 255) (hk2 : kn2 ≤ 255) (hg : Gl w) :
    Calls Tryd.prog 16 #[clV (kn, tx, ke, en, va, li, eg), clV (kn2, tx2, ke2, en2, va2, li2, eg2)] w fun e w' => e = .returned (.bool (sameC (kn, tx, ke, en, va, li, eg) (kn2, tx2, ke2, en2, va2, li2, eg2))) ∧ Below w.heap.size w w' := by
  show Calls Tryd.prog 16 #[.agg #[.int .u8 (kn : Int), .int .i64 tx, .string ke, .string en, .string va, .int .i64 li, .int .u8 (eg : Int)], .agg #[.int .u8 (kn2 : Int), .int .i64 tx2, .string ke2, .string en2, .string va2, .int .i64 li2, .int .u8 (eg2 : Int)]] w _
  have HB0 : Hid (Below w.heap.size w (w.alloc (.cells #[.int .u8 (kn : Int), .int .i64 tx, .string ke, .string en, .string va, .int .i64 li, .int .u8 (eg : Int)] 24))) := (Below.refl _ _).alloc (Nat.le_refl _) _
  have hb1 : Below (w.alloc (.cells #[.int .u8 (kn : Int), .int .i64 tx, .string ke, .string en, .string va, .int .i64 li, .int .u8 (eg : Int)] 24)).heap.size (w.alloc (.cells #[.int .u8 (kn : Int), .int .i64 tx, .string ke, .string en, .string va, .int .i64 li, .int .u8 (eg : Int)] 24)) ((w.alloc (.cells #[.int .u8 (kn : Int), .int .i64 tx, .string ke, .string en, .string va, .int .i64 li, .int .u8 (eg : Int)] 24)).alloc (.cells #[.int .u8 (kn2 : Int), .int .i64 tx2, .string ke2, .string en2, .string va2, .int .i64 li2, .int .u8 (eg2 : Int)] 24)) := (Below.refl _ _).alloc (Nat.le_refl _) _
  have HX : Hid (Blk ((w.alloc (.cells #[.int .u8 (kn : Int), .int .i64 tx, .string ke, .string en, .string va, .int .i64 li, .int .u8 (eg : Int)] 24)).alloc (.cells #[.int .u8 (kn2 : Int), .int .i64 tx2, .string ke2, .string en2, .string va2, .int .i64 li2, .int .u8 (eg2 : Int)] 24)) w.heap.size #[.int .u8 (kn : Int), .int .i64 tx, .string ke, .string en, .string va, .int .i64 li, .int .u8 (eg : Int)] 24) := (Blk.new _ _ _).later hb1
  have HY : Hid (Blk ((w.alloc (.cells #[.int .u8 (kn : Int), .int .i64 tx, .string ke, .string en, .string va, .int .i64 li, .int .u8 (eg : Int)] 24)).alloc (.cells #[.int .u8 (kn2 : Int), .int .i64 tx2, .string ke2, .string en2, .string va2, .int .i64 li2, .int .u8 (eg2 : Int)] 24)) (w.alloc (.cells #[.int .u8 (kn : Int), .int .i64 tx, .string ke, .string en, .string va, .int .i64 li, .int .u8 (eg : Int)] 24)).heap.size #[.int .u8 (kn2 : Int), .int .i64 tx2, .string ke2, .string en2, .string va2, .int .i64 li2, .int .u8 (eg2 : Int)] 24) := Blk.new _ _ _
  have HB := Lib.hid (stepB HB0.out hb1)
  have HG := Lib.hid (hg.later HB.out)
  have HS : Hid ((w.alloc (.cells #[.int .u8 (kn : Int), .int .i64 tx, .string ke, .string en, .string va, .int .i64 li, .int .u8 (eg : Int)] 24)).heap.size = w.heap.size + 1) := Array.size_push _
  rw [HS.out] at HY
  have HR : Hid (sameC (kn, tx, ke, en, va, li, eg) (kn2, tx2, ke2, en2, va2, li2, eg2) = decide (clnC (kn, tx, ke, en, va, li, eg) = clnC (kn2, tx2, ke2, en2, va2, li2, eg2))) := rfl
  obtain ⟨R, hR⟩ : ∃ R, sameC (kn, tx, ke, en, va, li, eg) (kn2, tx2, ke2, en2, va2, li2, eg2) = R := ⟨_, rfl⟩
  rw [hR] at HR ⊢
  have HC1 : Hid (∀ W, Gl W → Calls Tryd.prog 14 #[.agg #[.int .u8 (kn : Int), .int .i64 tx, .string ke, .string en, .string va, .int .i64 li, .int .u8 (eg : Int)]] W fun e w' => e = .returned (clV (clnC (kn, tx, ke, en, va, li, eg))) ∧ Below W.heap.size W w') := Lib.hid (fun W h => clean_any kn tx ke en va li eg W hk h)
  have HC2 : Hid (∀ W, Gl W → Calls Tryd.prog 14 #[.agg #[.int .u8 (kn2 : Int), .int .i64 tx2, .string ke2, .string en2, .string va2, .int .i64 li2, .int .u8 (eg2 : Int)]] W fun e w' => e = .returned (clV (clnC (kn2, tx2, ke2, en2, va2, li2, eg2))) ∧ Below W.heap.size W w') := Lib.hid (fun W h => clean_any kn2 tx2 ke2 en2 va2 li2 eg2 W hk2 h)
  generalize clnC (kn, tx, ke, en, va, li, eg) = X at HC1 HR
  generalize clnC (kn2, tx2, ke2, en2, va2, li2, eg2) = Y at HC2 HR
  obtain ⟨a0, a1, a2, a3, a4, a5, a6⟩ := X
  obtain ⟨b0, b1, b2, b3, b4, b5, b6⟩ := Y
  unfold clV at HC1 HC2
  simp only at HC1 HC2
  clear hg hb1 HB0 HS hR
  go_enter Tryd.func16, Tryd.ntmps16
  go_upto_region 1 with (fail)
  generalize (w.alloc (.cells #[.int .u8 (kn : Int), .int .i64 tx, .string ke, .string en, .string va, .int .i64 li, .int .u8 (eg : Int)] 24)).alloc (.cells #[.int .u8 (kn2 : Int), .int .i64 tx2, .string ke2, .string en2, .string va2, .int .i64 li2, .int .u8 (eg2 : Int)] 24) = w2 at *
  obtain ⟨px, hpx⟩ : ∃ x, w.heap.size = x := ⟨_, rfl⟩
  have HPX := Lib.hid hpx
  rw [hpx] at HX HY ⊢
  clear hpx
  obtain ⟨py, hpy⟩ : ∃ x, px + 1 = x := ⟨_, rfl⟩
  rw [hpy] at HY ⊢
  clear hpy
  have hbd : Below w2.heap.size w2 w2.drew := Below.drew (Below.refl _ _)
  replace HX := Lib.hid (HX.out.later hbd)
  replace HY := Lib.hid (HY.out.later hbd)
  replace HG := Lib.hid (HG.out.later hbd)
  replace HB := Lib.hid (stepB HB.out hbd)
  clear hbd
  refine wp_region_noPanic ?_
  refine wp_region_held_drew (S := fun W => Blk W px #[.int .u8 (kn : Int), .int .i64 tx, .string ke, .string en, .string va, .int .i64 li, .int .u8 (eg : Int)] 24 ∧ Blk W py #[.int .u8 (kn2 : Int), .int .i64 tx2, .string ke2, .string en2, .string va2, .int .i64 li2, .int .u8 (eg2 : Int)] 24) (by kernel_rfl) ⟨HX.out, HY.out⟩ (fun hHeld => ?_)
  refine wpAnyH_take (i := 0) (oi := { dst := some 5, op := Op.load 24 (Operand.tmp 2), type := 24, pos := "call.go:131", after := #[], guard := none }) (v := ?_) rfl (by kernel_rfl) (by kernel_rfl) (by kernel_rfl) (fun _ _ _ h => h) (Or.inl ⟨by rfl, ?_⟩) (by assumption) ?_
  rotate_left
  · intro W hSw
    have x0 := Blk.cell hSw.1 0
    have x1 := Blk.cell hSw.1 1
    have x2 := Blk.cell hSw.1 2
    have x3 := Blk.cell hSw.1 3
    have x4 := Blk.cell hSw.1 4
    have x5 := Blk.cell hSw.1 5
    have x6 := Blk.cell hSw.1 6
    simp only [List.getElem?_toArray, List.getElem?_cons_zero, List.getElem?_cons_succ] at x0 x1 x2 x3 x4 x5 x6
    go_simp
    try with_reducible rfl
  simp only [Act.put, List.setIfInBounds_toArray, List.set_cons_zero, List.set_cons_succ]
  refine wpAnyH_take (i := 2) (oi := { dst := some 7, op := Op.load 24 (Operand.tmp 3), type := 24, pos := "call.go:131", after := #[], guard := none }) (v := ?_) rfl (by kernel_rfl) (by kernel_rfl) (by kernel_rfl) (fun _ _ _ h => h) (Or.inl ⟨by rfl, ?_⟩) (by assumption) ?_
  rotate_left
  · intro W hSw
    have x0 := Blk.cell hSw.2 0
    have x1 := Blk.cell hSw.2 1
    have x2 := Blk.cell hSw.2 2
    have x3 := Blk.cell hSw.2 3
    have x4 := Blk.cell hSw.2 4
    have x5 := Blk.cell hSw.2 5
    have x6 := Blk.cell hSw.2 6
    simp only [List.getElem?_toArray, List.getElem?_cons_zero, List.getElem?_cons_succ] at x0 x1 x2 x3 x4 x5 x6
    go_simp
    try with_reducible rfl
  simp only [Act.put, List.setIfInBounds_toArray, List.set_cons_zero, List.set_cons_succ]
  refine wpAnyH_ready (rs := [1]) (by kernel_rfl) (by simp) (AllReadyH.cons (o := { dst := some 6, op := Op.call { callee := Callee.value (Operand.func 14), args := #[Operand.tmp 5], argTypes := #[24] }, type := 24, pos := "call.go:131", after := #[{ on := 0, ground := Ground.data }], guard := none }) rfl (fun K hK => ?_) AllReadyH.nil)
  have HCL := Lib.hid (HC1.out _ HG.out)
  go_simp
  refine HCL.out.mono ?_
  rintro e w3 ⟨rfl, hb⟩
  replace HX := Lib.hid (HX.out.later hb)
  replace HY := Lib.hid (HY.out.later hb)
  replace HG := Lib.hid (HG.out.later hb)
  replace HB := Lib.hid (stepB HB.out hb)
  clear hb HCL hHeld
  refine hK.out _ _ ⟨HX.out, HY.out⟩ (fun hHeld => ?_)
  clear hK K
  refine wpAnyH_ready (rs := [3]) (by kernel_rfl) (by simp) (AllReadyH.cons (o := { dst := some 8, op := Op.call { callee := Callee.value (Operand.func 14), args := #[Operand.tmp 7], argTypes := #[24] }, type := 24, pos := "call.go:131", after := #[{ on := 2, ground := Ground.data }, { on := 1, ground := Ground.chain }], guard := none }) rfl (fun K hK => ?_) AllReadyH.nil)
  have HCL := Lib.hid (HC2.out _ HG.out)
  go_simp
  refine HCL.out.mono ?_
  rintro e w4 ⟨rfl, hb⟩
  replace HX := Lib.hid (HX.out.later hb)
  replace HY := Lib.hid (HY.out.later hb)
  replace HG := Lib.hid (HG.out.later hb)
  replace HB := Lib.hid (stepB HB.out hb)
  clear hb HCL hHeld
  refine hK.out _ _ ⟨HX.out, HY.out⟩ (fun hHeld => ?_)
  clear hK K
  have e0 : ∀ W : World, (binOp .eql 24 (.agg #[.int .u8 (a0 : Int), .int .i64 a1, .string a2, .string a3, .string a4, .int .i64 a5, .int .u8 (a6 : Int)]) (.agg #[.int .u8 (b0 : Int), .int .i64 b1, .string b2, .string b3, .string b4, .int .i64 b5, .int .u8 (b6 : Int)])).run Tryd.prog W = .ok (.bool R) W := fun W => by
    clear HC1 HC2 HX HY HG HB hHeld HPX
    go_simp
    have hr := HR.out
    simp only [Prod.mk.injEq] at hr
    simp only [bl, Int.natCast_inj]
    rw [hr]
    by_cases e0 : a0 = b0
    · by_cases e1 : a1 = b1
      · by_cases e2 : a2 = b2
        · by_cases e3 : a3 = b3
          · by_cases e4 : a4 = b4
            · by_cases e5 : a5 = b5
              · by_cases e6 : a6 = b6
                · rw [if_pos e0, if_pos e1, if_pos e2, if_pos e3, if_pos e4, if_pos e5, if_pos e6, decide_eq_true ⟨e0, e1, e2, e3, e4, e5, e6⟩]
                · rw [if_pos e0, if_pos e1, if_pos e2, if_pos e3, if_pos e4, if_pos e5, if_neg e6, decide_eq_false (fun h => e6 h.2.2.2.2.2.2)]
              · rw [if_pos e0, if_pos e1, if_pos e2, if_pos e3, if_pos e4, if_neg e5, decide_eq_false (fun h => e5 h.2.2.2.2.2.1)]
            · rw [if_pos e0, if_pos e1, if_pos e2, if_pos e3, if_neg e4, decide_eq_false (fun h => e4 h.2.2.2.2.1)]
          · rw [if_pos e0, if_pos e1, if_pos e2, if_neg e3, decide_eq_false (fun h => e3 h.2.2.2.1)]
        · rw [if_pos e0, if_pos e1, if_neg e2, decide_eq_false (fun h => e2 h.2.2.1)]
      · rw [if_pos e0, if_neg e1, decide_eq_false (fun h => e1 h.2.1)]
    · rw [if_neg e0, decide_eq_false (fun h => e0 h.1)]
  refine wpAnyH_take (i := 4) (oi := { dst := some 9, op := Op.binOp BinOp.eql 24 (Operand.tmp 6) (Operand.tmp 8) 24, type := 4, pos := "call.go:131", after := #[{ on := 1, ground := Ground.data }, { on := 3, ground := Ground.data }], guard := none }) (v := ?_) rfl (by kernel_rfl) (by kernel_rfl) (by kernel_rfl) (fun _ _ _ h => h) (Or.inl ⟨by rfl, ?_⟩) (by assumption) ?_
  rotate_left
  · intro W hSw
    clear hSw
    go_simp
    try with_reducible rfl
  simp only [Act.put, List.setIfInBounds_toArray, List.set_cons_zero, List.set_cons_succ]
  refine wpAnyH_take (i := 5) (oi := { dst := some 4, op := Op.assign (Operand.tmp 9), type := 4, pos := "call.go:131", after := #[{ on := 4, ground := Ground.data }, { on := 3, ground := Ground.chain }, { on := 0, ground := Ground.phase }, { on := 1, ground := Ground.phase }, { on := 2, ground := Ground.phase }, { on := 3, ground := Ground.phase }, { on := 4, ground := Ground.phase }], guard := none }) (v := ?_) rfl (by kernel_rfl) (by kernel_rfl) (by kernel_rfl) (fun _ _ _ h => h) (Or.inl ⟨by rfl, ?_⟩) (by assumption) ?_
  rotate_left
  · intro W hSw
    clear hSw
    go_simp
    try with_reducible rfl
  simp only [Act.put, List.setIfInBounds_toArray, List.set_cons_zero, List.set_cons_succ]
  refine wpAnyH_done (by kernel_rfl) (NoPanic.normal ?_) _
  clear hHeld
  go_wp2
  go_ret
  exact ⟨rfl, HB.out⟩
end Go.Proofs.YtkgdmdcnhbaidaaDoor
