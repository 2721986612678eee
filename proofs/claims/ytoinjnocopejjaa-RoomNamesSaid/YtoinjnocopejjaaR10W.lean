/- The walk of RoomNames. -/
import Derived.Test.YtoinjnocopejjaaN10
import Derived.StillTailTactics
import Derived.Deep.QuietTactic
import Derived.BigQuiet
import Derived.Great.BuildSlice
namespace Go.Proofs.Ytoinjnocopejjaa.roomNames
open Go.ChangeShapes Go.WideShapes Go.ChangeAt Go.RowKit Go.Maps
set_option linter.unusedVariables false
set_option linter.unusedSimpArgs false
set_option maxRecDepth 100000 in
set_option maxHeartbeats 4000000 in
theorem walk (w : World) : Calls Try.prog 10 #[] w fun e w' => e = .returned (.bool true) ∧ Below w.heap.size w w' := by
  have HB : Hid (Below w.heap.size w w) := Lib.hid (Below.refl _ _)
  go_enter Try.func10, Try.ntmps10
  go_wp2_with fail
  refine (small30 _).mono ?_
  rintro e w1 ⟨rfl, hb⟩
  replace HB := Lib.hid (stepB HB.out hb)
  clear hb
  have hb : Below w1.heap.size w1 (w1.alloc (.cells #[.int .i64 1, .int .i64 2, .int .i64 1, .int .i64 2, .int .i64 9, .int .i64 2, .int .i64 2, .int .i64 3] 45)) := (Below.refl _ _).alloc (Nat.le_refl _) _
  have KC : Hid (Blk (w1.alloc (.cells #[.int .i64 1, .int .i64 2, .int .i64 1, .int .i64 2, .int .i64 9, .int .i64 2, .int .i64 2, .int .i64 3] 45)) w1.heap.size #[.int .i64 1, .int .i64 2, .int .i64 1, .int .i64 2, .int .i64 9, .int .i64 2, .int .i64 2, .int .i64 3] 45) := Lib.hid (Blk.new w1 _ 45)
  have Hbc : Hid (w.heap.size ≤ w1.heap.size) := Lib.hid HB.out.size
  replace HB := Lib.hid (stepB HB.out hb)
  clear hb
  go_upto_region 2 with (fail)
  generalize w1.alloc (.cells #[.int .i64 1, .int .i64 2, .int .i64 1, .int .i64 2, .int .i64 9, .int .i64 2, .int .i64 2, .int .i64 3] 45) = w2 at *
  generalize w1.heap.size = bc at *
  have z0 := KC.out.cell 0
  have z1 := KC.out.cell 1
  have z2 := KC.out.cell 2
  have z3 := KC.out.cell 3
  have z4 := KC.out.cell 4
  have z5 := KC.out.cell 5
  have z6 := KC.out.cell 6
  have z7 := KC.out.cell 7
  simp only [List.getElem?_toArray, List.getElem?_cons_zero, List.getElem?_cons_succ] at z0 z1 z2 z3 z4 z5 z6 z7
  have HLT := Lib.hid KC.out.lt
  have hb : Below w2.heap.size w2 (w2.alloc (.cells #[.int .i64 1, .int .i64 2, .int .i64 1, .int .i64 2, .int .i64 9, .int .i64 2, .int .i64 2, .int .i64 3] 45)) := (Below.refl _ _).alloc (Nat.le_refl _) _
  have KO : Hid (Blk (w2.alloc (.cells #[.int .i64 1, .int .i64 2, .int .i64 1, .int .i64 2, .int .i64 9, .int .i64 2, .int .i64 2, .int .i64 3] 45)) w2.heap.size #[.int .i64 1, .int .i64 2, .int .i64 1, .int .i64 2, .int .i64 9, .int .i64 2, .int .i64 2, .int .i64 3] 45) := Lib.hid (Blk.new w2 _ 45)
  have Hbo : Hid (w.heap.size ≤ w2.heap.size) := Lib.hid HB.out.size
  replace HB := Lib.hid (stepB HB.out hb)
  replace KC := Lib.hid (KC.out.later hb)
  clear hb
  go_upto_region 3 with (fail)
  clear z0 z1 z2 z3 z4 z5 z6 z7
  generalize w2.alloc (.cells #[.int .i64 1, .int .i64 2, .int .i64 1, .int .i64 2, .int .i64 9, .int .i64 2, .int .i64 2, .int .i64 3] 45) = w3 at *
  generalize w2.heap.size = bo at *
  have HNE : Hid (bc ≠ bo) := Lib.hid (by have := HLT.out; omega)
  clear HLT
  have z3 := KO.out.cell 3
  have f3 := KO.out.frozen 3
  simp only [List.getElem?_toArray, List.getElem?_cons_zero, List.getElem?_cons_succ] at z3
  go_upto_region 4 with (fail)
  replace KO : Hid (Blk (w3.setCell ⟨bo, 3, none⟩ (.int .i64 9)) bo #[.int .i64 1, .int .i64 2, .int .i64 1, .int .i64 9, .int .i64 9, .int .i64 2, .int .i64 2, .int .i64 3] 45) := Lib.hid (KO.out.set (j := 3) _)
  replace HB := Lib.hid (HB.out.setCell (p := ⟨bo, 3, none⟩) Hbo.out (.int .i64 9))
  replace KC : Hid (Blk (w3.setCell ⟨bo, 3, none⟩ (.int .i64 9)) bc #[.int .i64 1, .int .i64 2, .int .i64 1, .int .i64 2, .int .i64 9, .int .i64 2, .int .i64 2, .int .i64 3] 45) := Lib.hid (KC.out.other HNE.out _)
  clear z3 f3
  generalize w3.setCell ⟨bo, 3, none⟩ (.int .i64 9) = w4 at *
  have z0 := KO.out.cell 0
  have z1 := KO.out.cell 1
  have z2 := KO.out.cell 2
  have z3 := KO.out.cell 3
  have z4 := KO.out.cell 4
  have z5 := KO.out.cell 5
  have z6 := KO.out.cell 6
  have z7 := KO.out.cell 7
  simp only [List.getElem?_toArray, List.getElem?_cons_zero, List.getElem?_cons_succ] at z0 z1 z2 z3 z4 z5 z6 z7
  go_wp2_with fail
  refine (rbound_any cO30 _).mono ?_
  rw [d30.1]
  rintro e w5 ⟨rfl, hb⟩
  replace HB := Lib.hid (stepB HB.out hb)
  replace KC := Lib.hid (KC.out.later hb)
  replace KO := Lib.hid (KO.out.later hb)
  clear hb z0 z1 z2 z3 z4 z5 z6 z7
  have z0 := KO.out.cell 0
  have z1 := KO.out.cell 1
  have z2 := KO.out.cell 2
  have z3 := KO.out.cell 3
  have z4 := KO.out.cell 4
  have z5 := KO.out.cell 5
  have z6 := KO.out.cell 6
  have z7 := KO.out.cell 7
  simp only [List.getElem?_toArray, List.getElem?_cons_zero, List.getElem?_cons_succ] at z0 z1 z2 z3 z4 z5 z6 z7
  go_wp2_with fail
  refine (works30 _).mono ?_
  rintro e w6 ⟨rfl, hb⟩
  replace HB := Lib.hid (stepB HB.out hb)
  replace KC := Lib.hid (KC.out.later hb)
  replace KO := Lib.hid (KO.out.later hb)
  clear hb z0 z1 z2 z3 z4 z5 z6 z7
  have z0 := KO.out.cell 0
  have z1 := KO.out.cell 1
  have z2 := KO.out.cell 2
  have z3 := KO.out.cell 3
  have z4 := KO.out.cell 4
  have z5 := KO.out.cell 5
  have z6 := KO.out.cell 6
  have z7 := KO.out.cell 7
  simp only [List.getElem?_toArray, List.getElem?_cons_zero, List.getElem?_cons_succ] at z0 z1 z2 z3 z4 z5 z6 z7
  go_wp2_with fail
  refine (rsteps_any cO30 2 (by decide) _).mono ?_
  rw [d30.2.1]
  rintro e w7 ⟨rfl, hb⟩
  replace HB := Lib.hid (stepB HB.out hb)
  replace KC := Lib.hid (KC.out.later hb)
  replace KO := Lib.hid (KO.out.later hb)
  clear hb z0 z1 z2 z3 z4 z5 z6 z7
  have z0 := KO.out.cell 0
  have z1 := KO.out.cell 1
  have z2 := KO.out.cell 2
  have z3 := KO.out.cell 3
  have z4 := KO.out.cell 4
  have z5 := KO.out.cell 5
  have z6 := KO.out.cell 6
  have z7 := KO.out.cell 7
  simp only [List.getElem?_toArray, List.getElem?_cons_zero, List.getElem?_cons_succ] at z0 z1 z2 z3 z4 z5 z6 z7
  go_wp2_with fail
  refine (rrounds_any cO30 _).mono ?_
  rw [d30.2.2.1]
  rintro e w8 ⟨rfl, hb⟩
  replace HB := Lib.hid (stepB HB.out hb)
  replace KC := Lib.hid (KC.out.later hb)
  replace KO := Lib.hid (KO.out.later hb)
  clear hb z0 z1 z2 z3 z4 z5 z6 z7
  have hb : Below w8.heap.size w8 (w8.alloc (.cells #[.int .i64 2, .int .i64 3, .int .i64 93, .int .i64 93, .int .i64 93, .int .i64 215, .int .i64 97, .int .i64 97, .int .i64 215, .int .i64 215, .int .i64 2] 3)) := (Below.refl _ _).alloc (Nat.le_refl _) _
  have KW : Hid (Blk (w8.alloc (.cells #[.int .i64 2, .int .i64 3, .int .i64 93, .int .i64 93, .int .i64 93, .int .i64 215, .int .i64 97, .int .i64 97, .int .i64 215, .int .i64 215, .int .i64 2] 3)) w8.heap.size #[.int .i64 2, .int .i64 3, .int .i64 93, .int .i64 93, .int .i64 93, .int .i64 215, .int .i64 97, .int .i64 97, .int .i64 215, .int .i64 215, .int .i64 2] 3) := Lib.hid (Blk.new w8 _ 3)
  have Hbw : Hid (w.heap.size ≤ w8.heap.size) := Lib.hid HB.out.size
  replace HB := Lib.hid (stepB HB.out hb)
  replace KC := Lib.hid (KC.out.later hb)
  replace KO := Lib.hid (KO.out.later hb)
  clear hb
  go_upto_region 8 with (fail)
  generalize w8.alloc (.cells #[.int .i64 2, .int .i64 3, .int .i64 93, .int .i64 93, .int .i64 93, .int .i64 215, .int .i64 97, .int .i64 97, .int .i64 215, .int .i64 215, .int .i64 2] 3) = w9 at *
  generalize w8.heap.size = bw at *
  replace KW : Hid (Blk w9 bw (w11.map (Value.int .i64)).toArray 3) := Lib.hid KW.out
  go_loopw [48] (fun s48 W' => ∃ k : Nat, k ≤ 11 ∧ s48 = .int .i64 k ∧ Blk W' bw (w11.map (Value.int .i64)).toArray 3 ∧ Blk W' bc #[.int .i64 1, .int .i64 2, .int .i64 1, .int .i64 2, .int .i64 9, .int .i64 2, .int .i64 2, .int .i64 3] 45 ∧ Blk W' bo #[.int .i64 1, .int .i64 2, .int .i64 1, .int .i64 9, .int .i64 9, .int .i64 2, .int .i64 2, .int .i64 3] 45 ∧ Below w.heap.size w W') (fun s48 _ => 11 - (intOf s48).toNat)
  case atStart => exact ⟨0, Nat.zero_le _, rfl, KW.out, KC.out, KO.out, HB.out⟩
  case round =>
    obtain ⟨k, hk, rfl, hw, hc, ho, hb⟩ := hrel
    have KW := Lib.hid hw
    have KC := Lib.hid hc
    have KO := Lib.hid ho
    have HB := Lib.hid hb
    clear hw hc ho hb
    by_cases hlt : k < 11
    · have d2 : decide ((k : Int) < (11 : Int)) = true := decide_eq_true (by omega)
      have d2' : decide (k < 11) = true := decide_eq_true hlt
      have wk : IntKind.i64.wrap ((k : Int) + 1) = (k : Int) + 1 := IntWalk.i64_in _ (by omega)
      have wk2 : wrap64 ((k : Int) + 1) = (k : Int) + 1 := by unfold wrap64; omega
      have wu : IntKind.u8.wrap (k : Int) = (k : Int) := by rw [show IntKind.u8.wrap (k : Int) = (k : Int) % 256 from rfl]; omega
      have y0 := (KW.out.cell k).trans (w11_at k hlt)
      have i0 : ∀ W, (Instr.indexAt 85 (.slice (some ⟨bw, 0, none⟩) 11 11) (.int .i64 (k : Int))).run Try.prog W = .ok (.pointer (some ⟨bw, k, none⟩)) W := fun W => by
        have := idx85_ bw 0 11 11 k (k : Int) rfl hlt W
        rwa [Nat.zero_add] at this
      have HS := steps11 k hlt
      obtain ⟨v, hv⟩ : ∃ v, w11.getD k 0 = v := ⟨_, rfl⟩
      rw [hv] at HS y0
      have ev : (v != v) = false := by simp
      have ev2 : (v == v) = true := by simp
      have HRS := Lib.hid (fun W => rsteps_any cf30 k (by omega) W)
      rw [HS] at HRS
      have HLT := Lib.hid hlt
      clear hv HS hlt
      have z0 := KC.out.cell 0
      have z1 := KC.out.cell 1
      have z2 := KC.out.cell 2
      have z3 := KC.out.cell 3
      have z4 := KC.out.cell 4
      have z5 := KC.out.cell 5
      have z6 := KC.out.cell 6
      have z7 := KC.out.cell 7
      simp only [List.getElem?_toArray, List.getElem?_cons_zero, List.getElem?_cons_succ] at z0 z1 z2 z3 z4 z5 z6 z7
      go_wp2_with fail
      refine (HRS.out _).mono ?_
      rintro e wv ⟨rfl, hb⟩
      have HB6 := Lib.hid (stepB HB.out hb)
      have KC6 := Lib.hid (KC.out.later hb)
      have KO6 := Lib.hid (KO.out.later hb)
      have KW6 := Lib.hid (KW.out.later hb)
      clear hb HB KC KO KW z0 z1 z2 z3 z4 z5 z6 z7 HRS
      go_wp2
      refine ⟨⟨k + 1, by have := HLT.out; omega, by go_num, KW6.out, KC6.out, KO6.out, HB6.out⟩, ?_⟩
      simp [intOf]
      have := HLT.out
      omega
    · obtain rfl : k = 11 := by omega
      have d2 : decide ((((11 : Nat) : Int)) < (11 : Int)) = false := by decide
      clear hlt hk
      go_upto_region 13 with (fail)
      have hb : Below wr.heap.size wr (wr.alloc (.cells #[.int .i64 6, .int .i64 8, .int .i64 64, .int .i64 8, .int .i64 1, .int .i64 1, .int .i64 0, .int .i64 8] 45)) := (Below.refl _ _).alloc (Nat.le_refl _) _
      have KG : Hid (Blk (wr.alloc (.cells #[.int .i64 6, .int .i64 8, .int .i64 64, .int .i64 8, .int .i64 1, .int .i64 1, .int .i64 0, .int .i64 8] 45)) wr.heap.size #[.int .i64 6, .int .i64 8, .int .i64 64, .int .i64 8, .int .i64 1, .int .i64 1, .int .i64 0, .int .i64 8] 45) := Lib.hid (Blk.new wr _ 45)
      have Hbg : Hid (w.heap.size ≤ wr.heap.size) := Lib.hid HB.out.size
      replace HB := Lib.hid (stepB HB.out hb)
      replace KC := Lib.hid (KC.out.later hb)
      replace KO := Lib.hid (KO.out.later hb)
      clear hb
      go_upto_region 14 with (fail)
      generalize wr.alloc (.cells #[.int .i64 6, .int .i64 8, .int .i64 64, .int .i64 8, .int .i64 1, .int .i64 1, .int .i64 0, .int .i64 8] 45) = wg at *
      generalize wr.heap.size = bg at *
      have z0 := KG.out.cell 0
      have z1 := KG.out.cell 1
      have z2 := KG.out.cell 2
      have z3 := KG.out.cell 3
      have z4 := KG.out.cell 4
      have z5 := KG.out.cell 5
      have z6 := KG.out.cell 6
      have z7 := KG.out.cell 7
      simp only [List.getElem?_toArray, List.getElem?_cons_zero, List.getElem?_cons_succ] at z0 z1 z2 z3 z4 z5 z6 z7
      go_wp2_with fail
      refine (rbound_any cG30 _).mono ?_
      rw [d30.2.2.2.1]
      rintro e wg2 ⟨rfl, hb⟩
      replace HB := Lib.hid (stepB HB.out hb)
      replace KC := Lib.hid (KC.out.later hb)
      replace KO := Lib.hid (KO.out.later hb)
      replace KG := Lib.hid (KG.out.later hb)
      clear hb z0 z1 z2 z3 z4 z5 z6 z7
      go_upto_region 15 with (fail)
      refine wp_region_noPanic ?_
      obtain ⟨W0, rfl⟩ : ∃ W0 : World, W0 = wg2 := ⟨_, rfl⟩
      refine wp_region_held_drew (S := fun W => Below W0.heap.size W0 W) (by kernel_rfl) (Below.drew (Below.refl _ _)) (fun hHeld => ?_)
      obtain ⟨Wd, hWd⟩ : ∃ z, World.drew W0 = z := ⟨_, rfl⟩
      rw [hWd] at hHeld ⊢
      clear hWd
      refine tkL 0 ?_ rfl rfl ?_ (fun _ _ _ h => h) (by assumption) (by kernel_rfl) ?_
      rotate_left
      · intro W hSw
        clear hSw
        go_simp
        try with_reducible rfl
      simp only [pu_]
      refine tkL 1 ?_ rfl rfl ?_ (fun _ _ _ h => h) (by assumption) (by kernel_rfl) ?_
      rotate_left
      · intro W hSw
        clear hSw
        go_simp
        try with_reducible rfl
      simp only [pu_]
      refine tkL 2 ?_ rfl rfl ?_ (fun _ _ _ h => h) (by assumption) (by kernel_rfl) ?_
      rotate_left
      · intro W hSw
        clear hSw
        go_simp
        try with_reducible rfl
      simp only [pu_]
      refine tkL 3 ?_ rfl rfl ?_ (fun _ _ _ h => h) (by assumption) (by kernel_rfl) ?_
      rotate_left
      · intro W hSw
        clear hSw
        go_simp
        try with_reducible rfl
      simp only [pu_]
      refine tkL 4 ?_ rfl rfl ?_ (fun _ _ _ h => h) (by assumption) (by kernel_rfl) ?_
      rotate_left
      · intro W hSw
        clear hSw
        go_simp
        try with_reducible rfl
      simp only [pu_]
      refine tkL 5 ?_ rfl rfl ?_ (fun _ _ _ h => h) (by assumption) (by kernel_rfl) ?_
      rotate_left
      · intro W hSw
        clear hSw
        go_simp
        try with_reducible rfl
      simp only [pu_]
      refine tkL 6 ?_ rfl rfl ?_ (fun _ _ _ h => h) (by assumption) (by kernel_rfl) ?_
      rotate_left
      · intro W hSw
        clear hSw
        go_simp
        try with_reducible rfl
      simp only [pu_]
      refine tkL 7 ?_ rfl rfl ?_ (fun _ _ _ h => h) (by assumption) (by kernel_rfl) ?_
      rotate_left
      · intro W hSw
        have hk := (KG.out.later hSw).cell
        have z0 := hk 0
        have z1 := hk 1
        have z2 := hk 2
        have z3 := hk 3
        have z4 := hk 4
        have z5 := hk 5
        have z6 := hk 6
        have z7 := hk 7
        simp only [List.getElem?_toArray, List.getElem?_cons_zero, List.getElem?_cons_succ] at z0 z1 z2 z3 z4 z5 z6 z7
        clear hSw hk
        go_simp
        try with_reducible rfl
      simp only [pu_]
      refine tkL 9 ?_ rfl rfl ?_ (fun _ _ _ h => h) (by assumption) (by kernel_rfl) ?_
      rotate_left
      · intro W hSw
        have hk := (KG.out.later hSw).cell
        have z0 := hk 0
        have z1 := hk 1
        have z2 := hk 2
        have z3 := hk 3
        have z4 := hk 4
        have z5 := hk 5
        have z6 := hk 6
        have z7 := hk 7
        simp only [List.getElem?_toArray, List.getElem?_cons_zero, List.getElem?_cons_succ] at z0 z1 z2 z3 z4 z5 z6 z7
        clear hSw hk
        go_simp
        try with_reducible rfl
      simp only [pu_]
      refine wpAnyH_ready (rs := [8]) (by kernel_rfl) (by simp) (AllReadyH.cons (o := { dst := some 74, op := Op.call { callee := Callee.value (Operand.func 44), args := #[Operand.tmp 73], argTypes := #[45] }, type := 3, pos := "outright.go:57", after := #[{ on := 7, ground := Ground.data }, { on := 6, ground := Ground.chain }, { on := 6, ground := Ground.guard }], guard := some (6, false) }) rfl (fun K hK => ?_) AllReadyH.nil)
      have HCL2 := Lib.hid (rrounds_any cG30 Wd)
      go_simp
      refine HCL2.out.mono ?_
      rw [d30.2.2.2.2.1]
      rintro e Wq1 ⟨rfl, hb⟩
      have hb2 := stepB hHeld hb
      clear hb hHeld HCL2
      refine hK.out _ _ (hb2) (fun hHeld => ?_)
      clear hK K
      clear hb2
      refine wpAnyH_ready (rs := [10]) (by kernel_rfl) (by simp) (AllReadyH.cons (o := { dst := some 76, op := Op.call { callee := Callee.value (Operand.func 43), args := #[Operand.tmp 75, Operand.const (Value.int IntKind.u8 8)], argTypes := #[45, 5] }, type := 3, pos := "outright.go:57", after := #[{ on := 9, ground := Ground.data }, { on := 8, ground := Ground.chain }, { on := 6, ground := Ground.guard }], guard := some (6, false) }) rfl (fun K hK => ?_) AllReadyH.nil)
      have HCL2 := Lib.hid (rsteps_any cG30 8 (by decide) Wq1)
      go_simp
      refine HCL2.out.mono ?_
      rw [d30.2.2.2.2.2]
      rintro e Wq2 ⟨rfl, hb⟩
      have hb2 := stepB hHeld hb
      clear hb hHeld HCL2
      refine hK.out _ _ (hb2) (fun hHeld => ?_)
      clear hK K
      clear hb2
      refine tkL 11 ?_ rfl rfl ?_ (fun _ _ _ h => h) (by assumption) (by kernel_rfl) ?_
      rotate_left
      · intro W hSw
        clear hSw
        go_simp
        try with_reducible rfl
      simp only [pu_]
      refine tkL 12 ?_ rfl rfl ?_ (fun _ _ _ h => h) (by assumption) (by kernel_rfl) ?_
      rotate_left
      · intro W hSw
        clear hSw
        go_simp
        try with_reducible rfl
      simp only [pu_]
      refine wpAnyH_done (by kernel_rfl) (NoPanic.normal ?_) _
      have hb := hHeld
      clear hHeld
      replace HB := Lib.hid (stepB HB.out hb)
      replace KC := Lib.hid (KC.out.later hb)
      replace KO := Lib.hid (KO.out.later hb)
      replace KG := Lib.hid (KG.out.later hb)
      clear hb
      have z0 := KO.out.cell 0
      have z1 := KO.out.cell 1
      have z2 := KO.out.cell 2
      have z3 := KO.out.cell 3
      have z4 := KO.out.cell 4
      have z5 := KO.out.cell 5
      have z6 := KO.out.cell 6
      have z7 := KO.out.cell 7
      simp only [List.getElem?_toArray, List.getElem?_cons_zero, List.getElem?_cons_succ] at z0 z1 z2 z3 z4 z5 z6 z7
      go_wp2_with fail
      refine (now_any cO30 none 0 0 [] none 0 0 [] ps_nil ev_nil_ (by decide) (by decide)).mono ?_
      rw [n30c]
      rintro e wh ⟨rfl, hb⟩
      replace HB := Lib.hid (stepB HB.out hb)
      replace KC := Lib.hid (KC.out.later hb)
      replace KO := Lib.hid (KO.out.later hb)
      clear hb z0 z1 z2 z3 z4 z5 z6 z7
      obtain ⟨wi, hwi⟩ : ∃ z, z = wh := ⟨_, rfl⟩
      subst hwi
      have z0 := KC.out.cell 0
      have z1 := KC.out.cell 1
      have z2 := KC.out.cell 2
      have z3 := KC.out.cell 3
      have z4 := KC.out.cell 4
      have z5 := KC.out.cell 5
      have z6 := KC.out.cell 6
      have z7 := KC.out.cell 7
      simp only [List.getElem?_toArray, List.getElem?_cons_zero, List.getElem?_cons_succ] at z0 z1 z2 z3 z4 z5 z6 z7
      have hb : Below wi.heap.size wi (wi.alloc (.cells #[.int .u8 1, .int .i64 0, .int .i64 0, .int .i64 0, .bool false, .string { data := #[] }, .slice none 0 0] 89)) := (Below.refl _ _).alloc (Nat.le_refl _) _
      have KE : Hid (Blk (wi.alloc (.cells #[.int .u8 1, .int .i64 0, .int .i64 0, .int .i64 0, .bool false, .string { data := #[] }, .slice none 0 0] 89)) wi.heap.size #[.int .u8 1, .int .i64 0, .int .i64 0, .int .i64 0, .bool false, .string { data := #[] }, .slice none 0 0] 89) := Lib.hid (Blk.new wi _ 89)
      have Hbe : Hid (w.heap.size ≤ wi.heap.size) := Lib.hid HB.out.size
      replace HB := Lib.hid (stepB HB.out hb)
      replace KC := Lib.hid (KC.out.later hb)
      clear hb
      have hbt : Try.prog.built 89 [(0, .int .u8 1)] = some #[.int .u8 1, .int .i64 0, .int .i64 0, .int .i64 0, .bool false, .string { data := #[] }, .slice none 0 0] := by kernel_rfl
      have HEV : Hid (EvOk (wi.alloc (.cells #[.int .u8 1, .int .i64 0, .int .i64 0, .int .i64 0, .bool false, .string { data := #[] }, .slice none 0 0] 89)) (wi.alloc (.cells #[.int .u8 1, .int .i64 0, .int .i64 0, .int .i64 0, .bool false, .string { data := #[] }, .slice none 0 0] 89)) (some ⟨wi.heap.size, 0, none⟩) 1 [eh e1_]) := Lib.hid (ev_bare (l := [e1_]) (fun W' hb => rs_of_ (t := 89) (L := [eh e1_]) evE_len (KE.out.later hb)) (fun e he => by
        have h : e = e1_ := by simpa using he
        subst h
        exact ⟨⟨by decide, by decide⟩, rfl⟩))
      clear KE
      go_wp2_with fail
      refine (now_any cf30 none 0 0 [] (some ⟨wi.heap.size, 0, none⟩) 1 1 [eh e1_] ps_nil HEV.out (by decide) (by decide)).mono ?_
      rw [n30d]
      rintro e wk ⟨rfl, hb⟩
      replace HB := Lib.hid (stepB HB.out hb)
      replace KC := Lib.hid (KC.out.later hb)
      clear hb z0 z1 z2 z3 z4 z5 z6 z7
      clear hbt HEV
      have z0 := KC.out.cell 0
      have z1 := KC.out.cell 1
      have z2 := KC.out.cell 2
      have z3 := KC.out.cell 3
      have z4 := KC.out.cell 4
      have z5 := KC.out.cell 5
      have z6 := KC.out.cell 6
      have z7 := KC.out.cell 7
      simp only [List.getElem?_toArray, List.getElem?_cons_zero, List.getElem?_cons_succ] at z0 z1 z2 z3 z4 z5 z6 z7
      go_wp2_with fail
      refine (is30 cf30 none 0 0 [] none 0 0 [] 0 0 ps_nil ev_nil_ (by decide) (by decide) n30e).mono ?_
      rintro e wl ⟨rfl, hb⟩
      replace HB := Lib.hid (stepB HB.out hb)
      replace KC := Lib.hid (KC.out.later hb)
      clear hb z0 z1 z2 z3 z4 z5 z6 z7
      have z2 := KC.out.cell 2
      have f2 := KC.out.frozen 2
      have hk2 : Blk (wl.setCell ⟨bc, 2, none⟩ (.int .i64 4)) bc #[.int .i64 1, .int .i64 2, .int .i64 4, .int .i64 2, .int .i64 9, .int .i64 2, .int .i64 2, .int .i64 3] 45 := KC.out.set (j := 2) _
      have z3 := hk2.cell 3
      have f3 := hk2.frozen 3
      simp only [List.getElem?_toArray, List.getElem?_cons_zero, List.getElem?_cons_succ] at z2 z3
      have HB2 := Lib.hid ((HB.out.setCell (p := ⟨bc, 2, none⟩) Hbc.out (.int .i64 4)).setCell (p := ⟨bc, 3, none⟩) Hbc.out (.int .i64 4))
      have KC2 : Hid (Blk ((wl.setCell ⟨bc, 2, none⟩ (.int .i64 4)).setCell ⟨bc, 3, none⟩ (.int .i64 4)) bc #[.int .i64 1, .int .i64 2, .int .i64 4, .int .i64 4, .int .i64 9, .int .i64 2, .int .i64 2, .int .i64 3] 45) := Lib.hid (hk2.set (j := 3) _)
      clear hk2 HB KC
      go_upto_region 22 with (fail)
      clear z2 z3 f2 f3
      generalize (wl.setCell ⟨bc, 2, none⟩ (.int .i64 4)).setCell ⟨bc, 3, none⟩ (.int .i64 4) = wm at *
      have HB := HB2
      have KC := KC2
      clear HB2 KC2
      have hb0_ : Try.prog.built 36 [(0, .int .u8 1)] = some #[.int .u8 1, .int .i64 0, .string { data := #[] }, .string { data := #[] }, .string { data := #[] }, .int .i64 0, .int .u8 0] := by kernel_rfl
      have hb1_ : Try.prog.built 36 [(0, .int .u8 3), (1, .int .i64 1), (2, .string { data := #[97] })] = some #[.int .u8 3, .int .i64 1, .string { data := #[97] }, .string { data := #[] }, .string { data := #[] }, .int .i64 0, .int .u8 0] := by kernel_rfl
      have hb2_ : Try.prog.built 36 [(0, .int .u8 3), (1, .int .i64 1), (2, .string { data := #[98] })] = some #[.int .u8 3, .int .i64 1, .string { data := #[98] }, .string { data := #[] }, .string { data := #[] }, .int .i64 0, .int .u8 0] := by kernel_rfl
      have hb3_ : Try.prog.built 36 [(0, .int .u8 6), (1, .int .i64 1)] = some #[.int .u8 6, .int .i64 1, .string { data := #[] }, .string { data := #[] }, .string { data := #[] }, .int .i64 0, .int .u8 0] := by kernel_rfl
      have hb4_ : Try.prog.built 36 [(0, .int .u8 4), (1, .int .i64 2), (2, .string { data := #[97] })] = some #[.int .u8 4, .int .i64 2, .string { data := #[97] }, .string { data := #[] }, .string { data := #[] }, .int .i64 0, .int .u8 0] := by kernel_rfl
      have hb5_ : Try.prog.built 36 [(0, .int .u8 3), (1, .int .i64 2), (2, .string { data := #[99] })] = some #[.int .u8 3, .int .i64 2, .string { data := #[99] }, .string { data := #[] }, .string { data := #[] }, .int .i64 0, .int .u8 0] := by kernel_rfl
      have hb6_ : Try.prog.built 36 [(0, .int .u8 6), (1, .int .i64 2)] = some #[.int .u8 6, .int .i64 2, .string { data := #[] }, .string { data := #[] }, .string { data := #[] }, .int .i64 0, .int .u8 0] := by kernel_rfl
      have hb7_ : Try.prog.built 36 [(0, .int .u8 9), (6, .int .u8 2)] = some #[.int .u8 9, .int .i64 0, .string { data := #[] }, .string { data := #[] }, .string { data := #[] }, .int .i64 0, .int .u8 2] := by kernel_rfl
      have hb8_ : Try.prog.built 36 [(0, .int .u8 8)] = some #[.int .u8 8, .int .i64 0, .string { data := #[] }, .string { data := #[] }, .string { data := #[] }, .int .i64 0, .int .u8 0] := by kernel_rfl
      have hb9_ : Try.prog.built 36 [(0, .int .u8 3), (1, .int .i64 3), (2, .string { data := #[98] })] = some #[.int .u8 3, .int .i64 3, .string { data := #[98] }, .string { data := #[] }, .string { data := #[] }, .int .i64 0, .int .u8 0] := by kernel_rfl
      have hb10_ : Try.prog.built 36 [(0, .int .u8 7), (1, .int .i64 3)] = some #[.int .u8 7, .int .i64 3, .string { data := #[] }, .string { data := #[] }, .string { data := #[] }, .int .i64 0, .int .u8 0] := by kernel_rfl
      have hb : Below wm.heap.size wm ((wm.alloc (.cells #[.int .u8 1, .int .i64 0, .string { data := #[] }, .string { data := #[] }, .string { data := #[] }, .int .i64 0, .int .u8 0, .int .u8 3, .int .i64 1, .string { data := #[97] }, .string { data := #[] }, .string { data := #[] }, .int .i64 0, .int .u8 0, .int .u8 3, .int .i64 1, .string { data := #[98] }, .string { data := #[] }, .string { data := #[] }, .int .i64 0, .int .u8 0, .int .u8 6, .int .i64 1, .string { data := #[] }, .string { data := #[] }, .string { data := #[] }, .int .i64 0, .int .u8 0, .int .u8 1, .int .i64 0, .string { data := #[] }, .string { data := #[] }, .string { data := #[] }, .int .i64 0, .int .u8 0, .int .u8 4, .int .i64 2, .string { data := #[97] }, .string { data := #[] }, .string { data := #[] }, .int .i64 0, .int .u8 0, .int .u8 3, .int .i64 2, .string { data := #[99] }, .string { data := #[] }, .string { data := #[] }, .int .i64 0, .int .u8 0, .int .u8 6, .int .i64 2, .string { data := #[] }, .string { data := #[] }, .string { data := #[] }, .int .i64 0, .int .u8 0, .int .u8 9, .int .i64 0, .string { data := #[] }, .string { data := #[] }, .string { data := #[] }, .int .i64 0, .int .u8 2, .int .u8 8, .int .i64 0, .string { data := #[] }, .string { data := #[] }, .string { data := #[] }, .int .i64 0, .int .u8 0, .int .u8 1, .int .i64 0, .string { data := #[] }, .string { data := #[] }, .string { data := #[] }, .int .i64 0, .int .u8 0, .int .u8 3, .int .i64 3, .string { data := #[98] }, .string { data := #[] }, .string { data := #[] }, .int .i64 0, .int .u8 0, .int .u8 7, .int .i64 3, .string { data := #[] }, .string { data := #[] }, .string { data := #[] }, .int .i64 0, .int .u8 0] 36)).alloc (.cells #[.slice (some ⟨wm.heap.size, 0, none⟩) 13 13] 92)) := ((Below.refl _ _).alloc (Nat.le_refl _) _).alloc (by simp) _
      have KL : Hid (Blk ((wm.alloc (.cells #[.int .u8 1, .int .i64 0, .string { data := #[] }, .string { data := #[] }, .string { data := #[] }, .int .i64 0, .int .u8 0, .int .u8 3, .int .i64 1, .string { data := #[97] }, .string { data := #[] }, .string { data := #[] }, .int .i64 0, .int .u8 0, .int .u8 3, .int .i64 1, .string { data := #[98] }, .string { data := #[] }, .string { data := #[] }, .int .i64 0, .int .u8 0, .int .u8 6, .int .i64 1, .string { data := #[] }, .string { data := #[] }, .string { data := #[] }, .int .i64 0, .int .u8 0, .int .u8 1, .int .i64 0, .string { data := #[] }, .string { data := #[] }, .string { data := #[] }, .int .i64 0, .int .u8 0, .int .u8 4, .int .i64 2, .string { data := #[97] }, .string { data := #[] }, .string { data := #[] }, .int .i64 0, .int .u8 0, .int .u8 3, .int .i64 2, .string { data := #[99] }, .string { data := #[] }, .string { data := #[] }, .int .i64 0, .int .u8 0, .int .u8 6, .int .i64 2, .string { data := #[] }, .string { data := #[] }, .string { data := #[] }, .int .i64 0, .int .u8 0, .int .u8 9, .int .i64 0, .string { data := #[] }, .string { data := #[] }, .string { data := #[] }, .int .i64 0, .int .u8 2, .int .u8 8, .int .i64 0, .string { data := #[] }, .string { data := #[] }, .string { data := #[] }, .int .i64 0, .int .u8 0, .int .u8 1, .int .i64 0, .string { data := #[] }, .string { data := #[] }, .string { data := #[] }, .int .i64 0, .int .u8 0, .int .u8 3, .int .i64 3, .string { data := #[98] }, .string { data := #[] }, .string { data := #[] }, .int .i64 0, .int .u8 0, .int .u8 7, .int .i64 3, .string { data := #[] }, .string { data := #[] }, .string { data := #[] }, .int .i64 0, .int .u8 0] 36)).alloc (.cells #[.slice (some ⟨wm.heap.size, 0, none⟩) 13 13] 92)) wm.heap.size (rv clE l13).toArray 36) := Lib.hid ((Blk.new wm _ 36).alloc _)
      have KP : Hid (Blk ((wm.alloc (.cells #[.int .u8 1, .int .i64 0, .string { data := #[] }, .string { data := #[] }, .string { data := #[] }, .int .i64 0, .int .u8 0, .int .u8 3, .int .i64 1, .string { data := #[97] }, .string { data := #[] }, .string { data := #[] }, .int .i64 0, .int .u8 0, .int .u8 3, .int .i64 1, .string { data := #[98] }, .string { data := #[] }, .string { data := #[] }, .int .i64 0, .int .u8 0, .int .u8 6, .int .i64 1, .string { data := #[] }, .string { data := #[] }, .string { data := #[] }, .int .i64 0, .int .u8 0, .int .u8 1, .int .i64 0, .string { data := #[] }, .string { data := #[] }, .string { data := #[] }, .int .i64 0, .int .u8 0, .int .u8 4, .int .i64 2, .string { data := #[97] }, .string { data := #[] }, .string { data := #[] }, .int .i64 0, .int .u8 0, .int .u8 3, .int .i64 2, .string { data := #[99] }, .string { data := #[] }, .string { data := #[] }, .int .i64 0, .int .u8 0, .int .u8 6, .int .i64 2, .string { data := #[] }, .string { data := #[] }, .string { data := #[] }, .int .i64 0, .int .u8 0, .int .u8 9, .int .i64 0, .string { data := #[] }, .string { data := #[] }, .string { data := #[] }, .int .i64 0, .int .u8 2, .int .u8 8, .int .i64 0, .string { data := #[] }, .string { data := #[] }, .string { data := #[] }, .int .i64 0, .int .u8 0, .int .u8 1, .int .i64 0, .string { data := #[] }, .string { data := #[] }, .string { data := #[] }, .int .i64 0, .int .u8 0, .int .u8 3, .int .i64 3, .string { data := #[98] }, .string { data := #[] }, .string { data := #[] }, .int .i64 0, .int .u8 0, .int .u8 7, .int .i64 3, .string { data := #[] }, .string { data := #[] }, .string { data := #[] }, .int .i64 0, .int .u8 0] 36)).alloc (.cells #[.slice (some ⟨wm.heap.size, 0, none⟩) 13 13] 92)) (wm.heap.size + 1) #[.slice (some ⟨wm.heap.size, 0, none⟩) 13 13] 92) := Lib.hid (Blk.new2 _ _ 92 (by simp))
      replace HB := Lib.hid (stepB HB.out hb)
      replace KC := Lib.hid (KC.out.later hb)
      clear hb
      go_upto_region 23 with (fail)
      clear hb0_ hb1_ hb2_ hb3_ hb4_ hb5_ hb6_ hb7_ hb8_ hb9_ hb10_
      generalize ((wm.alloc (.cells #[.int .u8 1, .int .i64 0, .string { data := #[] }, .string { data := #[] }, .string { data := #[] }, .int .i64 0, .int .u8 0, .int .u8 3, .int .i64 1, .string { data := #[97] }, .string { data := #[] }, .string { data := #[] }, .int .i64 0, .int .u8 0, .int .u8 3, .int .i64 1, .string { data := #[98] }, .string { data := #[] }, .string { data := #[] }, .int .i64 0, .int .u8 0, .int .u8 6, .int .i64 1, .string { data := #[] }, .string { data := #[] }, .string { data := #[] }, .int .i64 0, .int .u8 0, .int .u8 1, .int .i64 0, .string { data := #[] }, .string { data := #[] }, .string { data := #[] }, .int .i64 0, .int .u8 0, .int .u8 4, .int .i64 2, .string { data := #[97] }, .string { data := #[] }, .string { data := #[] }, .int .i64 0, .int .u8 0, .int .u8 3, .int .i64 2, .string { data := #[99] }, .string { data := #[] }, .string { data := #[] }, .int .i64 0, .int .u8 0, .int .u8 6, .int .i64 2, .string { data := #[] }, .string { data := #[] }, .string { data := #[] }, .int .i64 0, .int .u8 0, .int .u8 9, .int .i64 0, .string { data := #[] }, .string { data := #[] }, .string { data := #[] }, .int .i64 0, .int .u8 2, .int .u8 8, .int .i64 0, .string { data := #[] }, .string { data := #[] }, .string { data := #[] }, .int .i64 0, .int .u8 0, .int .u8 1, .int .i64 0, .string { data := #[] }, .string { data := #[] }, .string { data := #[] }, .int .i64 0, .int .u8 0, .int .u8 3, .int .i64 3, .string { data := #[98] }, .string { data := #[] }, .string { data := #[] }, .int .i64 0, .int .u8 0, .int .u8 7, .int .i64 3, .string { data := #[] }, .string { data := #[] }, .string { data := #[] }, .int .i64 0, .int .u8 0] 36)).alloc (.cells #[.slice (some ⟨wm.heap.size, 0, none⟩) 13 13] 92)) = wn at *
      generalize wm.heap.size = bl at *
      generalize bl + 1 = bp at *
      go_wp2_with fail
      refine (run30 (some ⟨bp, 0, none⟩) 1 1 (lp1 l13 bl) l13 (some ⟨bl, 0, none⟩, 13) 13 (ps_one KP.out KL.out l13_ok) rfl (by decide) (by decide)).mono ?_
      rintro e wo ⟨A, cc, rfl, hro, hb⟩
      replace HB := Lib.hid (stepB HB.out hb)
      replace KC := Lib.hid (KC.out.later hb)
      replace KL := Lib.hid (KL.out.later hb)
      replace KP := Lib.hid (KP.out.later hb)
      clear hb
      have HRO := Lib.hid hro
      obtain ⟨_, _, e2, hc, _⟩ := hro.sl
      cases e2
      obtain ⟨g, off, rfl, _, _⟩ := (hro.rsl evE_len).2 (by decide)
      have HC := Lib.hid hc
      clear hro hc
      go_upto_region 24 with (fail)
      have hb : Below wo.heap.size wo (wo.alloc (.cells (rv r3E r18).toArray 95)) := (Below.refl _ _).alloc (Nat.le_refl _) _
      have KR : Hid (Blk (wo.alloc (.cells (rv r3E r18).toArray 95)) wo.heap.size (rv r3E r18).toArray 95) := Lib.hid (Blk.new wo _ 95)
      replace HB := Lib.hid (stepB HB.out hb)
      replace KC := Lib.hid (KC.out.later hb)
      replace KL := Lib.hid (KL.out.later hb)
      replace KP := Lib.hid (KP.out.later hb)
      clear hb
      replace HRO := Lib.hid (HRO.out.later ((Below.refl wo.heap.size wo).alloc (Nat.le_refl _) (.cells (rv r3E r18).toArray 95)))
      obtain ⟨ie, hie, hz, hsz⟩ := info95
      go_upto_region 25 with (first | (refine wpList_buildSlice rfl 96 95 18 _ rfl (rv r3E r18).toArray ie _ Try.underlying96 hie hz (by rw [hsz]; decide) (by rw [hsz]; decide) (by rw [hsz, Array.toList_map]; exact fill18) ?_) | go_in)
      clear hie hz hsz
      generalize wo.alloc (.cells (rv r3E r18).toArray 95) = wp at *
      generalize wo.heap.size = pr at *
      generalize wn.heap.size = B9 at *
      go_loopw [143] (fun s143 W' => ∃ k : Nat, k ≤ 18 ∧ s143 = .int .i64 k ∧ Blk W' pr (rv r3E r18).toArray 95 ∧ Blk W' bc #[.int .i64 1, .int .i64 2, .int .i64 4, .int .i64 4, .int .i64 9, .int .i64 2, .int .i64 2, .int .i64 3] 45 ∧ Blk W' bl (rv clE l13).toArray 36 ∧ Blk W' bp #[.slice (some ⟨bl, 0, none⟩) 13 13] 92 ∧ ROwn evE 7 W' B9 89 (.slice (some ⟨g, off, none⟩) 39 cc) 39 (runH l13 13) ∧ Below w.heap.size w W') (fun s143 _ => 18 - (intOf s143).toNat)
      case atStart => exact ⟨0, Nat.zero_le _, rfl, KR.out, KC.out, KL.out, KP.out, HRO.out, HB.out⟩
      case round =>
        obtain ⟨k, hk, rfl, hr, hc, hl, hp, ho, hb⟩ := hrel
        have KR := Lib.hid hr
        have KC := Lib.hid hc
        have KL := Lib.hid hl
        have KP := Lib.hid hp
        have HRO := Lib.hid ho
        have HB := Lib.hid hb
        clear hr hc hl hp ho hb
        by_cases hlt : k < 18
        · have d2 : decide ((k : Int) < (18 : Int)) = true := decide_eq_true (by omega)
          have d2' : decide (k < 18) = true := decide_eq_true hlt
          have wk : IntKind.i64.wrap ((k : Int) + 1) = (k : Int) + 1 := IntWalk.i64_in _ (by omega)
          have wk2 : wrap64 ((k : Int) + 1) = (k : Int) + 1 := by unfold wrap64; omega
          have hrl : r18.length = 18 := rfl
          have hrd : r18[k]? = some (r18[k]'(by rw [hrl]; exact hlt)) := List.getElem?_eq_getElem _
          generalize r18[k]'(by rw [hrl]; exact hlt) = r at *
          have HOK := Lib.hid (r18_all r (List.mem_of_getElem? hrd))
          obtain ⟨g', off', hg, _, hcl⟩ := (rs_of_ r3E_len KR.out).2 (by rw [hrl]; decide)
          cases hg
          have hcl := hcl k r hrd
          obtain ⟨rn, rs, ra⟩ := r
          have y0 := hcl 0 (by decide)
          have y1 := hcl 1 (by decide)
          have y2 := hcl 2 (by decide)
          simp only [Nat.zero_add, Nat.add_zero, r3E, List.getElem?_cons_zero, List.getElem?_cons_succ] at y0 y1 y2
          have i0 : ∀ W, (Instr.indexAt 96 (.slice (some ⟨pr, 0, none⟩) 18 18) (.int .i64 (k : Int))).run Try.prog W = .ok (.pointer (some ⟨pr, k * 3, none⟩)) W := fun W => by
            have := idx96 pr 0 18 18 k (k : Int) rfl hlt W
            rwa [Nat.zero_add] at this
          have HLE : Hid (rn ≤ 39) := Lib.hid HOK.out.1
          have HNW : Hid (nowP c430 [l13] ((runE l13 13).take rn) = (rs, ra, 0)) := Lib.hid HOK.out.2
          have hc39 : 39 ≤ cc := by obtain ⟨_, _, e2, h, _⟩ := HRO.out.sl; cases e2; exact h
          have sl := sl90 g off 39 cc rn HLE.out hc39 (rn : Int) rfl
          have HLT := Lib.hid hlt
          clear hcl hrd hrl hlt hc39 HOK
          have hb5 : Below wr.heap.size wr (wr.alloc (.cells #[.int .i64 (rn : Int), .int .i64 rs, .int .i64 ra] 95)) := (Below.refl _ _).alloc (Nat.le_refl _) _
          have KB : Hid (Blk (wr.alloc (.cells #[.int .i64 (rn : Int), .int .i64 rs, .int .i64 ra] 95)) wr.heap.size #[.int .i64 (rn : Int), .int .i64 rs, .int .i64 ra] 95) := Lib.hid (Blk.new wr _ 95)
          replace HB := Lib.hid (stepB HB.out hb5)
          replace KR := Lib.hid (KR.out.later hb5)
          replace KC := Lib.hid (KC.out.later hb5)
          replace KL := Lib.hid (KL.out.later hb5)
          replace KP := Lib.hid (KP.out.later hb5)
          replace HRO := Lib.hid (HRO.out.later hb5)
          clear hb5
          go_upto_region 27 with (fail)
          clear y0 y1 y2 i0
          generalize wr.alloc (.cells #[.int .i64 (rn : Int), .int .i64 rs, .int .i64 ra] 95) = w5 at *
          generalize wr.heap.size = bq at *
          refine wp_region_noPanic ?_
          obtain ⟨W0, rfl⟩ : ∃ W0 : World, W0 = w5 := ⟨_, rfl⟩
          refine wp_region_held_drew (S := fun W => Below W0.heap.size W0 W) (by kernel_rfl) (Below.drew (Below.refl _ _)) (fun hHeld => ?_)
          obtain ⟨Wd, hWd⟩ : ∃ z, World.drew W0 = z := ⟨_, rfl⟩
          rw [hWd] at hHeld ⊢
          clear hWd
          refine tkL 0 ?_ rfl rfl ?_ (fun _ _ _ h => h) (by assumption) (by kernel_rfl) ?_
          rotate_left
          · intro W hSw
            have hk := (KC.out.later hSw).cell
            have z0 := hk 0
            have z1 := hk 1
            have z2 := hk 2
            have z3 := hk 3
            have z4 := hk 4
            have z5 := hk 5
            have z6 := hk 6
            have z7 := hk 7
            simp only [List.getElem?_toArray, List.getElem?_cons_zero, List.getElem?_cons_succ] at z0 z1 z2 z3 z4 z5 z6 z7
            clear hSw hk
            go_simp
            try with_reducible rfl
          simp only [pu_]
          refine tkL 1 ?_ rfl rfl ?_ (fun _ _ _ h => h) (by assumption) (by kernel_rfl) ?_
          rotate_left
          · intro W hSw
            clear hSw
            go_simp
            try with_reducible rfl
          simp only [pu_]
          refine tkL 2 ?_ rfl rfl ?_ (fun _ _ _ h => h) (by assumption) (by kernel_rfl) ?_
          rotate_left
          · intro W hSw
            clear hSw
            go_simp
            try with_reducible rfl
          simp only [pu_]
          refine tkL 3 ?_ rfl rfl ?_ (fun _ _ _ h => h) (by assumption) (by kernel_rfl) ?_
          rotate_left
          · intro W hSw
            clear hSw
            go_simp
            try with_reducible rfl
          simp only [pu_]
          refine tkL 4 ?_ rfl rfl ?_ (fun _ _ _ h => h) (by assumption) (by kernel_rfl) ?_
          rotate_left
          · intro W hSw
            have q0 := (KB.out.later hSw).cell 0
            have q1 := (KB.out.later hSw).cell 1
            have q2 := (KB.out.later hSw).cell 2
            simp only [List.getElem?_toArray, List.getElem?_cons_zero, List.getElem?_cons_succ] at q0 q1 q2
            clear hSw
            go_simp
            try with_reducible rfl
          simp only [pu_]
          refine tkL 5 ?_ rfl rfl ?_ (fun _ _ _ h => h) (by assumption) (by kernel_rfl) ?_
          rotate_left
          · intro W hSw
            clear hSw
            go_simp
            try with_reducible rfl
          simp only [pu_]
          refine tkL 6 ?_ rfl rfl ?_ (fun _ _ _ h => h) (by assumption) (by kernel_rfl) ?_
          rotate_left
          · intro W hSw
            clear hSw
            go_simp
            try with_reducible rfl
          simp only [pu_]
          refine tkL 7 ?_ rfl rfl ?_ (fun _ _ _ h => h) (by assumption) (by kernel_rfl) ?_
          rotate_left
          · intro W hSw
            have q0 := (KB.out.later hSw).cell 0
            have q1 := (KB.out.later hSw).cell 1
            have q2 := (KB.out.later hSw).cell 2
            simp only [List.getElem?_toArray, List.getElem?_cons_zero, List.getElem?_cons_succ] at q0 q1 q2
            clear hSw
            go_simp
            try with_reducible rfl
          simp only [pu_]
          refine tkL 8 ?_ rfl rfl ?_ (fun _ _ _ h => h) (by assumption) (by kernel_rfl) ?_
          rotate_left
          · intro W hSw
            clear hSw
            go_simp
            try with_reducible rfl
          simp only [pu_]
          refine tkL 9 ?_ rfl rfl ?_ (fun _ _ _ h => h) (by assumption) (by kernel_rfl) ?_
          rotate_left
          · intro W hSw
            have q0 := (KB.out.later hSw).cell 0
            have q1 := (KB.out.later hSw).cell 1
            have q2 := (KB.out.later hSw).cell 2
            simp only [List.getElem?_toArray, List.getElem?_cons_zero, List.getElem?_cons_succ] at q0 q1 q2
            clear hSw
            go_simp
            try with_reducible rfl
          simp only [pu_]
          refine wpAnyH_ready (rs := [10]) (by kernel_rfl) (by simp) (AllReadyH.cons (o := { dst := some 157, op := Op.call { callee := Callee.value (Operand.func 46), args := #[Operand.tmp 147, Operand.tmp 148, Operand.tmp 152, Operand.tmp 154, Operand.tmp 156], argTypes := #[45, 93, 90, 3, 3] }, type := 4, pos := "outright.go:71", after := #[{ on := 0, ground := Ground.data }, { on := 1, ground := Ground.data }, { on := 5, ground := Ground.data }, { on := 7, ground := Ground.data }, { on := 9, ground := Ground.data }], guard := none }) rfl (fun K hK => ?_) AllReadyH.nil)
          have HCL2 := Lib.hid ((is30 (W := Wd) c430 (some ⟨bp, 0, none⟩) 1 1 (lp1 l13 bl) (some ⟨g, off, none⟩) rn cc (((runE l13 13).take rn).map eh) rs ra (ps_one (KP.out.later hHeld) (KL.out.later hHeld) l13_ok) (ev_run (HRO.out.later hHeld) HLE.out) (by decide) (by rw [List.length_map, List.length_take]; have := HLE.out; omega) (by rw [evV_eh]; exact HNW.out)))
          go_simp
          refine HCL2.out.mono ?_
          rintro e Wq1 ⟨rfl, hb⟩
          have hb2 := stepB hHeld hb
          clear hb hHeld HCL2
          refine hK.out _ _ (hb2) (fun hHeld => ?_)
          clear hK K
          clear hb2
          refine tkL 11 ?_ rfl rfl ?_ (fun _ _ _ h => h) (by assumption) (by kernel_rfl) ?_
          rotate_left
          · intro W hSw
            clear hSw
            go_simp
            try with_reducible rfl
          simp only [pu_]
          refine wpAnyH_done (by kernel_rfl) (NoPanic.normal ?_) _
          have KR6 := Lib.hid (KR.out.later hHeld)
          have KC6 := Lib.hid (KC.out.later hHeld)
          have KL6 := Lib.hid (KL.out.later hHeld)
          have KP6 := Lib.hid (KP.out.later hHeld)
          have HRO6 := Lib.hid (HRO.out.later hHeld)
          have HB6 := Lib.hid (stepB HB.out hHeld)
          clear hHeld HB KR KC KL KP HRO KB
          go_wp2
          refine ⟨⟨k + 1, by have := HLT.out; omega, by go_num, KR6.out, KC6.out, KL6.out, KP6.out, HRO6.out, HB6.out⟩, ?_⟩
          simp [intOf]
          have := HLT.out
          omega
        · obtain rfl : k = 18 := by omega
          have d2 : decide ((((18 : Nat) : Int)) < (18 : Int)) = false := by decide
          clear hlt hk
          go_wp2
          go_ret
          exact ⟨rfl, HB.out⟩
end Go.Proofs.Ytoinjnocopejjaa.roomNames
