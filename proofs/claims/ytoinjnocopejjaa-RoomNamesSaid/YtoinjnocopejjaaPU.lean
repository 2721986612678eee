/- The examples of room. -/
import Derived.Test.YtoinjnocopejjaaPQ
import Derived.StillTailTactics
import Derived.Deep.QuietTactic
import Derived.BigQuiet
namespace Go.Proofs.Ytoinjnocopejjaa
open Go.ChangeShapes Go.WideShapes Go.ChangeAt Go.RowKit Go.Maps
set_option linter.unusedVariables false
set_option linter.unusedSimpArgs false
set_option maxRecDepth 100000 in
set_option maxHeartbeats 4000000 in
theorem works30 (w : World) : Calls Try.prog 42 #[] w fun e w' => e = .returned (.bool true) ∧ Below w.heap.size w w' := by
  have hbt1 : Try.prog.built 36 [(0, .int .u8 1)] = some #[.int .u8 1, .int .i64 0, .string { data := #[] }, .string { data := #[] }, .string { data := #[] }, .int .i64 0, .int .u8 0] := by kernel_rfl
  have hbt2 : Try.prog.built 36 [(0, .int .u8 3), (1, .int .i64 1), (2, .string { data := #[97] })] = some #[.int .u8 3, .int .i64 1, .string { data := #[97] }, .string { data := #[] }, .string { data := #[] }, .int .i64 0, .int .u8 0] := by kernel_rfl
  have HB0 : Hid (Below w.heap.size w w) := Lib.hid (Below.refl _ _)
  go_enter Try.func42, Try.ntmps42
  go_wp2_with fail
  refine (small30 _).mono ?_
  rintro e w1 ⟨rfl, hb⟩
  have HB1 : Hid (Below w.heap.size w (w1.alloc (.cells #[.int .i64 1, .int .i64 2, .int .i64 1, .int .i64 2, .int .i64 9, .int .i64 2, .int .i64 2, .int .i64 3] 45))) := Lib.hid ((stepB HB0.out hb).alloc (stepB HB0.out hb).size _)
  have KC : Hid (Blk (w1.alloc (.cells #[.int .i64 1, .int .i64 2, .int .i64 1, .int .i64 2, .int .i64 9, .int .i64 2, .int .i64 2, .int .i64 3] 45)) w1.heap.size #[.int .i64 1, .int .i64 2, .int .i64 1, .int .i64 2, .int .i64 9, .int .i64 2, .int .i64 2, .int .i64 3] 45) := Lib.hid (Blk.new w1 _ 45)
  clear hb HB0
  go_upto_region 2 with (fail)
  generalize w1.alloc (.cells #[.int .i64 1, .int .i64 2, .int .i64 1, .int .i64 2, .int .i64 9, .int .i64 2, .int .i64 2, .int .i64 3] 45) = w2 at *
  obtain ⟨bc, hbc⟩ : ∃ z, w1.heap.size = z := ⟨_, rfl⟩
  rw [hbc] at KC ⊢
  clear hbc
  have hb : Below w2.heap.size w2 ((w2.alloc (.cells #[.int .u8 1, .int .i64 0, .string { data := #[] }, .string { data := #[] }, .string { data := #[] }, .int .i64 0, .int .u8 0, .int .u8 3, .int .i64 1, .string { data := #[97] }, .string { data := #[] }, .string { data := #[] }, .int .i64 0, .int .u8 0] 36)).alloc (.cells #[.slice (some ⟨w2.heap.size, 0, none⟩) 2 2] 92)) := ((Below.refl _ _).alloc (Nat.le_refl _) _).alloc (by simp) _
  have KL : Hid (Blk ((w2.alloc (.cells #[.int .u8 1, .int .i64 0, .string { data := #[] }, .string { data := #[] }, .string { data := #[] }, .int .i64 0, .int .u8 0, .int .u8 3, .int .i64 1, .string { data := #[97] }, .string { data := #[] }, .string { data := #[] }, .int .i64 0, .int .u8 0] 36)).alloc (.cells #[.slice (some ⟨w2.heap.size, 0, none⟩) 2 2] 92)) w2.heap.size (rv clE l30).toArray 36) := Lib.hid ((Blk.new w2 _ 36).alloc _)
  have KP : Hid (Blk ((w2.alloc (.cells #[.int .u8 1, .int .i64 0, .string { data := #[] }, .string { data := #[] }, .string { data := #[] }, .int .i64 0, .int .u8 0, .int .u8 3, .int .i64 1, .string { data := #[97] }, .string { data := #[] }, .string { data := #[] }, .int .i64 0, .int .u8 0] 36)).alloc (.cells #[.slice (some ⟨w2.heap.size, 0, none⟩) 2 2] 92)) (w2.heap.size + 1) #[.slice (some ⟨w2.heap.size, 0, none⟩) 2 2] 92) := Lib.hid (Blk.new2 _ _ 92 (by simp))
  replace KC := Lib.hid (KC.out.later hb)
  have HB2 := Lib.hid (stepB HB1.out hb)
  clear hb HB1
  go_upto_region 3 with (fail)
  clear hbt1 hbt2
  generalize (w2.alloc (.cells #[.int .u8 1, .int .i64 0, .string { data := #[] }, .string { data := #[] }, .string { data := #[] }, .int .i64 0, .int .u8 0, .int .u8 3, .int .i64 1, .string { data := #[97] }, .string { data := #[] }, .string { data := #[] }, .int .i64 0, .int .u8 0] 36)).alloc (.cells #[.slice (some ⟨w2.heap.size, 0, none⟩) 2 2] 92) = w3 at *
  obtain ⟨bl, hbl⟩ : ∃ z, w2.heap.size = z := ⟨_, rfl⟩
  rw [hbl] at KL KP ⊢
  clear hbl
  obtain ⟨bp, hbp⟩ : ∃ z, bl + 1 = z := ⟨_, rfl⟩
  rw [hbp] at KP ⊢
  clear hbp
  have z0 := KC.out.cell 0
  have z1 := KC.out.cell 1
  have z2 := KC.out.cell 2
  have z3 := KC.out.cell 3
  have z4 := KC.out.cell 4
  have z5 := KC.out.cell 5
  have z6 := KC.out.cell 6
  have z7 := KC.out.cell 7
  simp only [List.getElem?_toArray, List.getElem?_cons_zero, List.getElem?_cons_succ] at z0 z1 z2 z3 z4 z5 z6 z7
  go_wp2_with fail
  refine (rbound_any cf30 _).mono ?_
  rw [s30.1]
  rintro e w4 ⟨rfl, hb⟩
  have HB4 := Lib.hid (stepB HB2.out hb)
  have KC4 := Lib.hid (KC.out.later hb)
  have KL4 := Lib.hid (KL.out.later hb)
  have KP4 := Lib.hid (KP.out.later hb)
  clear z0 z1 z2 z3 z4 z5 z6 z7 hb HB2 KC KL KP
  go_wp2_with fail
  refine (run30 (some ⟨bp, 0, none⟩) 1 1 (lp1 l30 bl) l30 (some ⟨bl, 0, none⟩, 2) 2 (ps_one KP4.out KL4.out l30_ok) rfl (by decide) (by decide)).mono ?_
  rintro e w5 ⟨A, c, rfl, hro, hb⟩
  have HB5 := Lib.hid (stepB HB4.out hb)
  have KC5 := Lib.hid (KC4.out.later hb)
  have KL5 := Lib.hid (KL4.out.later hb)
  have KP5 := Lib.hid (KP4.out.later hb)
  have HRO := Lib.hid hro
  obtain ⟨_, _, e2, hc, _⟩ := hro.sl
  cases e2
  obtain ⟨g, off, rfl, _, _⟩ := (hro.rsl evE_len).2 (by decide)
  have HC := Lib.hid hc
  have sl := sl90 g off 6 c 5 (by decide) hc 5 rfl
  clear hb hro hc HB4 KC4 KL4 KP4
  go_upto_region 5 with (fail)
  refine wp_region_noPanic ?_
  obtain ⟨W0, rfl⟩ : ∃ W0 : World, W0 = w5 := ⟨_, rfl⟩
  refine wp_region_held_drew (S := fun W => Below W0.heap.size W0 W) (by kernel_rfl) (Below.drew (Below.refl _ _)) (fun hHeld => ?_)
  obtain ⟨Wd, hWd⟩ : ∃ z, World.drew W0 = z := ⟨_, rfl⟩
  rw [hWd] at hHeld ⊢
  clear hWd
  refine tkL 0 ?_ rfl rfl ?_ (fun _ _ _ h => h) (by assumption) (by kernel_rfl) ?_
  rotate_left
  · intro W hSw
    clear hSw
    go_simp
    try with_reducible rfl
  simp only [pu_]
  refine tkL 1 ?_ rfl rfl ?_ (fun _ _ _ h => h) (by assumption) (by kernel_rfl) ?_
  rotate_left
  · intro W hSw
    clear hSw
    go_simp
    try with_reducible rfl
  simp only [pu_]
  refine tkL 2 ?_ rfl rfl ?_ (fun _ _ _ h => h) (by assumption) (by kernel_rfl) ?_
  rotate_left
  · intro W hSw
    clear hSw
    go_simp
    try with_reducible rfl
  simp only [pu_]
  refine tkL 3 ?_ rfl rfl ?_ (fun _ _ _ h => h) (by assumption) (by kernel_rfl) ?_
  rotate_left
  · intro W hSw
    clear hSw
    go_simp
    try with_reducible rfl
  simp only [pu_]
  refine tkL 4 ?_ rfl rfl ?_ (fun _ _ _ h => h) (by assumption) (by kernel_rfl) ?_
  rotate_left
  · intro W hSw
    clear hSw
    go_simp
    try with_reducible rfl
  simp only [pu_]
  refine tkL 5 ?_ rfl rfl ?_ (fun _ _ _ h => h) (by assumption) (by kernel_rfl) ?_
  rotate_left
  · intro W hSw
    clear hSw
    go_simp
    try with_reducible rfl
  simp only [pu_]
  refine tkL 6 ?_ rfl rfl ?_ (fun _ _ _ h => h) (by assumption) (by kernel_rfl) ?_
  rotate_left
  · intro W hSw
    clear hSw
    go_simp
    try with_reducible rfl
  simp only [pu_]
  refine tkL 7 ?_ rfl rfl ?_ (fun _ _ _ h => h) (by assumption) (by kernel_rfl) ?_
  rotate_left
  · intro W hSw
    have hk := (KC5.out.later hSw).cell
    have z0 := hk 0
    have z1 := hk 1
    have z2 := hk 2
    have z3 := hk 3
    have z4 := hk 4
    have z5 := hk 5
    have z6 := hk 6
    have z7 := hk 7
    simp only [List.getElem?_toArray, List.getElem?_cons_zero, List.getElem?_cons_succ] at z0 z1 z2 z3 z4 z5 z6 z7
    clear hSw hk
    go_simp
    try with_reducible rfl
  simp only [pu_]
  refine wpAnyH_ready (rs := [8]) (by kernel_rfl) (by simp) (AllReadyH.cons (o := { dst := some 26, op := Op.call { callee := Callee.value (Operand.func 43), args := #[Operand.tmp 25, Operand.const (Value.int IntKind.u8 1)], argTypes := #[45, 5] }, type := 3, pos := "outright.go:38", after := #[{ on := 7, ground := Ground.data }, { on := 6, ground := Ground.chain }, { on := 6, ground := Ground.guard }], guard := some (6, true) }) rfl (fun K hK => ?_) AllReadyH.nil)
  have HCL2 := Lib.hid (rsteps_any cf30 1 (by decide) Wd)
  go_simp
  refine HCL2.out.mono ?_
  rw [s30.2.1]
  rintro e Wq1 ⟨rfl, hb⟩
  have hb2 := stepB hHeld hb
  clear hb hHeld HCL2
  refine hK.out _ _ (hb2) (fun hHeld => ?_)
  clear hK K
  clear hb2
  refine tkL 9 ?_ rfl rfl ?_ (fun _ _ _ h => h) (by assumption) (by kernel_rfl) ?_
  rotate_left
  · intro W hSw
    clear hSw
    go_simp
    try with_reducible rfl
  simp only [pu_]
  refine tkL 10 ?_ rfl rfl ?_ (fun _ _ _ h => h) (by assumption) (by kernel_rfl) ?_
  rotate_left
  · intro W hSw
    clear hSw
    go_simp
    try with_reducible rfl
  simp only [pu_]
  refine tkL 11 ?_ rfl rfl ?_ (fun _ _ _ h => h) (by assumption) (by kernel_rfl) ?_
  rotate_left
  · intro W hSw
    clear hSw
    go_simp
    try with_reducible rfl
  simp only [pu_]
  refine tkL 12 ?_ rfl rfl ?_ (fun _ _ _ h => h) (by assumption) (by kernel_rfl) ?_
  rotate_left
  · intro W hSw
    have hk := (KC5.out.later hSw).cell
    have z0 := hk 0
    have z1 := hk 1
    have z2 := hk 2
    have z3 := hk 3
    have z4 := hk 4
    have z5 := hk 5
    have z6 := hk 6
    have z7 := hk 7
    simp only [List.getElem?_toArray, List.getElem?_cons_zero, List.getElem?_cons_succ] at z0 z1 z2 z3 z4 z5 z6 z7
    clear hSw hk
    go_simp
    try with_reducible rfl
  simp only [pu_]
  refine wpAnyH_ready (rs := [13]) (by kernel_rfl) (by simp) (AllReadyH.cons (o := { dst := some 31, op := Op.call { callee := Callee.value (Operand.func 43), args := #[Operand.tmp 30, Operand.const (Value.int IntKind.u8 2)], argTypes := #[45, 5] }, type := 3, pos := "outright.go:38", after := #[{ on := 12, ground := Ground.data }, { on := 11, ground := Ground.chain }, { on := 11, ground := Ground.guard }], guard := some (11, true) }) rfl (fun K hK => ?_) AllReadyH.nil)
  have HCL2 := Lib.hid (rsteps_any cf30 2 (by decide) Wq1)
  go_simp
  refine HCL2.out.mono ?_
  rw [s30.2.2.1]
  rintro e Wq2 ⟨rfl, hb⟩
  have hb2 := stepB hHeld hb
  clear hb hHeld HCL2
  refine hK.out _ _ (hb2) (fun hHeld => ?_)
  clear hK K
  clear hb2
  refine tkL 14 ?_ rfl rfl ?_ (fun _ _ _ h => h) (by assumption) (by kernel_rfl) ?_
  rotate_left
  · intro W hSw
    clear hSw
    go_simp
    try with_reducible rfl
  simp only [pu_]
  refine tkL 15 ?_ rfl rfl ?_ (fun _ _ _ h => h) (by assumption) (by kernel_rfl) ?_
  rotate_left
  · intro W hSw
    clear hSw
    go_simp
    try with_reducible rfl
  simp only [pu_]
  refine tkL 16 ?_ rfl rfl ?_ (fun _ _ _ h => h) (by assumption) (by kernel_rfl) ?_
  rotate_left
  · intro W hSw
    clear hSw
    go_simp
    try with_reducible rfl
  simp only [pu_]
  refine tkL 17 ?_ rfl rfl ?_ (fun _ _ _ h => h) (by assumption) (by kernel_rfl) ?_
  rotate_left
  · intro W hSw
    have hk := (KC5.out.later hSw).cell
    have z0 := hk 0
    have z1 := hk 1
    have z2 := hk 2
    have z3 := hk 3
    have z4 := hk 4
    have z5 := hk 5
    have z6 := hk 6
    have z7 := hk 7
    simp only [List.getElem?_toArray, List.getElem?_cons_zero, List.getElem?_cons_succ] at z0 z1 z2 z3 z4 z5 z6 z7
    clear hSw hk
    go_simp
    try with_reducible rfl
  simp only [pu_]
  refine wpAnyH_ready (rs := [18]) (by kernel_rfl) (by simp) (AllReadyH.cons (o := { dst := some 36, op := Op.call { callee := Callee.value (Operand.func 43), args := #[Operand.tmp 35, Operand.const (Value.int IntKind.u8 6)], argTypes := #[45, 5] }, type := 3, pos := "outright.go:38", after := #[{ on := 17, ground := Ground.data }, { on := 16, ground := Ground.chain }, { on := 16, ground := Ground.guard }], guard := some (16, true) }) rfl (fun K hK => ?_) AllReadyH.nil)
  have HCL2 := Lib.hid (rsteps_any cf30 6 (by decide) Wq2)
  go_simp
  refine HCL2.out.mono ?_
  rw [s30.2.2.2.1]
  rintro e Wq3 ⟨rfl, hb⟩
  have hb2 := stepB hHeld hb
  clear hb hHeld HCL2
  refine hK.out _ _ (hb2) (fun hHeld => ?_)
  clear hK K
  clear hb2
  refine tkL 19 ?_ rfl rfl ?_ (fun _ _ _ h => h) (by assumption) (by kernel_rfl) ?_
  rotate_left
  · intro W hSw
    clear hSw
    go_simp
    try with_reducible rfl
  simp only [pu_]
  refine tkL 20 ?_ rfl rfl ?_ (fun _ _ _ h => h) (by assumption) (by kernel_rfl) ?_
  rotate_left
  · intro W hSw
    clear hSw
    go_simp
    try with_reducible rfl
  simp only [pu_]
  refine tkL 21 ?_ rfl rfl ?_ (fun _ _ _ h => h) (by assumption) (by kernel_rfl) ?_
  rotate_left
  · intro W hSw
    clear hSw
    go_simp
    try with_reducible rfl
  simp only [pu_]
  refine tkL 22 ?_ rfl rfl ?_ (fun _ _ _ h => h) (by assumption) (by kernel_rfl) ?_
  rotate_left
  · intro W hSw
    have hk := (KC5.out.later hSw).cell
    have z0 := hk 0
    have z1 := hk 1
    have z2 := hk 2
    have z3 := hk 3
    have z4 := hk 4
    have z5 := hk 5
    have z6 := hk 6
    have z7 := hk 7
    simp only [List.getElem?_toArray, List.getElem?_cons_zero, List.getElem?_cons_succ] at z0 z1 z2 z3 z4 z5 z6 z7
    clear hSw hk
    go_simp
    try with_reducible rfl
  simp only [pu_]
  refine wpAnyH_ready (rs := [23]) (by kernel_rfl) (by simp) (AllReadyH.cons (o := { dst := some 41, op := Op.call { callee := Callee.value (Operand.func 43), args := #[Operand.tmp 40, Operand.const (Value.int IntKind.u8 5)], argTypes := #[45, 5] }, type := 3, pos := "outright.go:38", after := #[{ on := 22, ground := Ground.data }, { on := 21, ground := Ground.chain }, { on := 21, ground := Ground.guard }], guard := some (21, true) }) rfl (fun K hK => ?_) AllReadyH.nil)
  have HCL2 := Lib.hid (rsteps_any cf30 5 (by decide) Wq3)
  go_simp
  refine HCL2.out.mono ?_
  rw [s30.2.2.2.2.1]
  rintro e Wq4 ⟨rfl, hb⟩
  have hb2 := stepB hHeld hb
  clear hb hHeld HCL2
  refine hK.out _ _ (hb2) (fun hHeld => ?_)
  clear hK K
  clear hb2
  refine tkL 24 ?_ rfl rfl ?_ (fun _ _ _ h => h) (by assumption) (by kernel_rfl) ?_
  rotate_left
  · intro W hSw
    clear hSw
    go_simp
    try with_reducible rfl
  simp only [pu_]
  refine tkL 25 ?_ rfl rfl ?_ (fun _ _ _ h => h) (by assumption) (by kernel_rfl) ?_
  rotate_left
  · intro W hSw
    clear hSw
    go_simp
    try with_reducible rfl
  simp only [pu_]
  refine tkL 26 ?_ rfl rfl ?_ (fun _ _ _ h => h) (by assumption) (by kernel_rfl) ?_
  rotate_left
  · intro W hSw
    clear hSw
    go_simp
    try with_reducible rfl
  simp only [pu_]
  refine tkL 27 ?_ rfl rfl ?_ (fun _ _ _ h => h) (by assumption) (by kernel_rfl) ?_
  rotate_left
  · intro W hSw
    have hk := (KC5.out.later hSw).cell
    have z0 := hk 0
    have z1 := hk 1
    have z2 := hk 2
    have z3 := hk 3
    have z4 := hk 4
    have z5 := hk 5
    have z6 := hk 6
    have z7 := hk 7
    simp only [List.getElem?_toArray, List.getElem?_cons_zero, List.getElem?_cons_succ] at z0 z1 z2 z3 z4 z5 z6 z7
    clear hSw hk
    go_simp
    try with_reducible rfl
  simp only [pu_]
  refine wpAnyH_ready (rs := [28]) (by kernel_rfl) (by simp) (AllReadyH.cons (o := { dst := some 46, op := Op.call { callee := Callee.value (Operand.func 44), args := #[Operand.tmp 45], argTypes := #[45] }, type := 3, pos := "outright.go:38", after := #[{ on := 27, ground := Ground.data }, { on := 26, ground := Ground.chain }, { on := 26, ground := Ground.guard }], guard := some (26, true) }) rfl (fun K hK => ?_) AllReadyH.nil)
  have HCL2 := Lib.hid (rrounds_any cf30 Wq4)
  go_simp
  refine HCL2.out.mono ?_
  rw [s30.2.2.2.2.2]
  rintro e Wq5 ⟨rfl, hb⟩
  have hb2 := stepB hHeld hb
  clear hb hHeld HCL2
  refine hK.out _ _ (hb2) (fun hHeld => ?_)
  clear hK K
  clear hb2
  refine tkL 29 ?_ rfl rfl ?_ (fun _ _ _ h => h) (by assumption) (by kernel_rfl) ?_
  rotate_left
  · intro W hSw
    clear hSw
    go_simp
    try with_reducible rfl
  simp only [pu_]
  refine tkL 30 ?_ rfl rfl ?_ (fun _ _ _ h => h) (by assumption) (by kernel_rfl) ?_
  rotate_left
  · intro W hSw
    clear hSw
    go_simp
    try with_reducible rfl
  simp only [pu_]
  refine tkL 31 ?_ rfl rfl ?_ (fun _ _ _ h => h) (by assumption) (by kernel_rfl) ?_
  rotate_left
  · intro W hSw
    clear hSw
    go_simp
    try with_reducible rfl
  simp only [pu_]
  refine tkL 32 ?_ rfl rfl ?_ (fun _ _ _ h => h) (by assumption) (by kernel_rfl) ?_
  rotate_left
  · intro W hSw
    have hk := (KC5.out.later hSw).cell
    have z0 := hk 0
    have z1 := hk 1
    have z2 := hk 2
    have z3 := hk 3
    have z4 := hk 4
    have z5 := hk 5
    have z6 := hk 6
    have z7 := hk 7
    simp only [List.getElem?_toArray, List.getElem?_cons_zero, List.getElem?_cons_succ] at z0 z1 z2 z3 z4 z5 z6 z7
    clear hSw hk
    go_simp
    try with_reducible rfl
  simp only [pu_]
  refine tkL 33 ?_ rfl rfl ?_ (fun _ _ _ h => h) (by assumption) (by kernel_rfl) ?_
  rotate_left
  · intro W hSw
    clear hSw
    go_simp
    try with_reducible rfl
  simp only [pu_]
  refine tkL 34 ?_ rfl rfl ?_ (fun _ _ _ h => h) (by assumption) (by kernel_rfl) ?_
  rotate_left
  · intro W hSw
    clear hSw
    go_simp
    try with_reducible rfl
  simp only [pu_]
  refine tkL 35 ?_ rfl rfl ?_ (fun _ _ _ h => h) (by assumption) (by kernel_rfl) ?_
  rotate_left
  · intro W hSw
    clear hSw
    go_simp
    try with_reducible rfl
  simp only [pu_]
  refine wpAnyH_ready (rs := [36]) (by kernel_rfl) (by simp) (AllReadyH.cons (o := { dst := some 54, op := Op.call { callee := Callee.value (Operand.func 46), args := #[Operand.tmp 50, Operand.tmp 51, Operand.tmp 53, Operand.const (Value.int IntKind.i64 3), Operand.const (Value.int IntKind.i64 2)], argTypes := #[45, 93, 90, 3, 3] }, type := 4, pos := "outright.go:38", after := #[{ on := 32, ground := Ground.data }, { on := 33, ground := Ground.data }, { on := 35, ground := Ground.data }, { on := 31, ground := Ground.chain }, { on := 31, ground := Ground.guard }], guard := some (31, true) }) rfl (fun K hK => ?_) AllReadyH.nil)
  have HCL2 := Lib.hid (is30 (W := Wq5) cf30 (some ⟨bp, 0, none⟩) 1 1 (lp1 l30 bl) (some ⟨g, off, none⟩) 5 c (((runE l30 2).take 5).map eh) 3 2 (ps_one (KP5.out.later hHeld) (KL5.out.later hHeld) l30_ok) (ev_run (HRO.out.later hHeld) (by decide)) (by decide) (by decide) (by rw [evV_eh]; exact n30a))
  go_simp
  refine HCL2.out.mono ?_
  rintro e Wq6 ⟨rfl, hb⟩
  have hb2 := stepB hHeld hb
  clear hb hHeld HCL2
  refine hK.out _ _ (hb2) (fun hHeld => ?_)
  clear hK K
  clear hb2
  refine tkL 37 ?_ rfl rfl ?_ (fun _ _ _ h => h) (by assumption) (by kernel_rfl) ?_
  rotate_left
  · intro W hSw
    clear hSw
    go_simp
    try with_reducible rfl
  simp only [pu_]
  refine tkL 38 ?_ rfl rfl ?_ (fun _ _ _ h => h) (by assumption) (by kernel_rfl) ?_
  rotate_left
  · intro W hSw
    clear hSw
    go_simp
    try with_reducible rfl
  simp only [pu_]
  refine tkL 39 ?_ rfl rfl ?_ (fun _ _ _ h => h) (by assumption) (by kernel_rfl) ?_
  rotate_left
  · intro W hSw
    have hk := (KC5.out.later hSw).cell
    have z0 := hk 0
    have z1 := hk 1
    have z2 := hk 2
    have z3 := hk 3
    have z4 := hk 4
    have z5 := hk 5
    have z6 := hk 6
    have z7 := hk 7
    simp only [List.getElem?_toArray, List.getElem?_cons_zero, List.getElem?_cons_succ] at z0 z1 z2 z3 z4 z5 z6 z7
    clear hSw hk
    go_simp
    try with_reducible rfl
  simp only [pu_]
  refine tkL 40 ?_ rfl rfl ?_ (fun _ _ _ h => h) (by assumption) (by kernel_rfl) ?_
  rotate_left
  · intro W hSw
    clear hSw
    go_simp
    try with_reducible rfl
  simp only [pu_]
  refine tkL 41 ?_ rfl rfl ?_ (fun _ _ _ h => h) (by assumption) (by kernel_rfl) ?_
  rotate_left
  · intro W hSw
    clear hSw
    go_simp
    try with_reducible rfl
  simp only [pu_]
  refine wpAnyH_ready (rs := [42]) (by kernel_rfl) (by simp) (AllReadyH.cons (o := { dst := some 60, op := Op.call { callee := Callee.value (Operand.func 46), args := #[Operand.tmp 57, Operand.tmp 58, Operand.tmp 59, Operand.const (Value.int IntKind.i64 1), Operand.const (Value.int IntKind.i64 1)], argTypes := #[45, 93, 90, 3, 3] }, type := 4, pos := "outright.go:38", after := #[{ on := 39, ground := Ground.data }, { on := 40, ground := Ground.data }, { on := 41, ground := Ground.data }, { on := 38, ground := Ground.chain }, { on := 38, ground := Ground.guard }], guard := some (38, true) }) rfl (fun K hK => ?_) AllReadyH.nil)
  have HCL2 := Lib.hid (is30 (W := Wq6) cf30 (some ⟨bp, 0, none⟩) 1 1 (lp1 l30 bl) (some ⟨g, off, none⟩) 6 c (((runE l30 2).take 6).map eh) 1 1 (ps_one (KP5.out.later hHeld) (KL5.out.later hHeld) l30_ok) (ev_run (HRO.out.later hHeld) (by decide)) (by decide) (by decide) (by rw [evV_eh]; exact n30b))
  go_simp
  refine HCL2.out.mono ?_
  rintro e Wq7 ⟨rfl, hb⟩
  have hb2 := stepB hHeld hb
  clear hb hHeld HCL2
  refine hK.out _ _ (hb2) (fun hHeld => ?_)
  clear hK K
  clear hb2
  refine tkL 43 ?_ rfl rfl ?_ (fun _ _ _ h => h) (by assumption) (by kernel_rfl) ?_
  rotate_left
  · intro W hSw
    clear hSw
    go_simp
    try with_reducible rfl
  simp only [pu_]
  refine tkL 44 ?_ rfl rfl ?_ (fun _ _ _ h => h) (by assumption) (by kernel_rfl) ?_
  rotate_left
  · intro W hSw
    clear hSw
    go_simp
    try with_reducible rfl
  simp only [pu_]
  refine wpAnyH_done (by kernel_rfl) (NoPanic.normal ?_) _
  have HB6 := Lib.hid (stepB HB5.out hHeld)
  clear hHeld
  go_wp2
  go_ret
  exact ⟨rfl, HB6.out⟩
end Go.Proofs.Ytoinjnocopejjaa
