/- The walk of RoomLarger. -/
import Derived.Test.YtoinjnocopejjaaPW
import Derived.Test.YtoinjnocopejjaaCH
import Derived.StillTailTactics
import Derived.Deep.QuietTactic
import Derived.BigQuiet
import Derived.BigRegion
namespace Go.Proofs.Ytoinjnocopejjaa.roomLarger
open Go.ChangeShapes Go.WideShapes Go.ChangeAt Go.RowKit Go.Maps
set_option linter.unusedVariables false
set_option linter.unusedSimpArgs false
def lR3 (i j k l : Nat) : Array Bool := #[true, true, true, decide (0 < i), decide (0 < i), true, true, true, decide (0 < j), decide (0 < j), true, true, true, decide (0 < k), decide (0 < k), true, true, true, decide (0 < l), decide (0 < l), false, false, false, false, false, false, false, false]
def lR4 (i j k l : Nat) : Array Bool := #[true, true, true, decide (0 < i), decide (0 < i), true, true, true, decide (0 < j), decide (0 < j), true, true, true, decide (0 < k), decide (0 < k), true, true, false, false, false, false, false, false, false, false]
set_option maxRecDepth 100000 in
set_option maxHeartbeats 16000000 in
theorem walkN (c d : Conf) (k : Nat) (hk : k ≤ 255) (w : World) : Calls Try.prog 14 #[c.val, d.val, .int .u8 (k : Int)] w fun e w' => e = .returned (.bool true) ∧ Below w.heap.size w w' := by
  have HK := Lib.hid hk
  have HB : Hid (Below w.heap.size w ((w.alloc (.cells #[.int .i64 c.ta, .int .i64 c.ac, .int .i64 c.ke, .int .i64 c.de, .int .i64 c.ts, .int .i64 c.kl, .int .i64 c.vl, .int .i64 c.fa] 45)).alloc (.cells #[.int .i64 d.ta, .int .i64 d.ac, .int .i64 d.ke, .int .i64 d.de, .int .i64 d.ts, .int .i64 d.kl, .int .i64 d.vl, .int .i64 d.fa] 45))) := Lib.hid (((Below.refl _ _).alloc (Nat.le_refl _) _).alloc (by simp) _)
  have KC : Hid (Blk ((w.alloc (.cells #[.int .i64 c.ta, .int .i64 c.ac, .int .i64 c.ke, .int .i64 c.de, .int .i64 c.ts, .int .i64 c.kl, .int .i64 c.vl, .int .i64 c.fa] 45)).alloc (.cells #[.int .i64 d.ta, .int .i64 d.ac, .int .i64 d.ke, .int .i64 d.de, .int .i64 d.ts, .int .i64 d.kl, .int .i64 d.vl, .int .i64 d.fa] 45)) w.heap.size #[.int .i64 c.ta, .int .i64 c.ac, .int .i64 c.ke, .int .i64 c.de, .int .i64 c.ts, .int .i64 c.kl, .int .i64 c.vl, .int .i64 c.fa] 45) := Lib.hid ((Blk.new w _ 45).alloc _)
  have KD : Hid (Blk ((w.alloc (.cells #[.int .i64 c.ta, .int .i64 c.ac, .int .i64 c.ke, .int .i64 c.de, .int .i64 c.ts, .int .i64 c.kl, .int .i64 c.vl, .int .i64 c.fa] 45)).alloc (.cells #[.int .i64 d.ta, .int .i64 d.ac, .int .i64 d.ke, .int .i64 d.de, .int .i64 d.ts, .int .i64 d.kl, .int .i64 d.vl, .int .i64 d.fa] 45)) (w.heap.size + 1) #[.int .i64 d.ta, .int .i64 d.ac, .int .i64 d.ke, .int .i64 d.de, .int .i64 d.ts, .int .i64 d.kl, .int .i64 d.vl, .int .i64 d.fa] 45) := Lib.hid (Blk.new2 _ _ 45 (by simp))
  clear hk
  show Calls Try.prog 14 _ w _
  unfold Conf.val
  go_enter Try.func14, Try.ntmps14
  go_upto_region 1 with (fail)
  generalize ((w.alloc (.cells #[.int .i64 c.ta, .int .i64 c.ac, .int .i64 c.ke, .int .i64 c.de, .int .i64 c.ts, .int .i64 c.kl, .int .i64 c.vl, .int .i64 c.fa] 45)).alloc (.cells #[.int .i64 d.ta, .int .i64 d.ac, .int .i64 d.ke, .int .i64 d.de, .int .i64 d.ts, .int .i64 d.kl, .int .i64 d.vl, .int .i64 d.fa] 45)) = w1 at *
  obtain ⟨bx, hbx⟩ : ∃ bx, w.heap.size = bx := ⟨_, rfl⟩
  have HBX : Hid (w.heap.size ≤ bx) := Lib.hid (by omega)
  rw [hbx] at KC KD ⊢
  clear hbx
  obtain ⟨by_, hby⟩ : ∃ by_, bx + 1 = by_ := ⟨_, rfl⟩
  have HBY : Hid (w.heap.size ≤ by_ ∧ bx ≠ by_) := Lib.hid (by have := HBX.out; omega)
  rw [hby] at KD ⊢
  clear hby
  go_wp2_with fail
  refine (works30 _).mono ?_
  rintro e w2 ⟨rfl, hb⟩
  replace HB := Lib.hid (stepB HB.out hb)
  replace KC := Lib.hid (KC.out.later hb)
  replace KD := Lib.hid (KD.out.later hb)
  clear hb
  have z0 := KC.out.cell 0
  have z1 := KC.out.cell 1
  have z2 := KC.out.cell 2
  have z3 := KC.out.cell 3
  have z4 := KC.out.cell 4
  have z5 := KC.out.cell 5
  have z6 := KC.out.cell 6
  have z7 := KC.out.cell 7
  simp only [List.getElem?_toArray, List.getElem?_cons_zero, List.getElem?_cons_succ] at z0 z1 z2 z3 z4 z5 z6 z7
  go_wp2_with fail
  refine (tx_may_any c _).mono ?_
  rintro e w3 ⟨rfl, hb⟩
  replace HB := Lib.hid (stepB HB.out hb)
  replace KC := Lib.hid (KC.out.later hb)
  replace KD := Lib.hid (KD.out.later hb)
  clear hb
  clear z0 z1 z2 z3 z4 z5 z6 z7
  obtain ⟨m1, hm1⟩ : ∃ b, mayB c = b := ⟨_, rfl⟩
  rw [hm1]
  have HM1 := Lib.hid hm1
  clear hm1
  cases m1 with
  | false =>
    go_wp2_with fail
    refine (works30 _).mono ?_
    rintro e w4 ⟨rfl, hb⟩
    replace HB := Lib.hid (stepB HB.out hb)
    replace KC := Lib.hid (KC.out.later hb)
    replace KD := Lib.hid (KD.out.later hb)
    clear hb
    go_wp2
    go_ret
    exact ⟨rfl, HB.out⟩
  | true =>
  have z0 := KD.out.cell 0
  have z1 := KD.out.cell 1
  have z2 := KD.out.cell 2
  have z3 := KD.out.cell 3
  have z4 := KD.out.cell 4
  have z5 := KD.out.cell 5
  have z6 := KD.out.cell 6
  have z7 := KD.out.cell 7
  simp only [List.getElem?_toArray, List.getElem?_cons_zero, List.getElem?_cons_succ] at z0 z1 z2 z3 z4 z5 z6 z7
  go_wp2_with fail
  refine (tx_may_any d _).mono ?_
  rintro e w4 ⟨rfl, hb⟩
  replace HB := Lib.hid (stepB HB.out hb)
  replace KC := Lib.hid (KC.out.later hb)
  replace KD := Lib.hid (KD.out.later hb)
  clear hb
  clear z0 z1 z2 z3 z4 z5 z6 z7
  obtain ⟨m2, hm2⟩ : ∃ b, mayB d = b := ⟨_, rfl⟩
  rw [hm2]
  have HM2 := Lib.hid hm2
  clear hm2
  cases m2 with
  | false =>
    go_wp2_with fail
    refine (works30 _).mono ?_
    rintro e w5 ⟨rfl, hb⟩
    replace HB := Lib.hid (stepB HB.out hb)
    replace KC := Lib.hid (KC.out.later hb)
    replace KD := Lib.hid (KD.out.later hb)
    clear hb
    go_wp2
    go_ret
    exact ⟨rfl, HB.out⟩
  | true =>
  go_upto_region 3 with (fail)
  refine wp_region_noPanic ?_
  have hbd : Below w4.heap.size w4 (World.drew w4) := Below.drew (Below.refl _ _)
  refine wp_region_held_drew (S := fun W => Below w.heap.size w W ∧ Blk W bx #[.int .i64 c.ta, .int .i64 c.ac, .int .i64 c.ke, .int .i64 c.de, .int .i64 c.ts, .int .i64 c.kl, .int .i64 c.vl, .int .i64 c.fa] 45) (by kernel_rfl) (⟨stepB HB.out hbd, KC.out.later hbd⟩) (fun hHeld => ?_)
  replace KD := Lib.hid (KD.out.later hbd)
  clear hbd HB KC
  obtain ⟨Wd3, hWd⟩ : ∃ z, World.drew w4 = z := ⟨_, rfl⟩
  rw [hWd] at hHeld KD ⊢
  clear hWd
  refine tkL 0 ?_ rfl rfl ?_ (fun _ _ _ h => h) (by assumption) (by kernel_rfl) ?_
  rotate_left
  · intro W hSw
    clear hSw
    go_simp
    try with_reducible rfl
  simp only [pu_]
  refine tkL 1 ?_ rfl rfl ?_ (fun _ _ _ h => h) (by assumption) (by kernel_rfl) ?_
  rotate_left
  · intro W hSw
    have hk_ := hSw.2.cell
    have z0 := hk_ 0
    have z1 := hk_ 1
    have z2 := hk_ 2
    have z3 := hk_ 3
    have z4 := hk_ 4
    have z5 := hk_ 5
    have z6 := hk_ 6
    have z7 := hk_ 7
    simp only [List.getElem?_toArray, List.getElem?_cons_zero, List.getElem?_cons_succ] at z0 z1 z2 z3 z4 z5 z6 z7
    clear hSw hk_
    go_simp
    try with_reducible rfl
  simp only [pu_]
  refine tkL 2 ?_ rfl rfl ?_ (fun _ _ _ h => h) (by assumption) (by kernel_rfl) ?_
  rotate_left
  · intro W hSw
    clear hSw
    go_simp
    try with_reducible rfl
  simp only [pu_]
  refine tkL 5 ?_ rfl rfl ?_ (fun _ _ _ h => h) (by assumption) (by kernel_rfl) ?_
  rotate_left
  · intro W hSw
    clear hSw
    go_simp
    try with_reducible rfl
  simp only [pu_]
  refine tkL 6 ?_ rfl rfl ?_ (fun _ _ _ h => h) (by assumption) (by kernel_rfl) ?_
  rotate_left
  · intro W hSw
    have hk_ := hSw.2.cell
    have z0 := hk_ 0
    have z1 := hk_ 1
    have z2 := hk_ 2
    have z3 := hk_ 3
    have z4 := hk_ 4
    have z5 := hk_ 5
    have z6 := hk_ 6
    have z7 := hk_ 7
    simp only [List.getElem?_toArray, List.getElem?_cons_zero, List.getElem?_cons_succ] at z0 z1 z2 z3 z4 z5 z6 z7
    clear hSw hk_
    go_simp
    try with_reducible rfl
  simp only [pu_]
  refine tkL 7 ?_ rfl rfl ?_ (fun _ _ _ h => h) (by assumption) (by kernel_rfl) ?_
  rotate_left
  · intro W hSw
    clear hSw
    go_simp
    try with_reducible rfl
  simp only [pu_]
  refine tkL 10 ?_ rfl rfl ?_ (fun _ _ _ h => h) (by assumption) (by kernel_rfl) ?_
  rotate_left
  · intro W hSw
    clear hSw
    go_simp
    try with_reducible rfl
  simp only [pu_]
  refine tkL 11 ?_ rfl rfl ?_ (fun _ _ _ h => h) (by assumption) (by kernel_rfl) ?_
  rotate_left
  · intro W hSw
    have hk_ := hSw.2.cell
    have z0 := hk_ 0
    have z1 := hk_ 1
    have z2 := hk_ 2
    have z3 := hk_ 3
    have z4 := hk_ 4
    have z5 := hk_ 5
    have z6 := hk_ 6
    have z7 := hk_ 7
    simp only [List.getElem?_toArray, List.getElem?_cons_zero, List.getElem?_cons_succ] at z0 z1 z2 z3 z4 z5 z6 z7
    clear hSw hk_
    go_simp
    try with_reducible rfl
  simp only [pu_]
  refine tkL 12 ?_ rfl rfl ?_ (fun _ _ _ h => h) (by assumption) (by kernel_rfl) ?_
  rotate_left
  · intro W hSw
    clear hSw
    go_simp
    try with_reducible rfl
  simp only [pu_]
  refine tkL 15 ?_ rfl rfl ?_ (fun _ _ _ h => h) (by assumption) (by kernel_rfl) ?_
  rotate_left
  · intro W hSw
    clear hSw
    go_simp
    try with_reducible rfl
  simp only [pu_]
  refine tkL 16 ?_ rfl rfl ?_ (fun _ _ _ h => h) (by assumption) (by kernel_rfl) ?_
  rotate_left
  · intro W hSw
    have hk_ := hSw.2.cell
    have z0 := hk_ 0
    have z1 := hk_ 1
    have z2 := hk_ 2
    have z3 := hk_ 3
    have z4 := hk_ 4
    have z5 := hk_ 5
    have z6 := hk_ 6
    have z7 := hk_ 7
    simp only [List.getElem?_toArray, List.getElem?_cons_zero, List.getElem?_cons_succ] at z0 z1 z2 z3 z4 z5 z6 z7
    clear hSw hk_
    go_simp
    try with_reducible rfl
  simp only [pu_]
  refine tkL 17 ?_ rfl rfl ?_ (fun _ _ _ h => h) (by assumption) (by kernel_rfl) ?_
  rotate_left
  · intro W hSw
    clear hSw
    go_simp
    try with_reducible rfl
  simp only [pu_]
  refine wpAnyH_cast (f := 8 + 8) (l := lR3 0 0 0 0) (by kernel_rfl) (by kernel_rfl) ?_
  have hS0 := hHeld
  refine loads4m (i1 := 3) (t1 := 27) (m1 := 4) (s1 := 28) (v1 := (.int .i64 d.ta)) (u1 := (.int .i64 (max c.ta d.ta))) (o1 := { dst := some 27, op := Op.load 3 (Operand.tmp 26), type := 3, pos := "outright.go:135", after := #[{ on := 2, ground := Ground.data }], guard := none }) (q1 := { dst := some 28, op := Op.call { callee := Callee.builtin Builtin.max, args := #[Operand.tmp 25, Operand.tmp 27], argTypes := #[3, 3] }, type := 3, pos := "outright.go:135", after := #[{ on := 1, ground := Ground.data }, { on := 3, ground := Ground.data }], guard := none }) (i2 := 8) (t2 := 32) (m2 := 9) (s2 := 33) (v2 := (.int .i64 d.ac)) (u2 := (.int .i64 (max c.ac d.ac))) (o2 := { dst := some 32, op := Op.load 3 (Operand.tmp 31), type := 3, pos := "outright.go:135", after := #[{ on := 7, ground := Ground.data }], guard := none }) (q2 := { dst := some 33, op := Op.call { callee := Callee.builtin Builtin.max, args := #[Operand.tmp 30, Operand.tmp 32], argTypes := #[3, 3] }, type := 3, pos := "outright.go:135", after := #[{ on := 6, ground := Ground.data }, { on := 8, ground := Ground.data }], guard := none }) (i3 := 13) (t3 := 37) (m3 := 14) (s3 := 38) (v3 := (.int .i64 d.ke)) (u3 := (.int .i64 (max c.ke d.ke))) (o3 := { dst := some 37, op := Op.load 3 (Operand.tmp 36), type := 3, pos := "outright.go:135", after := #[{ on := 12, ground := Ground.data }], guard := none }) (q3 := { dst := some 38, op := Op.call { callee := Callee.builtin Builtin.max, args := #[Operand.tmp 35, Operand.tmp 37], argTypes := #[3, 3] }, type := 3, pos := "outright.go:135", after := #[{ on := 11, ground := Ground.data }, { on := 13, ground := Ground.data }], guard := none }) (i4 := 18) (t4 := 42) (m4 := 19) (s4 := 43) (v4 := (.int .i64 d.de)) (u4 := (.int .i64 (max c.de d.de))) (o4 := { dst := some 42, op := Op.load 3 (Operand.tmp 41), type := 3, pos := "outright.go:135", after := #[{ on := 17, ground := Ground.data }], guard := none }) (q4 := { dst := some 43, op := Op.call { callee := Callee.builtin Builtin.max, args := #[Operand.tmp 40, Operand.tmp 42], argTypes := #[3, 3] }, type := 3, pos := "outright.go:135", after := #[{ on := 16, ground := Ground.data }, { on := 18, ground := Ground.data }], guard := none }) lR3 ?_ ?_ ?_ ?_ ?_ ?_ ?_ ?_ (by decide) (by kernel_rfl) ?_ ?_ ?_ ?_ ?_ ?_ ?_ ?_ ?_ ?_ ?_ ?_ (fun _ _ _ _ h => h) hS0 ?_
  · exact ⟨rfl, rfl, rfl, (fun cs b h => by cases h), by decide +kernel⟩
  · exact ⟨rfl, rfl, rfl, (fun cs b h => by cases h), by decide +kernel⟩
  · exact ⟨rfl, rfl, rfl, (fun cs b h => by cases h), by decide +kernel⟩
  · exact ⟨rfl, rfl, rfl, (fun cs b h => by cases h), by decide +kernel⟩
  · exact ⟨rfl, rfl, rfl, (fun cs b h => by cases h), by decide +kernel⟩
  · exact ⟨rfl, rfl, rfl, (fun cs b h => by cases h), by decide +kernel⟩
  · exact ⟨rfl, rfl, rfl, (fun cs b h => by cases h), by decide +kernel⟩
  · exact ⟨rfl, rfl, rfl, (fun cs b h => by cases h), by decide +kernel⟩
  · intro a1 a2 a3 h1 h2 h3
    rcases (by omega : a1 = 0 ∨ a1 = 1) with rfl | rfl <;> rcases (by omega : a2 = 0 ∨ a2 = 1) with rfl | rfl <;> rcases (by omega : a3 = 0 ∨ a3 = 1) with rfl | rfl <;> exact ⟨by unfold Tk; kernel_rfl, rfl⟩
  · intro a1 a2 a3 h1 h2 h3
    rcases (by omega : a1 = 0 ∨ a1 = 1) with rfl | rfl <;> rcases (by omega : a2 = 0 ∨ a2 = 1) with rfl | rfl <;> rcases (by omega : a3 = 0 ∨ a3 = 1) with rfl | rfl <;> exact ⟨by unfold Tk; kernel_rfl, rfl⟩
  · intro a1 a2 a3 h1 h2 h3
    rcases (by omega : a1 = 0 ∨ a1 = 1) with rfl | rfl <;> rcases (by omega : a2 = 0 ∨ a2 = 1) with rfl | rfl <;> rcases (by omega : a3 = 0 ∨ a3 = 1) with rfl | rfl <;> exact ⟨by unfold Tk; kernel_rfl, rfl⟩
  · intro a1 a2 a3 h1 h2 h3
    rcases (by omega : a1 = 0 ∨ a1 = 1) with rfl | rfl <;> rcases (by omega : a2 = 0 ∨ a2 = 1) with rfl | rfl <;> rcases (by omega : a3 = 0 ∨ a3 = 1) with rfl | rfl <;> exact ⟨by unfold Tk; kernel_rfl, rfl⟩
  · have hk_ := KD.out.cell
    have z0 := hk_ 0
    have z1 := hk_ 1
    have z2 := hk_ 2
    have z3 := hk_ 3
    have z4 := hk_ 4
    have z5 := hk_ 5
    have z6 := hk_ 6
    have z7 := hk_ 7
    simp only [List.getElem?_toArray, List.getElem?_cons_zero, List.getElem?_cons_succ] at z0 z1 z2 z3 z4 z5 z6 z7
    go_simp
    try with_reducible rfl
  · intro W hSw
    have hk_ := hSw.2.cell
    have z0 := hk_ 0
    have z1 := hk_ 1
    have z2 := hk_ 2
    have z3 := hk_ 3
    have z4 := hk_ 4
    have z5 := hk_ 5
    have z6 := hk_ 6
    have z7 := hk_ 7
    simp only [List.getElem?_toArray, List.getElem?_cons_zero, List.getElem?_cons_succ] at z0 z1 z2 z3 z4 z5 z6 z7
    clear hSw hk_
    simp only [pu_]
    go_simp
    try with_reducible rfl
  · have hk_ := KD.out.cell
    have z0 := hk_ 0
    have z1 := hk_ 1
    have z2 := hk_ 2
    have z3 := hk_ 3
    have z4 := hk_ 4
    have z5 := hk_ 5
    have z6 := hk_ 6
    have z7 := hk_ 7
    simp only [List.getElem?_toArray, List.getElem?_cons_zero, List.getElem?_cons_succ] at z0 z1 z2 z3 z4 z5 z6 z7
    go_simp
    try with_reducible rfl
  · intro W hSw
    have hk_ := hSw.2.cell
    have z0 := hk_ 0
    have z1 := hk_ 1
    have z2 := hk_ 2
    have z3 := hk_ 3
    have z4 := hk_ 4
    have z5 := hk_ 5
    have z6 := hk_ 6
    have z7 := hk_ 7
    simp only [List.getElem?_toArray, List.getElem?_cons_zero, List.getElem?_cons_succ] at z0 z1 z2 z3 z4 z5 z6 z7
    clear hSw hk_
    simp only [pu_]
    go_simp
    try with_reducible rfl
  · have hk_ := KD.out.cell
    have z0 := hk_ 0
    have z1 := hk_ 1
    have z2 := hk_ 2
    have z3 := hk_ 3
    have z4 := hk_ 4
    have z5 := hk_ 5
    have z6 := hk_ 6
    have z7 := hk_ 7
    simp only [List.getElem?_toArray, List.getElem?_cons_zero, List.getElem?_cons_succ] at z0 z1 z2 z3 z4 z5 z6 z7
    go_simp
    try with_reducible rfl
  · intro W hSw
    have hk_ := hSw.2.cell
    have z0 := hk_ 0
    have z1 := hk_ 1
    have z2 := hk_ 2
    have z3 := hk_ 3
    have z4 := hk_ 4
    have z5 := hk_ 5
    have z6 := hk_ 6
    have z7 := hk_ 7
    simp only [List.getElem?_toArray, List.getElem?_cons_zero, List.getElem?_cons_succ] at z0 z1 z2 z3 z4 z5 z6 z7
    clear hSw hk_
    simp only [pu_]
    go_simp
    try with_reducible rfl
  · have hk_ := KD.out.cell
    have z0 := hk_ 0
    have z1 := hk_ 1
    have z2 := hk_ 2
    have z3 := hk_ 3
    have z4 := hk_ 4
    have z5 := hk_ 5
    have z6 := hk_ 6
    have z7 := hk_ 7
    simp only [List.getElem?_toArray, List.getElem?_cons_zero, List.getElem?_cons_succ] at z0 z1 z2 z3 z4 z5 z6 z7
    go_simp
    try with_reducible rfl
  · intro W hSw
    have hk_ := hSw.2.cell
    have z0 := hk_ 0
    have z1 := hk_ 1
    have z2 := hk_ 2
    have z3 := hk_ 3
    have z4 := hk_ 4
    have z5 := hk_ 5
    have z6 := hk_ 6
    have z7 := hk_ 7
    simp only [List.getElem?_toArray, List.getElem?_cons_zero, List.getElem?_cons_succ] at z0 z1 z2 z3 z4 z5 z6 z7
    clear hSw hk_
    simp only [pu_]
    go_simp
    try with_reducible rfl
  simp only [putIf_1, pu_]
  clear hS0
  refine tkL 20 ?_ rfl rfl ?_ (fun _ _ _ h => h) (by assumption) (by kernel_rfl) ?_
  rotate_left
  · intro W hSw
    clear hSw
    go_simp
    try with_reducible rfl
  simp only [pu_]
  refine wpAnyH_ready (rs := [21]) (by kernel_rfl) (by simp) (AllReadyH.cons (o := { dst := none, op := Op.store 3 (Operand.tmp 44) (Operand.tmp 28), type := 0, pos := "outright.go:135", after := #[{ on := 20, ground := Ground.data }, { on := 4, ground := Ground.data }, { on := 0, ground := Ground.phase }, { on := 1, ground := Ground.phase }, { on := 2, ground := Ground.phase }, { on := 3, ground := Ground.phase }, { on := 4, ground := Ground.phase }, { on := 5, ground := Ground.textOnly Departure.lateStores }, { on := 6, ground := Ground.textOnly Departure.lateStores }, { on := 7, ground := Ground.phase }, { on := 8, ground := Ground.phase }, { on := 9, ground := Ground.textOnly Departure.lateStoresUnsure }, { on := 10, ground := Ground.textOnly Departure.lateStores }, { on := 11, ground := Ground.textOnly Departure.lateStores }, { on := 12, ground := Ground.phase }, { on := 13, ground := Ground.phase }, { on := 14, ground := Ground.textOnly Departure.lateStoresUnsure }, { on := 15, ground := Ground.textOnly Departure.lateStores }, { on := 16, ground := Ground.textOnly Departure.lateStores }, { on := 17, ground := Ground.phase }, { on := 18, ground := Ground.phase }, { on := 19, ground := Ground.textOnly Departure.lateStoresUnsure }], guard := none }) rfl (fun K hK => ?_) AllReadyH.nil)
  have zz := KD.out.cell 0
  have ff := KD.out.frozen 0
  simp only [List.getElem?_toArray, List.getElem?_cons_zero, List.getElem?_cons_succ] at zz
  go_simp
  have hS2 : Below w.heap.size w (Wd3.setCell ⟨by_, 0, none⟩ (.int .i64 (max c.ta d.ta))) ∧ Blk (Wd3.setCell ⟨by_, 0, none⟩ (.int .i64 (max c.ta d.ta))) bx #[.int .i64 c.ta, .int .i64 c.ac, .int .i64 c.ke, .int .i64 c.de, .int .i64 c.ts, .int .i64 c.kl, .int .i64 c.vl, .int .i64 c.fa] 45 := ⟨hHeld.1.setCell (p := ⟨by_, 0, none⟩) HBY.out.1 _, hHeld.2.other HBY.out.2 _⟩
  have KD2 : Hid (Blk (Wd3.setCell ⟨by_, 0, none⟩ (.int .i64 (max c.ta d.ta))) by_ #[.int .i64 (max c.ta d.ta), .int .i64 d.ac, .int .i64 d.ke, .int .i64 d.de, .int .i64 d.ts, .int .i64 d.kl, .int .i64 d.vl, .int .i64 d.fa] 45) := Lib.hid (KD.out.set (j := 0) _)
  clear zz ff KD hHeld
  refine hK.out _ _ hS2 (fun hHeld => ?_)
  clear hK K hS2
  generalize Wd3.setCell ⟨by_, 0, none⟩ (.int .i64 (max c.ta d.ta)) = W3s0 at *
  have KD := KD2
  clear KD2
  refine tkL 22 ?_ rfl rfl ?_ (fun _ _ _ h => h) (by assumption) (by kernel_rfl) ?_
  rotate_left
  · intro W hSw
    clear hSw
    go_simp
    try with_reducible rfl
  simp only [pu_]
  refine wpAnyH_ready (rs := [23]) (by kernel_rfl) (by simp) (AllReadyH.cons (o := { dst := none, op := Op.store 3 (Operand.tmp 45) (Operand.tmp 33), type := 0, pos := "outright.go:135", after := #[{ on := 22, ground := Ground.data }, { on := 9, ground := Ground.data }, { on := 21, ground := Ground.chain }, { on := 0, ground := Ground.phase }, { on := 1, ground := Ground.phase }, { on := 2, ground := Ground.phase }, { on := 3, ground := Ground.phase }, { on := 4, ground := Ground.phase }, { on := 5, ground := Ground.phase }, { on := 6, ground := Ground.phase }, { on := 7, ground := Ground.phase }, { on := 8, ground := Ground.phase }, { on := 9, ground := Ground.phase }, { on := 10, ground := Ground.textOnly Departure.lateStores }, { on := 11, ground := Ground.textOnly Departure.lateStores }, { on := 12, ground := Ground.phase }, { on := 13, ground := Ground.phase }, { on := 14, ground := Ground.textOnly Departure.lateStoresUnsure }, { on := 15, ground := Ground.textOnly Departure.lateStores }, { on := 16, ground := Ground.textOnly Departure.lateStores }, { on := 17, ground := Ground.phase }, { on := 18, ground := Ground.phase }, { on := 19, ground := Ground.textOnly Departure.lateStoresUnsure }, { on := 20, ground := Ground.phase }, { on := 21, ground := Ground.phase }], guard := none }) rfl (fun K hK => ?_) AllReadyH.nil)
  have zz := KD.out.cell 1
  have ff := KD.out.frozen 1
  simp only [List.getElem?_toArray, List.getElem?_cons_zero, List.getElem?_cons_succ] at zz
  go_simp
  have hS2 : Below w.heap.size w (W3s0.setCell ⟨by_, 1, none⟩ (.int .i64 (max c.ac d.ac))) ∧ Blk (W3s0.setCell ⟨by_, 1, none⟩ (.int .i64 (max c.ac d.ac))) bx #[.int .i64 c.ta, .int .i64 c.ac, .int .i64 c.ke, .int .i64 c.de, .int .i64 c.ts, .int .i64 c.kl, .int .i64 c.vl, .int .i64 c.fa] 45 := ⟨hHeld.1.setCell (p := ⟨by_, 1, none⟩) HBY.out.1 _, hHeld.2.other HBY.out.2 _⟩
  have KD2 : Hid (Blk (W3s0.setCell ⟨by_, 1, none⟩ (.int .i64 (max c.ac d.ac))) by_ #[.int .i64 (max c.ta d.ta), .int .i64 (max c.ac d.ac), .int .i64 d.ke, .int .i64 d.de, .int .i64 d.ts, .int .i64 d.kl, .int .i64 d.vl, .int .i64 d.fa] 45) := Lib.hid (KD.out.set (j := 1) _)
  clear zz ff KD hHeld
  refine hK.out _ _ hS2 (fun hHeld => ?_)
  clear hK K hS2
  generalize W3s0.setCell ⟨by_, 1, none⟩ (.int .i64 (max c.ac d.ac)) = W3s1 at *
  have KD := KD2
  clear KD2
  refine tkL 24 ?_ rfl rfl ?_ (fun _ _ _ h => h) (by assumption) (by kernel_rfl) ?_
  rotate_left
  · intro W hSw
    clear hSw
    go_simp
    try with_reducible rfl
  simp only [pu_]
  refine wpAnyH_ready (rs := [25]) (by kernel_rfl) (by simp) (AllReadyH.cons (o := { dst := none, op := Op.store 3 (Operand.tmp 46) (Operand.tmp 38), type := 0, pos := "outright.go:135", after := #[{ on := 24, ground := Ground.data }, { on := 14, ground := Ground.data }, { on := 23, ground := Ground.chain }, { on := 0, ground := Ground.phase }, { on := 1, ground := Ground.phase }, { on := 2, ground := Ground.phase }, { on := 3, ground := Ground.phase }, { on := 4, ground := Ground.phase }, { on := 5, ground := Ground.phase }, { on := 6, ground := Ground.phase }, { on := 7, ground := Ground.phase }, { on := 8, ground := Ground.phase }, { on := 9, ground := Ground.phase }, { on := 10, ground := Ground.phase }, { on := 11, ground := Ground.phase }, { on := 12, ground := Ground.phase }, { on := 13, ground := Ground.phase }, { on := 14, ground := Ground.phase }, { on := 15, ground := Ground.textOnly Departure.lateStores }, { on := 16, ground := Ground.textOnly Departure.lateStores }, { on := 17, ground := Ground.phase }, { on := 18, ground := Ground.phase }, { on := 19, ground := Ground.textOnly Departure.lateStoresUnsure }, { on := 20, ground := Ground.phase }, { on := 21, ground := Ground.phase }, { on := 22, ground := Ground.phase }, { on := 23, ground := Ground.phase }], guard := none }) rfl (fun K hK => ?_) AllReadyH.nil)
  have zz := KD.out.cell 2
  have ff := KD.out.frozen 2
  simp only [List.getElem?_toArray, List.getElem?_cons_zero, List.getElem?_cons_succ] at zz
  go_simp
  have hS2 : Below w.heap.size w (W3s1.setCell ⟨by_, 2, none⟩ (.int .i64 (max c.ke d.ke))) ∧ Blk (W3s1.setCell ⟨by_, 2, none⟩ (.int .i64 (max c.ke d.ke))) bx #[.int .i64 c.ta, .int .i64 c.ac, .int .i64 c.ke, .int .i64 c.de, .int .i64 c.ts, .int .i64 c.kl, .int .i64 c.vl, .int .i64 c.fa] 45 := ⟨hHeld.1.setCell (p := ⟨by_, 2, none⟩) HBY.out.1 _, hHeld.2.other HBY.out.2 _⟩
  have KD2 : Hid (Blk (W3s1.setCell ⟨by_, 2, none⟩ (.int .i64 (max c.ke d.ke))) by_ #[.int .i64 (max c.ta d.ta), .int .i64 (max c.ac d.ac), .int .i64 (max c.ke d.ke), .int .i64 d.de, .int .i64 d.ts, .int .i64 d.kl, .int .i64 d.vl, .int .i64 d.fa] 45) := Lib.hid (KD.out.set (j := 2) _)
  clear zz ff KD hHeld
  refine hK.out _ _ hS2 (fun hHeld => ?_)
  clear hK K hS2
  generalize W3s1.setCell ⟨by_, 2, none⟩ (.int .i64 (max c.ke d.ke)) = W3s2 at *
  have KD := KD2
  clear KD2
  refine tkL 26 ?_ rfl rfl ?_ (fun _ _ _ h => h) (by assumption) (by kernel_rfl) ?_
  rotate_left
  · intro W hSw
    clear hSw
    go_simp
    try with_reducible rfl
  simp only [pu_]
  refine wpAnyH_ready (rs := [27]) (by kernel_rfl) (by simp) (AllReadyH.cons (o := { dst := none, op := Op.store 3 (Operand.tmp 47) (Operand.tmp 43), type := 0, pos := "outright.go:135", after := #[{ on := 26, ground := Ground.data }, { on := 19, ground := Ground.data }, { on := 25, ground := Ground.chain }, { on := 0, ground := Ground.phase }, { on := 1, ground := Ground.phase }, { on := 2, ground := Ground.phase }, { on := 3, ground := Ground.phase }, { on := 4, ground := Ground.phase }, { on := 5, ground := Ground.phase }, { on := 6, ground := Ground.phase }, { on := 7, ground := Ground.phase }, { on := 8, ground := Ground.phase }, { on := 9, ground := Ground.phase }, { on := 10, ground := Ground.phase }, { on := 11, ground := Ground.phase }, { on := 12, ground := Ground.phase }, { on := 13, ground := Ground.phase }, { on := 14, ground := Ground.phase }, { on := 15, ground := Ground.phase }, { on := 16, ground := Ground.phase }, { on := 17, ground := Ground.phase }, { on := 18, ground := Ground.phase }, { on := 19, ground := Ground.phase }, { on := 20, ground := Ground.phase }, { on := 21, ground := Ground.phase }, { on := 22, ground := Ground.phase }, { on := 23, ground := Ground.phase }, { on := 24, ground := Ground.phase }, { on := 25, ground := Ground.phase }], guard := none }) rfl (fun K hK => ?_) AllReadyH.nil)
  have zz := KD.out.cell 3
  have ff := KD.out.frozen 3
  simp only [List.getElem?_toArray, List.getElem?_cons_zero, List.getElem?_cons_succ] at zz
  go_simp
  have hS2 : Below w.heap.size w (W3s2.setCell ⟨by_, 3, none⟩ (.int .i64 (max c.de d.de))) ∧ Blk (W3s2.setCell ⟨by_, 3, none⟩ (.int .i64 (max c.de d.de))) bx #[.int .i64 c.ta, .int .i64 c.ac, .int .i64 c.ke, .int .i64 c.de, .int .i64 c.ts, .int .i64 c.kl, .int .i64 c.vl, .int .i64 c.fa] 45 := ⟨hHeld.1.setCell (p := ⟨by_, 3, none⟩) HBY.out.1 _, hHeld.2.other HBY.out.2 _⟩
  have KD2 : Hid (Blk (W3s2.setCell ⟨by_, 3, none⟩ (.int .i64 (max c.de d.de))) by_ #[.int .i64 (max c.ta d.ta), .int .i64 (max c.ac d.ac), .int .i64 (max c.ke d.ke), .int .i64 (max c.de d.de), .int .i64 d.ts, .int .i64 d.kl, .int .i64 d.vl, .int .i64 d.fa] 45) := Lib.hid (KD.out.set (j := 3) _)
  clear zz ff KD hHeld
  refine hK.out _ _ hS2 (fun hHeld => ?_)
  clear hK K hS2
  generalize W3s2.setCell ⟨by_, 3, none⟩ (.int .i64 (max c.de d.de)) = W3s3 at *
  have KD := KD2
  clear KD2
  refine wpAnyH_done (by kernel_rfl) (NoPanic.normal ?_) _
  have HB := Lib.hid hHeld.1
  have KC := Lib.hid hHeld.2
  clear hHeld
  go_upto_region 4 with (fail)
  refine wp_region_noPanic ?_
  have hbd : Below W3s3.heap.size W3s3 (World.drew W3s3) := Below.drew (Below.refl _ _)
  refine wp_region_held_drew (S := fun W => Below w.heap.size w W ∧ Blk W bx #[.int .i64 c.ta, .int .i64 c.ac, .int .i64 c.ke, .int .i64 c.de, .int .i64 c.ts, .int .i64 c.kl, .int .i64 c.vl, .int .i64 c.fa] 45) (by kernel_rfl) (⟨stepB HB.out hbd, KC.out.later hbd⟩) (fun hHeld => ?_)
  replace KD := Lib.hid (KD.out.later hbd)
  clear hbd HB KC
  obtain ⟨Wd4, hWd⟩ : ∃ z, World.drew W3s3 = z := ⟨_, rfl⟩
  rw [hWd] at hHeld KD ⊢
  clear hWd
  refine tkL 0 ?_ rfl rfl ?_ (fun _ _ _ h => h) (by assumption) (by kernel_rfl) ?_
  rotate_left
  · intro W hSw
    clear hSw
    go_simp
    try with_reducible rfl
  simp only [pu_]
  refine tkL 1 ?_ rfl rfl ?_ (fun _ _ _ h => h) (by assumption) (by kernel_rfl) ?_
  rotate_left
  · intro W hSw
    have hk_ := hSw.2.cell
    have z0 := hk_ 0
    have z1 := hk_ 1
    have z2 := hk_ 2
    have z3 := hk_ 3
    have z4 := hk_ 4
    have z5 := hk_ 5
    have z6 := hk_ 6
    have z7 := hk_ 7
    simp only [List.getElem?_toArray, List.getElem?_cons_zero, List.getElem?_cons_succ] at z0 z1 z2 z3 z4 z5 z6 z7
    clear hSw hk_
    go_simp
    try with_reducible rfl
  simp only [pu_]
  refine tkL 2 ?_ rfl rfl ?_ (fun _ _ _ h => h) (by assumption) (by kernel_rfl) ?_
  rotate_left
  · intro W hSw
    clear hSw
    go_simp
    try with_reducible rfl
  simp only [pu_]
  refine tkL 5 ?_ rfl rfl ?_ (fun _ _ _ h => h) (by assumption) (by kernel_rfl) ?_
  rotate_left
  · intro W hSw
    clear hSw
    go_simp
    try with_reducible rfl
  simp only [pu_]
  refine tkL 6 ?_ rfl rfl ?_ (fun _ _ _ h => h) (by assumption) (by kernel_rfl) ?_
  rotate_left
  · intro W hSw
    have hk_ := hSw.2.cell
    have z0 := hk_ 0
    have z1 := hk_ 1
    have z2 := hk_ 2
    have z3 := hk_ 3
    have z4 := hk_ 4
    have z5 := hk_ 5
    have z6 := hk_ 6
    have z7 := hk_ 7
    simp only [List.getElem?_toArray, List.getElem?_cons_zero, List.getElem?_cons_succ] at z0 z1 z2 z3 z4 z5 z6 z7
    clear hSw hk_
    go_simp
    try with_reducible rfl
  simp only [pu_]
  refine tkL 7 ?_ rfl rfl ?_ (fun _ _ _ h => h) (by assumption) (by kernel_rfl) ?_
  rotate_left
  · intro W hSw
    clear hSw
    go_simp
    try with_reducible rfl
  simp only [pu_]
  refine tkL 10 ?_ rfl rfl ?_ (fun _ _ _ h => h) (by assumption) (by kernel_rfl) ?_
  rotate_left
  · intro W hSw
    clear hSw
    go_simp
    try with_reducible rfl
  simp only [pu_]
  refine tkL 11 ?_ rfl rfl ?_ (fun _ _ _ h => h) (by assumption) (by kernel_rfl) ?_
  rotate_left
  · intro W hSw
    have hk_ := hSw.2.cell
    have z0 := hk_ 0
    have z1 := hk_ 1
    have z2 := hk_ 2
    have z3 := hk_ 3
    have z4 := hk_ 4
    have z5 := hk_ 5
    have z6 := hk_ 6
    have z7 := hk_ 7
    simp only [List.getElem?_toArray, List.getElem?_cons_zero, List.getElem?_cons_succ] at z0 z1 z2 z3 z4 z5 z6 z7
    clear hSw hk_
    go_simp
    try with_reducible rfl
  simp only [pu_]
  refine tkL 12 ?_ rfl rfl ?_ (fun _ _ _ h => h) (by assumption) (by kernel_rfl) ?_
  rotate_left
  · intro W hSw
    clear hSw
    go_simp
    try with_reducible rfl
  simp only [pu_]
  refine tkL 15 ?_ rfl rfl ?_ (fun _ _ _ h => h) (by assumption) (by kernel_rfl) ?_
  rotate_left
  · intro W hSw
    clear hSw
    go_simp
    try with_reducible rfl
  simp only [pu_]
  refine tkL 16 ?_ rfl rfl ?_ (fun _ _ _ h => h) (by assumption) (by kernel_rfl) ?_
  rotate_left
  · intro W hSw
    have hk_ := hSw.2.cell
    have z0 := hk_ 0
    have z1 := hk_ 1
    have z2 := hk_ 2
    have z3 := hk_ 3
    have z4 := hk_ 4
    have z5 := hk_ 5
    have z6 := hk_ 6
    have z7 := hk_ 7
    simp only [List.getElem?_toArray, List.getElem?_cons_zero, List.getElem?_cons_succ] at z0 z1 z2 z3 z4 z5 z6 z7
    clear hSw hk_
    go_simp
    try with_reducible rfl
  simp only [pu_]
  refine wpAnyH_cast (f := 8 + 6) (l := lR4 0 0 0 0) (by kernel_rfl) (by kernel_rfl) ?_
  have hS0 := hHeld
  refine loads3m (i1 := 3) (t1 := 51) (m1 := 4) (s1 := 52) (v1 := (.int .i64 d.ts)) (u1 := (.int .i64 (max c.ts d.ts))) (o1 := { dst := some 51, op := Op.load 3 (Operand.tmp 50), type := 3, pos := "outright.go:136", after := #[{ on := 2, ground := Ground.data }], guard := none }) (q1 := { dst := some 52, op := Op.call { callee := Callee.builtin Builtin.max, args := #[Operand.tmp 49, Operand.tmp 51], argTypes := #[3, 3] }, type := 3, pos := "outright.go:136", after := #[{ on := 1, ground := Ground.data }, { on := 3, ground := Ground.data }], guard := none }) (i2 := 8) (t2 := 56) (m2 := 9) (s2 := 57) (v2 := (.int .i64 d.kl)) (u2 := (.int .i64 (max c.kl d.kl))) (o2 := { dst := some 56, op := Op.load 3 (Operand.tmp 55), type := 3, pos := "outright.go:136", after := #[{ on := 7, ground := Ground.data }], guard := none }) (q2 := { dst := some 57, op := Op.call { callee := Callee.builtin Builtin.max, args := #[Operand.tmp 54, Operand.tmp 56], argTypes := #[3, 3] }, type := 3, pos := "outright.go:136", after := #[{ on := 6, ground := Ground.data }, { on := 8, ground := Ground.data }], guard := none }) (i3 := 13) (t3 := 61) (m3 := 14) (s3 := 62) (v3 := (.int .i64 d.vl)) (u3 := (.int .i64 (max c.vl d.vl))) (o3 := { dst := some 61, op := Op.load 3 (Operand.tmp 60), type := 3, pos := "outright.go:136", after := #[{ on := 12, ground := Ground.data }], guard := none }) (q3 := { dst := some 62, op := Op.call { callee := Callee.builtin Builtin.max, args := #[Operand.tmp 59, Operand.tmp 61], argTypes := #[3, 3] }, type := 3, pos := "outright.go:136", after := #[{ on := 11, ground := Ground.data }, { on := 13, ground := Ground.data }], guard := none }) lR4 ?_ ?_ ?_ ?_ ?_ ?_ (by decide) (by kernel_rfl) ?_ ?_ ?_ ?_ ?_ ?_ ?_ ?_ ?_ (fun _ _ _ _ h => h) hS0 ?_
  · exact ⟨rfl, rfl, rfl, (fun cs b h => by cases h), by decide +kernel⟩
  · exact ⟨rfl, rfl, rfl, (fun cs b h => by cases h), by decide +kernel⟩
  · exact ⟨rfl, rfl, rfl, (fun cs b h => by cases h), by decide +kernel⟩
  · exact ⟨rfl, rfl, rfl, (fun cs b h => by cases h), by decide +kernel⟩
  · exact ⟨rfl, rfl, rfl, (fun cs b h => by cases h), by decide +kernel⟩
  · exact ⟨rfl, rfl, rfl, (fun cs b h => by cases h), by decide +kernel⟩
  · intro a1 a2 h1 h2
    rcases (by omega : a1 = 0 ∨ a1 = 1) with rfl | rfl <;> rcases (by omega : a2 = 0 ∨ a2 = 1) with rfl | rfl <;> exact ⟨by unfold Tk; kernel_rfl, rfl⟩
  · intro a1 a2 h1 h2
    rcases (by omega : a1 = 0 ∨ a1 = 1) with rfl | rfl <;> rcases (by omega : a2 = 0 ∨ a2 = 1) with rfl | rfl <;> exact ⟨by unfold Tk; kernel_rfl, rfl⟩
  · intro a1 a2 h1 h2
    rcases (by omega : a1 = 0 ∨ a1 = 1) with rfl | rfl <;> rcases (by omega : a2 = 0 ∨ a2 = 1) with rfl | rfl <;> exact ⟨by unfold Tk; kernel_rfl, rfl⟩
  · have hk_ := KD.out.cell
    have z0 := hk_ 0
    have z1 := hk_ 1
    have z2 := hk_ 2
    have z3 := hk_ 3
    have z4 := hk_ 4
    have z5 := hk_ 5
    have z6 := hk_ 6
    have z7 := hk_ 7
    simp only [List.getElem?_toArray, List.getElem?_cons_zero, List.getElem?_cons_succ] at z0 z1 z2 z3 z4 z5 z6 z7
    go_simp
    try with_reducible rfl
  · intro W hSw
    have hk_ := hSw.2.cell
    have z0 := hk_ 0
    have z1 := hk_ 1
    have z2 := hk_ 2
    have z3 := hk_ 3
    have z4 := hk_ 4
    have z5 := hk_ 5
    have z6 := hk_ 6
    have z7 := hk_ 7
    simp only [List.getElem?_toArray, List.getElem?_cons_zero, List.getElem?_cons_succ] at z0 z1 z2 z3 z4 z5 z6 z7
    clear hSw hk_
    simp only [pu_]
    go_simp
    try with_reducible rfl
  · have hk_ := KD.out.cell
    have z0 := hk_ 0
    have z1 := hk_ 1
    have z2 := hk_ 2
    have z3 := hk_ 3
    have z4 := hk_ 4
    have z5 := hk_ 5
    have z6 := hk_ 6
    have z7 := hk_ 7
    simp only [List.getElem?_toArray, List.getElem?_cons_zero, List.getElem?_cons_succ] at z0 z1 z2 z3 z4 z5 z6 z7
    go_simp
    try with_reducible rfl
  · intro W hSw
    have hk_ := hSw.2.cell
    have z0 := hk_ 0
    have z1 := hk_ 1
    have z2 := hk_ 2
    have z3 := hk_ 3
    have z4 := hk_ 4
    have z5 := hk_ 5
    have z6 := hk_ 6
    have z7 := hk_ 7
    simp only [List.getElem?_toArray, List.getElem?_cons_zero, List.getElem?_cons_succ] at z0 z1 z2 z3 z4 z5 z6 z7
    clear hSw hk_
    simp only [pu_]
    go_simp
    try with_reducible rfl
  · have hk_ := KD.out.cell
    have z0 := hk_ 0
    have z1 := hk_ 1
    have z2 := hk_ 2
    have z3 := hk_ 3
    have z4 := hk_ 4
    have z5 := hk_ 5
    have z6 := hk_ 6
    have z7 := hk_ 7
    simp only [List.getElem?_toArray, List.getElem?_cons_zero, List.getElem?_cons_succ] at z0 z1 z2 z3 z4 z5 z6 z7
    go_simp
    try with_reducible rfl
  · intro W hSw
    have hk_ := hSw.2.cell
    have z0 := hk_ 0
    have z1 := hk_ 1
    have z2 := hk_ 2
    have z3 := hk_ 3
    have z4 := hk_ 4
    have z5 := hk_ 5
    have z6 := hk_ 6
    have z7 := hk_ 7
    simp only [List.getElem?_toArray, List.getElem?_cons_zero, List.getElem?_cons_succ] at z0 z1 z2 z3 z4 z5 z6 z7
    clear hSw hk_
    simp only [pu_]
    go_simp
    try with_reducible rfl
  simp only [putIf_1, pu_]
  clear hS0
  refine tkL 17 ?_ rfl rfl ?_ (fun _ _ _ h => h) (by assumption) (by kernel_rfl) ?_
  rotate_left
  · intro W hSw
    clear hSw
    go_simp
    try with_reducible rfl
  simp only [pu_]
  refine wpAnyH_ready (rs := [18]) (by kernel_rfl) (by simp) (AllReadyH.cons (o := { dst := none, op := Op.store 3 (Operand.tmp 65) (Operand.tmp 52), type := 0, pos := "outright.go:136", after := #[{ on := 17, ground := Ground.data }, { on := 4, ground := Ground.data }, { on := 0, ground := Ground.phase }, { on := 1, ground := Ground.phase }, { on := 2, ground := Ground.phase }, { on := 3, ground := Ground.phase }, { on := 4, ground := Ground.phase }, { on := 5, ground := Ground.textOnly Departure.lateStores }, { on := 6, ground := Ground.textOnly Departure.lateStores }, { on := 7, ground := Ground.phase }, { on := 8, ground := Ground.phase }, { on := 9, ground := Ground.textOnly Departure.lateStoresUnsure }, { on := 10, ground := Ground.textOnly Departure.lateStores }, { on := 11, ground := Ground.textOnly Departure.lateStores }, { on := 12, ground := Ground.phase }, { on := 13, ground := Ground.phase }, { on := 14, ground := Ground.textOnly Departure.lateStoresUnsure }, { on := 15, ground := Ground.textOnly Departure.lateStores }, { on := 16, ground := Ground.textOnly Departure.lateStores }], guard := none }) rfl (fun K hK => ?_) AllReadyH.nil)
  have zz := KD.out.cell 4
  have ff := KD.out.frozen 4
  simp only [List.getElem?_toArray, List.getElem?_cons_zero, List.getElem?_cons_succ] at zz
  go_simp
  have hS2 : Below w.heap.size w (Wd4.setCell ⟨by_, 4, none⟩ (.int .i64 (max c.ts d.ts))) ∧ Blk (Wd4.setCell ⟨by_, 4, none⟩ (.int .i64 (max c.ts d.ts))) bx #[.int .i64 c.ta, .int .i64 c.ac, .int .i64 c.ke, .int .i64 c.de, .int .i64 c.ts, .int .i64 c.kl, .int .i64 c.vl, .int .i64 c.fa] 45 := ⟨hHeld.1.setCell (p := ⟨by_, 4, none⟩) HBY.out.1 _, hHeld.2.other HBY.out.2 _⟩
  have KD2 : Hid (Blk (Wd4.setCell ⟨by_, 4, none⟩ (.int .i64 (max c.ts d.ts))) by_ #[.int .i64 (max c.ta d.ta), .int .i64 (max c.ac d.ac), .int .i64 (max c.ke d.ke), .int .i64 (max c.de d.de), .int .i64 (max c.ts d.ts), .int .i64 d.kl, .int .i64 d.vl, .int .i64 d.fa] 45) := Lib.hid (KD.out.set (j := 4) _)
  clear zz ff KD hHeld
  refine hK.out _ _ hS2 (fun hHeld => ?_)
  clear hK K hS2
  generalize Wd4.setCell ⟨by_, 4, none⟩ (.int .i64 (max c.ts d.ts)) = W4s0 at *
  have KD := KD2
  clear KD2
  refine tkL 19 ?_ rfl rfl ?_ (fun _ _ _ h => h) (by assumption) (by kernel_rfl) ?_
  rotate_left
  · intro W hSw
    clear hSw
    go_simp
    try with_reducible rfl
  simp only [pu_]
  refine wpAnyH_ready (rs := [20]) (by kernel_rfl) (by simp) (AllReadyH.cons (o := { dst := none, op := Op.store 3 (Operand.tmp 66) (Operand.tmp 57), type := 0, pos := "outright.go:136", after := #[{ on := 19, ground := Ground.data }, { on := 9, ground := Ground.data }, { on := 18, ground := Ground.chain }, { on := 0, ground := Ground.phase }, { on := 1, ground := Ground.phase }, { on := 2, ground := Ground.phase }, { on := 3, ground := Ground.phase }, { on := 4, ground := Ground.phase }, { on := 5, ground := Ground.phase }, { on := 6, ground := Ground.phase }, { on := 7, ground := Ground.phase }, { on := 8, ground := Ground.phase }, { on := 9, ground := Ground.phase }, { on := 10, ground := Ground.textOnly Departure.lateStores }, { on := 11, ground := Ground.textOnly Departure.lateStores }, { on := 12, ground := Ground.phase }, { on := 13, ground := Ground.phase }, { on := 14, ground := Ground.textOnly Departure.lateStoresUnsure }, { on := 15, ground := Ground.textOnly Departure.lateStores }, { on := 16, ground := Ground.textOnly Departure.lateStores }, { on := 17, ground := Ground.phase }, { on := 18, ground := Ground.phase }], guard := none }) rfl (fun K hK => ?_) AllReadyH.nil)
  have zz := KD.out.cell 5
  have ff := KD.out.frozen 5
  simp only [List.getElem?_toArray, List.getElem?_cons_zero, List.getElem?_cons_succ] at zz
  go_simp
  have hS2 : Below w.heap.size w (W4s0.setCell ⟨by_, 5, none⟩ (.int .i64 (max c.kl d.kl))) ∧ Blk (W4s0.setCell ⟨by_, 5, none⟩ (.int .i64 (max c.kl d.kl))) bx #[.int .i64 c.ta, .int .i64 c.ac, .int .i64 c.ke, .int .i64 c.de, .int .i64 c.ts, .int .i64 c.kl, .int .i64 c.vl, .int .i64 c.fa] 45 := ⟨hHeld.1.setCell (p := ⟨by_, 5, none⟩) HBY.out.1 _, hHeld.2.other HBY.out.2 _⟩
  have KD2 : Hid (Blk (W4s0.setCell ⟨by_, 5, none⟩ (.int .i64 (max c.kl d.kl))) by_ #[.int .i64 (max c.ta d.ta), .int .i64 (max c.ac d.ac), .int .i64 (max c.ke d.ke), .int .i64 (max c.de d.de), .int .i64 (max c.ts d.ts), .int .i64 (max c.kl d.kl), .int .i64 d.vl, .int .i64 d.fa] 45) := Lib.hid (KD.out.set (j := 5) _)
  clear zz ff KD hHeld
  refine hK.out _ _ hS2 (fun hHeld => ?_)
  clear hK K hS2
  generalize W4s0.setCell ⟨by_, 5, none⟩ (.int .i64 (max c.kl d.kl)) = W4s1 at *
  have KD := KD2
  clear KD2
  refine tkL 21 ?_ rfl rfl ?_ (fun _ _ _ h => h) (by assumption) (by kernel_rfl) ?_
  rotate_left
  · intro W hSw
    clear hSw
    go_simp
    try with_reducible rfl
  simp only [pu_]
  refine wpAnyH_ready (rs := [22]) (by kernel_rfl) (by simp) (AllReadyH.cons (o := { dst := none, op := Op.store 3 (Operand.tmp 67) (Operand.tmp 62), type := 0, pos := "outright.go:136", after := #[{ on := 21, ground := Ground.data }, { on := 14, ground := Ground.data }, { on := 20, ground := Ground.chain }, { on := 0, ground := Ground.phase }, { on := 1, ground := Ground.phase }, { on := 2, ground := Ground.phase }, { on := 3, ground := Ground.phase }, { on := 4, ground := Ground.phase }, { on := 5, ground := Ground.phase }, { on := 6, ground := Ground.phase }, { on := 7, ground := Ground.phase }, { on := 8, ground := Ground.phase }, { on := 9, ground := Ground.phase }, { on := 10, ground := Ground.phase }, { on := 11, ground := Ground.phase }, { on := 12, ground := Ground.phase }, { on := 13, ground := Ground.phase }, { on := 14, ground := Ground.phase }, { on := 15, ground := Ground.textOnly Departure.lateStores }, { on := 16, ground := Ground.textOnly Departure.lateStores }, { on := 17, ground := Ground.phase }, { on := 18, ground := Ground.phase }, { on := 19, ground := Ground.phase }, { on := 20, ground := Ground.phase }], guard := none }) rfl (fun K hK => ?_) AllReadyH.nil)
  have zz := KD.out.cell 6
  have ff := KD.out.frozen 6
  simp only [List.getElem?_toArray, List.getElem?_cons_zero, List.getElem?_cons_succ] at zz
  go_simp
  have hS2 : Below w.heap.size w (W4s1.setCell ⟨by_, 6, none⟩ (.int .i64 (max c.vl d.vl))) ∧ Blk (W4s1.setCell ⟨by_, 6, none⟩ (.int .i64 (max c.vl d.vl))) bx #[.int .i64 c.ta, .int .i64 c.ac, .int .i64 c.ke, .int .i64 c.de, .int .i64 c.ts, .int .i64 c.kl, .int .i64 c.vl, .int .i64 c.fa] 45 := ⟨hHeld.1.setCell (p := ⟨by_, 6, none⟩) HBY.out.1 _, hHeld.2.other HBY.out.2 _⟩
  have KD2 : Hid (Blk (W4s1.setCell ⟨by_, 6, none⟩ (.int .i64 (max c.vl d.vl))) by_ #[.int .i64 (max c.ta d.ta), .int .i64 (max c.ac d.ac), .int .i64 (max c.ke d.ke), .int .i64 (max c.de d.de), .int .i64 (max c.ts d.ts), .int .i64 (max c.kl d.kl), .int .i64 (max c.vl d.vl), .int .i64 d.fa] 45) := Lib.hid (KD.out.set (j := 6) _)
  clear zz ff KD hHeld
  refine hK.out _ _ hS2 (fun hHeld => ?_)
  clear hK K hS2
  generalize W4s1.setCell ⟨by_, 6, none⟩ (.int .i64 (max c.vl d.vl)) = W4s2 at *
  have KD := KD2
  clear KD2
  refine tkL 23 ?_ rfl rfl ?_ (fun _ _ _ h => h) (by assumption) (by kernel_rfl) ?_
  rotate_left
  · intro W hSw
    clear hSw
    go_simp
    try with_reducible rfl
  simp only [pu_]
  refine wpAnyH_ready (rs := [24]) (by kernel_rfl) (by simp) (AllReadyH.cons (o := { dst := none, op := Op.store 3 (Operand.tmp 68) (Operand.tmp 64), type := 0, pos := "outright.go:136", after := #[{ on := 23, ground := Ground.data }, { on := 16, ground := Ground.data }, { on := 22, ground := Ground.chain }, { on := 0, ground := Ground.phase }, { on := 1, ground := Ground.phase }, { on := 2, ground := Ground.phase }, { on := 3, ground := Ground.phase }, { on := 4, ground := Ground.phase }, { on := 5, ground := Ground.phase }, { on := 6, ground := Ground.phase }, { on := 7, ground := Ground.phase }, { on := 8, ground := Ground.phase }, { on := 9, ground := Ground.phase }, { on := 10, ground := Ground.phase }, { on := 11, ground := Ground.phase }, { on := 12, ground := Ground.phase }, { on := 13, ground := Ground.phase }, { on := 14, ground := Ground.phase }, { on := 15, ground := Ground.phase }, { on := 16, ground := Ground.phase }, { on := 17, ground := Ground.phase }, { on := 18, ground := Ground.phase }, { on := 19, ground := Ground.phase }, { on := 20, ground := Ground.phase }, { on := 21, ground := Ground.phase }, { on := 22, ground := Ground.phase }], guard := none }) rfl (fun K hK => ?_) AllReadyH.nil)
  have zz := KD.out.cell 7
  have ff := KD.out.frozen 7
  simp only [List.getElem?_toArray, List.getElem?_cons_zero, List.getElem?_cons_succ] at zz
  go_simp
  have hS2 : Below w.heap.size w (W4s2.setCell ⟨by_, 7, none⟩ (.int .i64 c.fa)) ∧ Blk (W4s2.setCell ⟨by_, 7, none⟩ (.int .i64 c.fa)) bx #[.int .i64 c.ta, .int .i64 c.ac, .int .i64 c.ke, .int .i64 c.de, .int .i64 c.ts, .int .i64 c.kl, .int .i64 c.vl, .int .i64 c.fa] 45 := ⟨hHeld.1.setCell (p := ⟨by_, 7, none⟩) HBY.out.1 _, hHeld.2.other HBY.out.2 _⟩
  have KD2 : Hid (Blk (W4s2.setCell ⟨by_, 7, none⟩ (.int .i64 c.fa)) by_ #[.int .i64 (max c.ta d.ta), .int .i64 (max c.ac d.ac), .int .i64 (max c.ke d.ke), .int .i64 (max c.de d.de), .int .i64 (max c.ts d.ts), .int .i64 (max c.kl d.kl), .int .i64 (max c.vl d.vl), .int .i64 c.fa] 45) := Lib.hid (KD.out.set (j := 7) _)
  clear zz ff KD hHeld
  refine hK.out _ _ hS2 (fun hHeld => ?_)
  clear hK K hS2
  generalize W4s2.setCell ⟨by_, 7, none⟩ (.int .i64 c.fa) = W4s3 at *
  have KD := KD2
  clear KD2
  refine wpAnyH_done (by kernel_rfl) (NoPanic.normal ?_) _
  have HB := Lib.hid hHeld.1
  have KC := Lib.hid hHeld.2
  clear hHeld
  have hm3 := maxC_may HM1.out HM2.out
  have hlb := Lgr.bound HM1.out hm3 (maxC_lgr c d)
  have hls := Lgr.steps HM1.out hm3 (maxC_lgr c d) k
  have hlr := Lgr.rounds HM1.out hm3 (maxC_lgr c d)
  have HC1 := Lib.hid (fun W => rbound_any c W)
  have HC2 := Lib.hid (show ∀ W, Calls Try.prog 41 #[.agg #[.int .i64 (max c.ta d.ta), .int .i64 (max c.ac d.ac), .int .i64 (max c.ke d.ke), .int .i64 (max c.de d.de), .int .i64 (max c.ts d.ts), .int .i64 (max c.kl d.kl), .int .i64 (max c.vl d.vl), .int .i64 c.fa]] W _ from fun W => rbound_any (maxC c d) W)
  have HC3 := Lib.hid (fun W => rsteps_any c k HK.out W)
  have HC4 := Lib.hid (show ∀ W, Calls Try.prog 43 #[.agg #[.int .i64 (max c.ta d.ta), .int .i64 (max c.ac d.ac), .int .i64 (max c.ke d.ke), .int .i64 (max c.de d.de), .int .i64 (max c.ts d.ts), .int .i64 (max c.kl d.kl), .int .i64 (max c.vl d.vl), .int .i64 c.fa], .int .u8 (k : Int)] W _ from fun W => rsteps_any (maxC c d) k HK.out W)
  have HC5 := Lib.hid (fun W => rrounds_any c W)
  have HC6 := Lib.hid (show ∀ W, Calls Try.prog 44 #[.agg #[.int .i64 (max c.ta d.ta), .int .i64 (max c.ac d.ac), .int .i64 (max c.ke d.ke), .int .i64 (max c.de d.de), .int .i64 (max c.ts d.ts), .int .i64 (max c.kl d.kl), .int .i64 (max c.vl d.vl), .int .i64 c.fa]] W _ from fun W => rrounds_any (maxC c d) W)
  obtain ⟨p1, hp1⟩ : ∃ z, (boundP c).1 = z := ⟨_, rfl⟩
  obtain ⟨p2, hp2⟩ : ∃ z, (boundP c).2 = z := ⟨_, rfl⟩
  obtain ⟨q1, hq1⟩ : ∃ z, (boundP (maxC c d)).1 = z := ⟨_, rfl⟩
  obtain ⟨q2, hq2⟩ : ∃ z, (boundP (maxC c d)).2 = z := ⟨_, rfl⟩
  obtain ⟨p3, hp3⟩ : ∃ z, stepsP c k = z := ⟨_, rfl⟩
  obtain ⟨q3, hq3⟩ : ∃ z, stepsP (maxC c d) k = z := ⟨_, rfl⟩
  obtain ⟨p4, hp4⟩ : ∃ z, roundsP c = z := ⟨_, rfl⟩
  obtain ⟨q4, hq4⟩ : ∃ z, roundsP (maxC c d) = z := ⟨_, rfl⟩
  rw [hp1, hp2, hq1, hq2] at hlb
  rw [hp1, hp2] at HC1
  rw [hq1, hq2] at HC2
  rw [hp3] at HC3 hls
  rw [hq3] at HC4 hls
  rw [hp4] at HC5 hlr
  rw [hq4] at HC6 hlr
  have b1 : decide (p1 ≤ q1) = true := decide_eq_true hlb.1
  have b2 : decide (p2 ≤ q2) = true := decide_eq_true hlb.2
  have b3 : decide (p3 ≤ q3) = true := decide_eq_true hls
  have b4 : decide (p4 ≤ q4) = true := decide_eq_true hlr
  clear hm3 hlb hls hlr hp1 hp2 hq1 hq2 hp3 hq3 hp4 hq4
  have z0 := KC.out.cell 0
  have z1 := KC.out.cell 1
  have z2 := KC.out.cell 2
  have z3 := KC.out.cell 3
  have z4 := KC.out.cell 4
  have z5 := KC.out.cell 5
  have z6 := KC.out.cell 6
  have z7 := KC.out.cell 7
  simp only [List.getElem?_toArray, List.getElem?_cons_zero, List.getElem?_cons_succ] at z0 z1 z2 z3 z4 z5 z6 z7
  go_wp2_with fail
  refine (HC1.out _).mono ?_
  rintro e w11 ⟨rfl, hb⟩
  replace HB := Lib.hid (stepB HB.out hb)
  replace KC := Lib.hid (KC.out.later hb)
  replace KD := Lib.hid (KD.out.later hb)
  clear hb
  clear z0 z1 z2 z3 z4 z5 z6 z7
  have z0 := KD.out.cell 0
  have z1 := KD.out.cell 1
  have z2 := KD.out.cell 2
  have z3 := KD.out.cell 3
  have z4 := KD.out.cell 4
  have z5 := KD.out.cell 5
  have z6 := KD.out.cell 6
  have z7 := KD.out.cell 7
  simp only [List.getElem?_toArray, List.getElem?_cons_zero, List.getElem?_cons_succ] at z0 z1 z2 z3 z4 z5 z6 z7
  go_wp2_with fail
  refine (HC2.out _).mono ?_
  rintro e w12 ⟨rfl, hb⟩
  replace HB := Lib.hid (stepB HB.out hb)
  replace KC := Lib.hid (KC.out.later hb)
  replace KD := Lib.hid (KD.out.later hb)
  clear hb
  clear z0 z1 z2 z3 z4 z5 z6 z7
  go_upto_region 7 with (fail)
  refine wp_region_noPanic ?_
  have hbd : Below w12.heap.size w12 (World.drew w12) := Below.drew (Below.refl _ _)
  refine wp_region_held_drew (S := fun W => Below w.heap.size w W ∧ Blk W bx #[.int .i64 c.ta, .int .i64 c.ac, .int .i64 c.ke, .int .i64 c.de, .int .i64 c.ts, .int .i64 c.kl, .int .i64 c.vl, .int .i64 c.fa] 45 ∧ Blk W by_ #[.int .i64 (max c.ta d.ta), .int .i64 (max c.ac d.ac), .int .i64 (max c.ke d.ke), .int .i64 (max c.de d.de), .int .i64 (max c.ts d.ts), .int .i64 (max c.kl d.kl), .int .i64 (max c.vl d.vl), .int .i64 c.fa] 45) (by kernel_rfl) (⟨stepB HB.out hbd, KC.out.later hbd, KD.out.later hbd⟩) (fun hHeld => ?_)
  clear hbd HB KC KD
  obtain ⟨Wd7, hWd⟩ : ∃ z, World.drew w12 = z := ⟨_, rfl⟩
  rw [hWd] at hHeld ⊢
  clear hWd
  refine tkL 0 ?_ rfl rfl ?_ (fun _ _ _ h => h) (by assumption) (by kernel_rfl) ?_
  rotate_left
  · intro W hSw
    clear hSw
    go_simp
    try with_reducible rfl
  simp only [pu_]
  refine tkL 1 ?_ rfl rfl ?_ (fun _ _ _ h => h) (by assumption) (by kernel_rfl) ?_
  rotate_left
  · intro W hSw
    clear hSw
    go_simp
    try with_reducible rfl
  simp only [pu_]
  refine tkL 2 ?_ rfl rfl ?_ (fun _ _ _ h => h) (by assumption) (by kernel_rfl) ?_
  rotate_left
  · intro W hSw
    clear hSw
    go_simp
    try with_reducible rfl
  simp only [pu_]
  refine tkL 3 ?_ rfl rfl ?_ (fun _ _ _ h => h) (by assumption) (by kernel_rfl) ?_
  rotate_left
  · intro W hSw
    clear hSw
    go_simp
    try with_reducible rfl
  simp only [pu_]
  refine tkL 4 ?_ rfl rfl ?_ (fun _ _ _ h => h) (by assumption) (by kernel_rfl) ?_
  rotate_left
  · intro W hSw
    clear hSw
    go_simp
    try with_reducible rfl
  simp only [pu_]
  refine tkL 5 ?_ rfl rfl ?_ (fun _ _ _ h => h) (by assumption) (by kernel_rfl) ?_
  rotate_left
  · intro W hSw
    clear hSw
    go_simp
    try with_reducible rfl
  simp only [pu_]
  refine tkL 6 ?_ rfl rfl ?_ (fun _ _ _ h => h) (by assumption) (by kernel_rfl) ?_
  rotate_left
  · intro W hSw
    clear hSw
    go_simp
    try with_reducible rfl
  simp only [pu_]
  refine tkL 7 ?_ rfl rfl ?_ (fun _ _ _ h => h) (by assumption) (by kernel_rfl) ?_
  rotate_left
  · intro W hSw
    clear hSw
    go_simp
    try with_reducible rfl
  simp only [pu_]
  refine tkL 8 ?_ rfl rfl ?_ (fun _ _ _ h => h) (by assumption) (by kernel_rfl) ?_
  rotate_left
  · intro W hSw
    clear hSw
    go_simp
    try with_reducible rfl
  simp only [pu_]
  refine tkL 9 ?_ rfl rfl ?_ (fun _ _ _ h => h) (by assumption) (by kernel_rfl) ?_
  rotate_left
  · intro W hSw
    have hk_ := hSw.2.1.cell
    have z0 := hk_ 0
    have z1 := hk_ 1
    have z2 := hk_ 2
    have z3 := hk_ 3
    have z4 := hk_ 4
    have z5 := hk_ 5
    have z6 := hk_ 6
    have z7 := hk_ 7
    simp only [List.getElem?_toArray, List.getElem?_cons_zero, List.getElem?_cons_succ] at z0 z1 z2 z3 z4 z5 z6 z7
    clear hSw hk_
    go_simp
    try with_reducible rfl
  simp only [pu_]
  refine tkL 10 ?_ rfl rfl ?_ (fun _ _ _ h => h) (by assumption) (by kernel_rfl) ?_
  rotate_left
  · intro W hSw
    clear hSw
    go_simp
    try with_reducible rfl
  simp only [pu_]
  refine tkL 12 ?_ rfl rfl ?_ (fun _ _ _ h => h) (by assumption) (by kernel_rfl) ?_
  rotate_left
  · intro W hSw
    have hk_ := hSw.2.2.cell
    have z0 := hk_ 0
    have z1 := hk_ 1
    have z2 := hk_ 2
    have z3 := hk_ 3
    have z4 := hk_ 4
    have z5 := hk_ 5
    have z6 := hk_ 6
    have z7 := hk_ 7
    simp only [List.getElem?_toArray, List.getElem?_cons_zero, List.getElem?_cons_succ] at z0 z1 z2 z3 z4 z5 z6 z7
    clear hSw hk_
    go_simp
    try with_reducible rfl
  simp only [pu_]
  refine tkL 13 ?_ rfl rfl ?_ (fun _ _ _ h => h) (by assumption) (by kernel_rfl) ?_
  rotate_left
  · intro W hSw
    clear hSw
    go_simp
    try with_reducible rfl
  simp only [pu_]
  refine wpAnyH_ready (rs := [11]) (by kernel_rfl) (by simp) (AllReadyH.cons (o := { dst := some 90, op := Op.call { callee := Callee.value (Operand.func 43), args := #[Operand.tmp 88, Operand.tmp 89], argTypes := #[45, 5] }, type := 3, pos := "outright.go:139", after := #[{ on := 9, ground := Ground.data }, { on := 10, ground := Ground.data }, { on := 8, ground := Ground.chain }, { on := 8, ground := Ground.guard }], guard := some (8, true) }) rfl (fun K hK => ?_) AllReadyH.nil)
  have HCL2 := Lib.hid (HC3.out Wd7)
  go_simp
  refine HCL2.out.mono ?_
  rintro e Wq1 ⟨rfl, hb⟩
  clear HCL2
  refine hK.out _ _ ⟨stepB hHeld.1 hb, hHeld.2.1.later hb, hHeld.2.2.later hb⟩ (fun hH2 => ?_)
  clear hK K hHeld hb
  have hHeld := hH2
  clear hH2
  refine wpAnyH_ready (rs := [14]) (by kernel_rfl) (by simp) (AllReadyH.cons (o := { dst := some 93, op := Op.call { callee := Callee.value (Operand.func 43), args := #[Operand.tmp 91, Operand.tmp 92], argTypes := #[45, 5] }, type := 3, pos := "outright.go:139", after := #[{ on := 12, ground := Ground.data }, { on := 13, ground := Ground.data }, { on := 11, ground := Ground.chain }, { on := 8, ground := Ground.guard }], guard := some (8, true) }) rfl (fun K hK => ?_) AllReadyH.nil)
  have HCL2 := Lib.hid (HC4.out Wq1)
  go_simp
  refine HCL2.out.mono ?_
  rintro e Wq2 ⟨rfl, hb⟩
  clear HCL2
  refine hK.out _ _ ⟨stepB hHeld.1 hb, hHeld.2.1.later hb, hHeld.2.2.later hb⟩ (fun hH2 => ?_)
  clear hK K hHeld hb
  have hHeld := hH2
  clear hH2
  refine tkL 15 ?_ rfl rfl ?_ (fun _ _ _ h => h) (by assumption) (by kernel_rfl) ?_
  rotate_left
  · intro W hSw
    clear hSw
    go_simp
    try with_reducible rfl
  simp only [pu_]
  refine tkL 16 ?_ rfl rfl ?_ (fun _ _ _ h => h) (by assumption) (by kernel_rfl) ?_
  rotate_left
  · intro W hSw
    clear hSw
    go_simp
    try with_reducible rfl
  simp only [pu_]
  refine tkL 17 ?_ rfl rfl ?_ (fun _ _ _ h => h) (by assumption) (by kernel_rfl) ?_
  rotate_left
  · intro W hSw
    clear hSw
    go_simp
    try with_reducible rfl
  simp only [pu_]
  refine tkL 18 ?_ rfl rfl ?_ (fun _ _ _ h => h) (by assumption) (by kernel_rfl) ?_
  rotate_left
  · intro W hSw
    have hk_ := hSw.2.1.cell
    have z0 := hk_ 0
    have z1 := hk_ 1
    have z2 := hk_ 2
    have z3 := hk_ 3
    have z4 := hk_ 4
    have z5 := hk_ 5
    have z6 := hk_ 6
    have z7 := hk_ 7
    simp only [List.getElem?_toArray, List.getElem?_cons_zero, List.getElem?_cons_succ] at z0 z1 z2 z3 z4 z5 z6 z7
    clear hSw hk_
    go_simp
    try with_reducible rfl
  simp only [pu_]
  refine tkL 20 ?_ rfl rfl ?_ (fun _ _ _ h => h) (by assumption) (by kernel_rfl) ?_
  rotate_left
  · intro W hSw
    have hk_ := hSw.2.2.cell
    have z0 := hk_ 0
    have z1 := hk_ 1
    have z2 := hk_ 2
    have z3 := hk_ 3
    have z4 := hk_ 4
    have z5 := hk_ 5
    have z6 := hk_ 6
    have z7 := hk_ 7
    simp only [List.getElem?_toArray, List.getElem?_cons_zero, List.getElem?_cons_succ] at z0 z1 z2 z3 z4 z5 z6 z7
    clear hSw hk_
    go_simp
    try with_reducible rfl
  simp only [pu_]
  refine wpAnyH_ready (rs := [19]) (by kernel_rfl) (by simp) (AllReadyH.cons (o := { dst := some 98, op := Op.call { callee := Callee.value (Operand.func 44), args := #[Operand.tmp 97], argTypes := #[45] }, type := 3, pos := "outright.go:139", after := #[{ on := 18, ground := Ground.data }, { on := 17, ground := Ground.chain }, { on := 17, ground := Ground.guard }], guard := some (17, true) }) rfl (fun K hK => ?_) AllReadyH.nil)
  have HCL2 := Lib.hid (HC5.out Wq2)
  go_simp
  refine HCL2.out.mono ?_
  rintro e Wq3 ⟨rfl, hb⟩
  clear HCL2
  refine hK.out _ _ ⟨stepB hHeld.1 hb, hHeld.2.1.later hb, hHeld.2.2.later hb⟩ (fun hH2 => ?_)
  clear hK K hHeld hb
  have hHeld := hH2
  clear hH2
  refine wpAnyH_ready (rs := [21]) (by kernel_rfl) (by simp) (AllReadyH.cons (o := { dst := some 100, op := Op.call { callee := Callee.value (Operand.func 44), args := #[Operand.tmp 99], argTypes := #[45] }, type := 3, pos := "outright.go:139", after := #[{ on := 20, ground := Ground.data }, { on := 19, ground := Ground.chain }, { on := 17, ground := Ground.guard }], guard := some (17, true) }) rfl (fun K hK => ?_) AllReadyH.nil)
  have HCL2 := Lib.hid (HC6.out Wq3)
  go_simp
  refine HCL2.out.mono ?_
  rintro e Wq4 ⟨rfl, hb⟩
  clear HCL2
  refine hK.out _ _ ⟨stepB hHeld.1 hb, hHeld.2.1.later hb, hHeld.2.2.later hb⟩ (fun hH2 => ?_)
  clear hK K hHeld hb
  have hHeld := hH2
  clear hH2
  refine tkL 22 ?_ rfl rfl ?_ (fun _ _ _ h => h) (by assumption) (by kernel_rfl) ?_
  rotate_left
  · intro W hSw
    clear hSw
    go_simp
    try with_reducible rfl
  simp only [pu_]
  refine tkL 23 ?_ rfl rfl ?_ (fun _ _ _ h => h) (by assumption) (by kernel_rfl) ?_
  rotate_left
  · intro W hSw
    clear hSw
    go_simp
    try with_reducible rfl
  simp only [pu_]
  refine tkL 24 ?_ rfl rfl ?_ (fun _ _ _ h => h) (by assumption) (by kernel_rfl) ?_
  rotate_left
  · intro W hSw
    clear hSw
    go_simp
    try with_reducible rfl
  simp only [pu_]
  refine wpAnyH_done (by kernel_rfl) (NoPanic.normal ?_) _
  have HBE := Lib.hid hHeld.1
  clear hHeld
  go_wp2
  go_ret
  exact ⟨rfl, HBE.out⟩
theorem walk (c d : Conf) (a : Int) (w : World) (h : (Lit.int .u8 a).wf = true) : Calls Try.prog 14 #[c.val, d.val, .int .u8 a] w fun e w' => e = .returned (.bool true) ∧ Below w.heap.size w w' := by
  have h2 := rg8 h
  obtain ⟨k, rfl⟩ : ∃ k : Nat, a = (k : Int) := ⟨a.toNat, by omega⟩
  exact walkN c d k (by omega) w
end Go.Proofs.Ytoinjnocopejjaa.roomLarger
