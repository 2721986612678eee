/- CallLarger: its walk. -/
import Derived.Test.YtkgdmdcnhbaidaaDoorMX
import Derived.Test.YtkgdmdcnhbaidaaDoorWK
namespace Go.Proofs.YtkgdmdcnhbaidaaDoor
open Go.ChangeShapes Go.WideShapes Go.ChangeAt Go.RowKit
set_option linter.unusedVariables false
set_option linter.unusedSimpArgs false

set_option maxRecDepth 100000 in
set_option maxHeartbeats 16000000 in
theorem larger_walk (c d : Conf) (kn : Nat) (tx : Int) (ke en va : ByteArray) (li : Int) (eg : Nat) (W : World) (hx : COk (kn, tx, ke, en, va, li, eg)) (hg : Gl W) : Calls Tryd.prog 8 #[c.val, d.val, clV (kn, tx, ke, en, va, li, eg)] W fun e w' => e = .returned (.bool true) ∧ Below W.heap.size W w' := by
  show Calls Tryd.prog 8 #[.agg #[.int .i64 c.ta, .int .i64 c.ac, .int .i64 c.ke, .int .i64 c.de, .int .i64 c.ts, .int .i64 c.kl, .int .i64 c.vl, .int .i64 c.fa], .agg #[.int .i64 d.ta, .int .i64 d.ac, .int .i64 d.ke, .int .i64 d.de, .int .i64 d.ts, .int .i64 d.kl, .int .i64 d.vl, .int .i64 d.fa], .agg #[.int .u8 (kn : Int), .int .i64 tx, .string ke, .string en, .string va, .int .i64 li, .int .u8 (eg : Int)]] W _
  have b1 : Below W.heap.size W (W.alloc (.cells #[.int .i64 c.ta, .int .i64 c.ac, .int .i64 c.ke, .int .i64 c.de, .int .i64 c.ts, .int .i64 c.kl, .int .i64 c.vl, .int .i64 c.fa] 52)) := (Below.refl _ _).alloc (Nat.le_refl _) _
  have b2 : Below (W.alloc (.cells #[.int .i64 c.ta, .int .i64 c.ac, .int .i64 c.ke, .int .i64 c.de, .int .i64 c.ts, .int .i64 c.kl, .int .i64 c.vl, .int .i64 c.fa] 52)).heap.size (W.alloc (.cells #[.int .i64 c.ta, .int .i64 c.ac, .int .i64 c.ke, .int .i64 c.de, .int .i64 c.ts, .int .i64 c.kl, .int .i64 c.vl, .int .i64 c.fa] 52)) ((W.alloc (.cells #[.int .i64 c.ta, .int .i64 c.ac, .int .i64 c.ke, .int .i64 c.de, .int .i64 c.ts, .int .i64 c.kl, .int .i64 c.vl, .int .i64 c.fa] 52)).alloc (.cells #[.int .i64 d.ta, .int .i64 d.ac, .int .i64 d.ke, .int .i64 d.de, .int .i64 d.ts, .int .i64 d.kl, .int .i64 d.vl, .int .i64 d.fa] 52)) := (Below.refl _ _).alloc (Nat.le_refl _) _
  have b3 : Below ((W.alloc (.cells #[.int .i64 c.ta, .int .i64 c.ac, .int .i64 c.ke, .int .i64 c.de, .int .i64 c.ts, .int .i64 c.kl, .int .i64 c.vl, .int .i64 c.fa] 52)).alloc (.cells #[.int .i64 d.ta, .int .i64 d.ac, .int .i64 d.ke, .int .i64 d.de, .int .i64 d.ts, .int .i64 d.kl, .int .i64 d.vl, .int .i64 d.fa] 52)).heap.size ((W.alloc (.cells #[.int .i64 c.ta, .int .i64 c.ac, .int .i64 c.ke, .int .i64 c.de, .int .i64 c.ts, .int .i64 c.kl, .int .i64 c.vl, .int .i64 c.fa] 52)).alloc (.cells #[.int .i64 d.ta, .int .i64 d.ac, .int .i64 d.ke, .int .i64 d.de, .int .i64 d.ts, .int .i64 d.kl, .int .i64 d.vl, .int .i64 d.fa] 52)) (((W.alloc (.cells #[.int .i64 c.ta, .int .i64 c.ac, .int .i64 c.ke, .int .i64 c.de, .int .i64 c.ts, .int .i64 c.kl, .int .i64 c.vl, .int .i64 c.fa] 52)).alloc (.cells #[.int .i64 d.ta, .int .i64 d.ac, .int .i64 d.ke, .int .i64 d.de, .int .i64 d.ts, .int .i64 d.kl, .int .i64 d.vl, .int .i64 d.fa] 52)).alloc (.cells #[.int .u8 (kn : Int), .int .i64 tx, .string ke, .string en, .string va, .int .i64 li, .int .u8 (eg : Int)] 24)) := (Below.refl _ _).alloc (Nat.le_refl _) _
  have HC : Hid (Blk (((W.alloc (.cells #[.int .i64 c.ta, .int .i64 c.ac, .int .i64 c.ke, .int .i64 c.de, .int .i64 c.ts, .int .i64 c.kl, .int .i64 c.vl, .int .i64 c.fa] 52)).alloc (.cells #[.int .i64 d.ta, .int .i64 d.ac, .int .i64 d.ke, .int .i64 d.de, .int .i64 d.ts, .int .i64 d.kl, .int .i64 d.vl, .int .i64 d.fa] 52)).alloc (.cells #[.int .u8 (kn : Int), .int .i64 tx, .string ke, .string en, .string va, .int .i64 li, .int .u8 (eg : Int)] 24)) W.heap.size #[.int .i64 c.ta, .int .i64 c.ac, .int .i64 c.ke, .int .i64 c.de, .int .i64 c.ts, .int .i64 c.kl, .int .i64 c.vl, .int .i64 c.fa] 52) := ((Blk.new _ _ _).later b2).later b3
  have HD : Hid (Blk (((W.alloc (.cells #[.int .i64 c.ta, .int .i64 c.ac, .int .i64 c.ke, .int .i64 c.de, .int .i64 c.ts, .int .i64 c.kl, .int .i64 c.vl, .int .i64 c.fa] 52)).alloc (.cells #[.int .i64 d.ta, .int .i64 d.ac, .int .i64 d.ke, .int .i64 d.de, .int .i64 d.ts, .int .i64 d.kl, .int .i64 d.vl, .int .i64 d.fa] 52)).alloc (.cells #[.int .u8 (kn : Int), .int .i64 tx, .string ke, .string en, .string va, .int .i64 li, .int .u8 (eg : Int)] 24)) (W.alloc (.cells #[.int .i64 c.ta, .int .i64 c.ac, .int .i64 c.ke, .int .i64 c.de, .int .i64 c.ts, .int .i64 c.kl, .int .i64 c.vl, .int .i64 c.fa] 52)).heap.size #[.int .i64 d.ta, .int .i64 d.ac, .int .i64 d.ke, .int .i64 d.de, .int .i64 d.ts, .int .i64 d.kl, .int .i64 d.vl, .int .i64 d.fa] 52) := (Blk.new _ _ _).later b3
  have HX : Hid (Blk (((W.alloc (.cells #[.int .i64 c.ta, .int .i64 c.ac, .int .i64 c.ke, .int .i64 c.de, .int .i64 c.ts, .int .i64 c.kl, .int .i64 c.vl, .int .i64 c.fa] 52)).alloc (.cells #[.int .i64 d.ta, .int .i64 d.ac, .int .i64 d.ke, .int .i64 d.de, .int .i64 d.ts, .int .i64 d.kl, .int .i64 d.vl, .int .i64 d.fa] 52)).alloc (.cells #[.int .u8 (kn : Int), .int .i64 tx, .string ke, .string en, .string va, .int .i64 li, .int .u8 (eg : Int)] 24)) ((W.alloc (.cells #[.int .i64 c.ta, .int .i64 c.ac, .int .i64 c.ke, .int .i64 c.de, .int .i64 c.ts, .int .i64 c.kl, .int .i64 c.vl, .int .i64 c.fa] 52)).alloc (.cells #[.int .i64 d.ta, .int .i64 d.ac, .int .i64 d.ke, .int .i64 d.de, .int .i64 d.ts, .int .i64 d.kl, .int .i64 d.vl, .int .i64 d.fa] 52)).heap.size #[.int .u8 (kn : Int), .int .i64 tx, .string ke, .string en, .string va, .int .i64 li, .int .u8 (eg : Int)] 24) := Blk.new _ _ _
  have s1 : (W.alloc (.cells #[.int .i64 c.ta, .int .i64 c.ac, .int .i64 c.ke, .int .i64 c.de, .int .i64 c.ts, .int .i64 c.kl, .int .i64 c.vl, .int .i64 c.fa] 52)).heap.size = W.heap.size + 1 := Array.size_push _
  have s2 : ((W.alloc (.cells #[.int .i64 c.ta, .int .i64 c.ac, .int .i64 c.ke, .int .i64 c.de, .int .i64 c.ts, .int .i64 c.kl, .int .i64 c.vl, .int .i64 c.fa] 52)).alloc (.cells #[.int .i64 d.ta, .int .i64 d.ac, .int .i64 d.ke, .int .i64 d.de, .int .i64 d.ts, .int .i64 d.kl, .int .i64 d.vl, .int .i64 d.fa] 52)).heap.size = W.heap.size + 2 := by rw [show ((W.alloc (.cells #[.int .i64 c.ta, .int .i64 c.ac, .int .i64 c.ke, .int .i64 c.de, .int .i64 c.ts, .int .i64 c.kl, .int .i64 c.vl, .int .i64 c.fa] 52)).alloc (.cells #[.int .i64 d.ta, .int .i64 d.ac, .int .i64 d.ke, .int .i64 d.de, .int .i64 d.ts, .int .i64 d.kl, .int .i64 d.vl, .int .i64 d.fa] 52)).heap.size = (W.alloc (.cells #[.int .i64 c.ta, .int .i64 c.ac, .int .i64 c.ke, .int .i64 c.de, .int .i64 c.ts, .int .i64 c.kl, .int .i64 c.vl, .int .i64 c.fa] 52)).heap.size + 1 from Array.size_push _, s1]
  rw [s1] at HD
  rw [s2] at HX
  have HB := Lib.hid (stepB (stepB b1 b2) b3)
  have HGW := Lib.hid hg
  have HG := Lib.hid (hg.later HB.out)
  clear hg b1 b2 b3 s1 s2
  go_enter Tryd.func8, Tryd.ntmps8
  go_upto_region 1 with (fail)
  generalize (((W.alloc (.cells #[.int .i64 c.ta, .int .i64 c.ac, .int .i64 c.ke, .int .i64 c.de, .int .i64 c.ts, .int .i64 c.kl, .int .i64 c.vl, .int .i64 c.fa] 52)).alloc (.cells #[.int .i64 d.ta, .int .i64 d.ac, .int .i64 d.ke, .int .i64 d.de, .int .i64 d.ts, .int .i64 d.kl, .int .i64 d.vl, .int .i64 d.fa] 52)).alloc (.cells #[.int .u8 (kn : Int), .int .i64 tx, .string ke, .string en, .string va, .int .i64 li, .int .u8 (eg : Int)] 24)) = w3 at *
  go_wp2_with fail
  refine (works_any w3 HG.out).mono ?_
  rintro e w4 ⟨rfl, hb⟩
  replace HC := Lib.hid (HC.out.later hb)
  replace HD := Lib.hid (HD.out.later hb)
  replace HX := Lib.hid (HX.out.later hb)
  replace HB := Lib.hid (stepB HB.out hb)
  replace HG := Lib.hid (HG.out.later hb)
  clear hb
  have x0 := HX.out.cell 0
  have x1 := HX.out.cell 1
  have x2 := HX.out.cell 2
  have x3 := HX.out.cell 3
  have x4 := HX.out.cell 4
  have x5 := HX.out.cell 5
  have x6 := HX.out.cell 6
  simp only [List.getElem?_toArray, List.getElem?_cons_zero, List.getElem?_cons_succ] at x0 x1 x2 x3 x4 x5 x6
  have hby : Below w4.heap.size w4 (w4.alloc (.cells #[.int .u8 (kn : Int), .int .i64 tx, .string ke, .string en, .string va, .int .i64 li, .int .u8 (eg : Int)] 24)) := (Below.refl _ _).alloc (Nat.le_refl _) _
  have hbs : Blk (w4.alloc (.cells #[.int .u8 (kn : Int), .int .i64 tx, .string ke, .string en, .string va, .int .i64 li, .int .u8 (eg : Int)] 24)) w4.heap.size #[.int .u8 (kn : Int), .int .i64 tx, .string ke, .string en, .string va, .int .i64 li, .int .u8 (eg : Int)] 24 := Blk.new _ _ _
  have HL := Lib.hid (long_any (some ⟨w4.heap.size, 0, none⟩) 1 1 [(kn, tx, ke, en, va, li, eg)] (w4.alloc (.cells #[.int .u8 (kn : Int), .int .i64 tx, .string ke, .string en, .string va, .int .i64 li, .int .u8 (eg : Int)] 24)) (Blk.rsl (enc := clE) (x := (kn, tx, ke, en, va, li, eg)) hbs) (by decide))
  replace HC := Lib.hid (HC.out.later hby)
  replace HD := Lib.hid (HD.out.later hby)
  replace HX := Lib.hid (HX.out.later hby)
  replace HB := Lib.hid (stepB HB.out hby)
  replace HG := Lib.hid (HG.out.later hby)
  clear hby hbs
  go_wp2_with fail
  clear x0 x1 x2 x3 x4 x5 x6
  refine HL.out.mono ?_
  rintro e w5 ⟨rfl, hb⟩
  replace HC := Lib.hid (HC.out.later hb)
  replace HD := Lib.hid (HD.out.later hb)
  replace HX := Lib.hid (HX.out.later hb)
  replace HB := Lib.hid (stepB HB.out hb)
  replace HG := Lib.hid (HG.out.later hb)
  clear hb HL
  cases decide (9000 ≤ lgS [(kn, tx, ke, en, va, li, eg)]) with
  | true =>
    go_wp2_with fail
    refine (works_any w5 HG.out).mono ?_
    rintro e w6 ⟨rfl, hb⟩
    replace HB := Lib.hid (stepB HB.out hb)
    clear hb
    go_wp2
    go_ret
    exact ⟨rfl, HB.out⟩
  | false =>
    go_upto_region 3 with (fail)
    obtain ⟨p3, hp3⟩ : ∃ x, W.heap.size = x := ⟨_, rfl⟩
    have HP3 := Lib.hid hp3
    rw [hp3] at HC HD HX ⊢
    clear hp3
    obtain ⟨p4, hp4⟩ : ∃ x, p3 + 1 = x := ⟨_, rfl⟩
    have HP4 := Lib.hid hp4
    rw [hp4] at HD ⊢
    rw [show p3 + 2 = p4 + 1 by omega] at HX
    clear hp4
    have HNE : Hid (p3 ≠ p4) := Lib.hid (by have := HP4.out; omega)
    refine wp_region_noPanic ?_
    have hbd : Below w5.heap.size w5 w5.drew := Below.drew (Below.refl _ _)
    replace HC := Lib.hid (HC.out.later hbd)
    replace HD := Lib.hid (HD.out.later hbd)
    replace HX := Lib.hid (HX.out.later hbd)
    replace HB := Lib.hid (stepB HB.out hbd)
    replace HG := Lib.hid (HG.out.later hbd)
    clear hbd
    refine wp_region_held_drew (S := fun W => Blk W p3 #[.int .i64 c.ta, .int .i64 c.ac, .int .i64 c.ke, .int .i64 c.de, .int .i64 c.ts, .int .i64 c.kl, .int .i64 c.vl, .int .i64 c.fa] 52) (by kernel_rfl) HC.out (fun hHeld => ?_)
    generalize w5.drew = w6 at *
    refine wpAnyH_take (i := 0) (oi := { dst := some 15, op := Op.fieldAddr 52 (Operand.tmp 3) 5, type := 0, pos := "outright.go:180", after := #[], guard := none }) (v := ?_) rfl (by kernel_rfl) (by kernel_rfl) (by kernel_rfl) (fun _ _ _ h => h) (Or.inl ⟨by rfl, ?_⟩) (by assumption) ?_
    rotate_left
    · intro W hSw
      have k5 := Blk.cell hSw 5
      have k6 := Blk.cell hSw 6
      simp only [List.getElem?_toArray, List.getElem?_cons_zero, List.getElem?_cons_succ] at k5 k6
      go_simp
      try with_reducible rfl
    simp only [Act.put, List.setIfInBounds_toArray, List.set_cons_zero, List.set_cons_succ]
    refine wpAnyH_take (i := 1) (oi := { dst := some 16, op := Op.load 3 (Operand.tmp 15), type := 3, pos := "outright.go:180", after := #[{ on := 0, ground := Ground.data }], guard := none }) (v := ?_) rfl (by kernel_rfl) (by kernel_rfl) (by kernel_rfl) (fun _ _ _ h => h) (Or.inl ⟨by rfl, ?_⟩) (by assumption) ?_
    rotate_left
    · intro W hSw
      have k5 := Blk.cell hSw 5
      have k6 := Blk.cell hSw 6
      simp only [List.getElem?_toArray, List.getElem?_cons_zero, List.getElem?_cons_succ] at k5 k6
      go_simp
      try with_reducible rfl
    simp only [Act.put, List.setIfInBounds_toArray, List.set_cons_zero, List.set_cons_succ]
    refine wpAnyH_take (i := 2) (oi := { dst := some 17, op := Op.fieldAddr 52 (Operand.tmp 4) 5, type := 0, pos := "outright.go:180", after := #[], guard := none }) (v := ?_) rfl (by kernel_rfl) (by kernel_rfl) (by kernel_rfl) (fun _ _ _ h => h) (Or.inl ⟨by rfl, ?_⟩) (by assumption) ?_
    rotate_left
    · intro W hSw
      have k5 := Blk.cell hSw 5
      have k6 := Blk.cell hSw 6
      simp only [List.getElem?_toArray, List.getElem?_cons_zero, List.getElem?_cons_succ] at k5 k6
      go_simp
      try with_reducible rfl
    simp only [Act.put, List.setIfInBounds_toArray, List.set_cons_zero, List.set_cons_succ]
    refine wpAnyH_take (i := 5) (oi := { dst := some 20, op := Op.fieldAddr 52 (Operand.tmp 3) 6, type := 0, pos := "outright.go:180", after := #[], guard := none }) (v := ?_) rfl (by kernel_rfl) (by kernel_rfl) (by kernel_rfl) (fun _ _ _ h => h) (Or.inl ⟨by rfl, ?_⟩) (by assumption) ?_
    rotate_left
    · intro W hSw
      have k5 := Blk.cell hSw 5
      have k6 := Blk.cell hSw 6
      simp only [List.getElem?_toArray, List.getElem?_cons_zero, List.getElem?_cons_succ] at k5 k6
      go_simp
      try with_reducible rfl
    simp only [Act.put, List.setIfInBounds_toArray, List.set_cons_zero, List.set_cons_succ]
    refine wpAnyH_take (i := 6) (oi := { dst := some 21, op := Op.load 3 (Operand.tmp 20), type := 3, pos := "outright.go:180", after := #[{ on := 5, ground := Ground.data }], guard := none }) (v := ?_) rfl (by kernel_rfl) (by kernel_rfl) (by kernel_rfl) (fun _ _ _ h => h) (Or.inl ⟨by rfl, ?_⟩) (by assumption) ?_
    rotate_left
    · intro W hSw
      have k5 := Blk.cell hSw 5
      have k6 := Blk.cell hSw 6
      simp only [List.getElem?_toArray, List.getElem?_cons_zero, List.getElem?_cons_succ] at k5 k6
      go_simp
      try with_reducible rfl
    simp only [Act.put, List.setIfInBounds_toArray, List.set_cons_zero, List.set_cons_succ]
    refine wpAnyH_take (i := 7) (oi := { dst := some 22, op := Op.fieldAddr 52 (Operand.tmp 4) 6, type := 0, pos := "outright.go:180", after := #[], guard := none }) (v := ?_) rfl (by kernel_rfl) (by kernel_rfl) (by kernel_rfl) (fun _ _ _ h => h) (Or.inl ⟨by rfl, ?_⟩) (by assumption) ?_
    rotate_left
    · intro W hSw
      have k5 := Blk.cell hSw 5
      have k6 := Blk.cell hSw 6
      simp only [List.getElem?_toArray, List.getElem?_cons_zero, List.getElem?_cons_succ] at k5 k6
      go_simp
      try with_reducible rfl
    simp only [Act.put, List.setIfInBounds_toArray, List.set_cons_zero, List.set_cons_succ]
    have d5 := HD.out.cell 5
    have d6 := HD.out.cell 6
    simp only [List.getElem?_toArray, List.getElem?_cons_zero, List.getElem?_cons_succ] at d5 d6
    refine wpAnyH_ready (rs := [3, 8]) (by kernel_rfl) (by simp) (AllReadyH.cons (o := { dst := some 18, op := Op.load 3 (Operand.tmp 17), type := 3, pos := "outright.go:180", after := #[{ on := 2, ground := Ground.data }], guard := none }) rfl (fun K hK => ?_) (AllReadyH.cons (o := { dst := some 23, op := Op.load 3 (Operand.tmp 22), type := 3, pos := "outright.go:180", after := #[{ on := 7, ground := Ground.data }], guard := none }) rfl (fun K hK => ?_) AllReadyH.nil))
    focus (
      go_simp
      refine hK.out _ _ HC.out (fun hH2 => ?_)
      clear hK K
      refine wpAnyH_take (i := 4) (oi := { dst := some 19, op := Op.call { callee := Callee.builtin Builtin.max, args := #[Operand.tmp 16, Operand.tmp 18], argTypes := #[3, 3] }, type := 3, pos := "outright.go:180", after := #[{ on := 1, ground := Ground.data }, { on := 3, ground := Ground.data }], guard := none }) (v := ?_) rfl (by kernel_rfl) (by kernel_rfl) (by kernel_rfl) (fun _ _ _ h => h) (Or.inl ⟨by rfl, ?_⟩) (by assumption) ?_
      rotate_left
      · intro W hSw
        clear hSw
        go_simp
        try with_reducible rfl
      simp only [Act.put, List.setIfInBounds_toArray, List.set_cons_zero, List.set_cons_succ]
      refine wpAnyH_ready (rs := [8]) (by kernel_rfl) (by simp) (AllReadyH.cons (o := { dst := some 23, op := Op.load 3 (Operand.tmp 22), type := 3, pos := "outright.go:180", after := #[{ on := 7, ground := Ground.data }], guard := none }) rfl (fun K hK => ?_) AllReadyH.nil)
      go_simp
      refine hK.out _ _ HC.out (fun hH3 => ?_)
      clear hK K
      refine wpAnyH_take (i := 9) (oi := { dst := some 24, op := Op.call { callee := Callee.builtin Builtin.max, args := #[Operand.tmp 21, Operand.tmp 23], argTypes := #[3, 3] }, type := 3, pos := "outright.go:180", after := #[{ on := 6, ground := Ground.data }, { on := 8, ground := Ground.data }], guard := none }) (v := ?_) rfl (by kernel_rfl) (by kernel_rfl) (by kernel_rfl) (fun _ _ _ h => h) (Or.inl ⟨by rfl, ?_⟩) (by assumption) ?_
      rotate_left
      · intro W hSw
        clear hSw
        go_simp
        try with_reducible rfl
      simp only [Act.put, List.setIfInBounds_toArray, List.set_cons_zero, List.set_cons_succ]
      refine wpAnyH_take (i := 10) (oi := { dst := some 25, op := Op.fieldAddr 52 (Operand.tmp 4) 5, type := 0, pos := "outright.go:180", after := #[{ on := 0, ground := Ground.phase }, { on := 1, ground := Ground.phase }, { on := 2, ground := Ground.phase }, { on := 3, ground := Ground.phase }, { on := 4, ground := Ground.phase }, { on := 5, ground := Ground.textOnly Departure.lateStores }, { on := 6, ground := Ground.textOnly Departure.lateStores }, { on := 7, ground := Ground.phase }, { on := 8, ground := Ground.phase }, { on := 9, ground := Ground.textOnly Departure.lateStoresUnsure }], guard := none }) (v := ?_) rfl (by kernel_rfl) (by kernel_rfl) (by kernel_rfl) (fun _ _ _ h => h) (Or.inl ⟨by rfl, ?_⟩) (by assumption) ?_
      rotate_left
      · intro W hSw
        clear hSw
        go_simp
        try with_reducible rfl
      simp only [Act.put, List.setIfInBounds_toArray, List.set_cons_zero, List.set_cons_succ]
      have f5 := HD.out.frozen 5
      refine wpAnyH_ready (rs := [11]) (by kernel_rfl) (by simp) (AllReadyH.cons (o := { dst := none, op := Op.store 3 (Operand.tmp 25) (Operand.tmp 19), type := 0, pos := "outright.go:180", after := #[{ on := 10, ground := Ground.data }, { on := 4, ground := Ground.data }, { on := 0, ground := Ground.phase }, { on := 1, ground := Ground.phase }, { on := 2, ground := Ground.phase }, { on := 3, ground := Ground.phase }, { on := 4, ground := Ground.phase }, { on := 5, ground := Ground.textOnly Departure.lateStores }, { on := 6, ground := Ground.textOnly Departure.lateStores }, { on := 7, ground := Ground.phase }, { on := 8, ground := Ground.phase }, { on := 9, ground := Ground.textOnly Departure.lateStoresUnsure }], guard := none }) rfl (fun K hK => ?_) AllReadyH.nil)
      go_simp
      have HD1 : Hid (Blk (w6.setCell ⟨p4, 5, none⟩ (.int .i64 (max c.kl d.kl))) p4 #[.int .i64 d.ta, .int .i64 d.ac, .int .i64 d.ke, .int .i64 d.de, .int .i64 d.ts, .int .i64 (max c.kl d.kl), .int .i64 d.vl, .int .i64 d.fa] 52) := HD.out.set (j := 5) (.int .i64 (max c.kl d.kl))
      have HC1 := Lib.hid (HC.out.other (j := 5) HNE.out (.int .i64 (max c.kl d.kl)))
      refine hK.out _ _ HC1.out (fun hH4 => ?_)
      clear hK K d5 d6 f5
      have d6 := HD1.out.cell 6
      have f6 := HD1.out.frozen 6
      simp only [List.getElem?_toArray, List.getElem?_cons_zero, List.getElem?_cons_succ] at d6
      refine wpAnyH_take (i := 12) (oi := { dst := some 26, op := Op.fieldAddr 52 (Operand.tmp 4) 6, type := 0, pos := "outright.go:180", after := #[{ on := 0, ground := Ground.phase }, { on := 1, ground := Ground.phase }, { on := 2, ground := Ground.phase }, { on := 3, ground := Ground.phase }, { on := 4, ground := Ground.phase }, { on := 5, ground := Ground.phase }, { on := 6, ground := Ground.phase }, { on := 7, ground := Ground.phase }, { on := 8, ground := Ground.phase }, { on := 9, ground := Ground.phase }, { on := 10, ground := Ground.phase }, { on := 11, ground := Ground.phase }], guard := none }) (v := ?_) rfl (by kernel_rfl) (by kernel_rfl) (by kernel_rfl) (fun _ _ _ h => h) (Or.inl ⟨by rfl, ?_⟩) (by assumption) ?_
      rotate_left
      · intro W hSw
        clear hSw
        go_simp
        try with_reducible rfl
      simp only [Act.put, List.setIfInBounds_toArray, List.set_cons_zero, List.set_cons_succ]
      refine wpAnyH_ready (rs := [13]) (by kernel_rfl) (by simp) (AllReadyH.cons (o := { dst := none, op := Op.store 3 (Operand.tmp 26) (Operand.tmp 24), type := 0, pos := "outright.go:180", after := #[{ on := 12, ground := Ground.data }, { on := 9, ground := Ground.data }, { on := 11, ground := Ground.chain }, { on := 0, ground := Ground.phase }, { on := 1, ground := Ground.phase }, { on := 2, ground := Ground.phase }, { on := 3, ground := Ground.phase }, { on := 4, ground := Ground.phase }, { on := 5, ground := Ground.phase }, { on := 6, ground := Ground.phase }, { on := 7, ground := Ground.phase }, { on := 8, ground := Ground.phase }, { on := 9, ground := Ground.phase }, { on := 10, ground := Ground.phase }, { on := 11, ground := Ground.phase }], guard := none }) rfl (fun K hK => ?_) AllReadyH.nil)
      go_simp
      have HC2 := Lib.hid (HC1.out.other (j := 6) HNE.out (.int .i64 (max c.vl d.vl)))
      refine hK.out _ _ HC2.out (fun hH5 => ?_)
      clear hK K d6 f6
      refine wpAnyH_done (by kernel_rfl) (NoPanic.normal ?_) _)
    rotate_left
    focus (
      go_simp
      refine hK.out _ _ HC.out (fun hH2 => ?_)
      clear hK K
      refine wpAnyH_take (i := 9) (oi := { dst := some 24, op := Op.call { callee := Callee.builtin Builtin.max, args := #[Operand.tmp 21, Operand.tmp 23], argTypes := #[3, 3] }, type := 3, pos := "outright.go:180", after := #[{ on := 6, ground := Ground.data }, { on := 8, ground := Ground.data }], guard := none }) (v := ?_) rfl (by kernel_rfl) (by kernel_rfl) (by kernel_rfl) (fun _ _ _ h => h) (Or.inl ⟨by rfl, ?_⟩) (by assumption) ?_
      rotate_left
      · intro W hSw
        clear hSw
        go_simp
        try with_reducible rfl
      simp only [Act.put, List.setIfInBounds_toArray, List.set_cons_zero, List.set_cons_succ]
      refine wpAnyH_ready (rs := [3]) (by kernel_rfl) (by simp) (AllReadyH.cons (o := { dst := some 18, op := Op.load 3 (Operand.tmp 17), type := 3, pos := "outright.go:180", after := #[{ on := 2, ground := Ground.data }], guard := none }) rfl (fun K hK => ?_) AllReadyH.nil)
      go_simp
      refine hK.out _ _ HC.out (fun hH3 => ?_)
      clear hK K
      refine wpAnyH_take (i := 4) (oi := { dst := some 19, op := Op.call { callee := Callee.builtin Builtin.max, args := #[Operand.tmp 16, Operand.tmp 18], argTypes := #[3, 3] }, type := 3, pos := "outright.go:180", after := #[{ on := 1, ground := Ground.data }, { on := 3, ground := Ground.data }], guard := none }) (v := ?_) rfl (by kernel_rfl) (by kernel_rfl) (by kernel_rfl) (fun _ _ _ h => h) (Or.inl ⟨by rfl, ?_⟩) (by assumption) ?_
      rotate_left
      · intro W hSw
        clear hSw
        go_simp
        try with_reducible rfl
      simp only [Act.put, List.setIfInBounds_toArray, List.set_cons_zero, List.set_cons_succ]
      refine wpAnyH_take (i := 10) (oi := { dst := some 25, op := Op.fieldAddr 52 (Operand.tmp 4) 5, type := 0, pos := "outright.go:180", after := #[{ on := 0, ground := Ground.phase }, { on := 1, ground := Ground.phase }, { on := 2, ground := Ground.phase }, { on := 3, ground := Ground.phase }, { on := 4, ground := Ground.phase }, { on := 5, ground := Ground.textOnly Departure.lateStores }, { on := 6, ground := Ground.textOnly Departure.lateStores }, { on := 7, ground := Ground.phase }, { on := 8, ground := Ground.phase }, { on := 9, ground := Ground.textOnly Departure.lateStoresUnsure }], guard := none }) (v := ?_) rfl (by kernel_rfl) (by kernel_rfl) (by kernel_rfl) (fun _ _ _ h => h) (Or.inl ⟨by rfl, ?_⟩) (by assumption) ?_
      rotate_left
      · intro W hSw
        clear hSw
        go_simp
        try with_reducible rfl
      simp only [Act.put, List.setIfInBounds_toArray, List.set_cons_zero, List.set_cons_succ]
      have f5 := HD.out.frozen 5
      refine wpAnyH_ready (rs := [11]) (by kernel_rfl) (by simp) (AllReadyH.cons (o := { dst := none, op := Op.store 3 (Operand.tmp 25) (Operand.tmp 19), type := 0, pos := "outright.go:180", after := #[{ on := 10, ground := Ground.data }, { on := 4, ground := Ground.data }, { on := 0, ground := Ground.phase }, { on := 1, ground := Ground.phase }, { on := 2, ground := Ground.phase }, { on := 3, ground := Ground.phase }, { on := 4, ground := Ground.phase }, { on := 5, ground := Ground.textOnly Departure.lateStores }, { on := 6, ground := Ground.textOnly Departure.lateStores }, { on := 7, ground := Ground.phase }, { on := 8, ground := Ground.phase }, { on := 9, ground := Ground.textOnly Departure.lateStoresUnsure }], guard := none }) rfl (fun K hK => ?_) AllReadyH.nil)
      go_simp
      have HD1 : Hid (Blk (w6.setCell ⟨p4, 5, none⟩ (.int .i64 (max c.kl d.kl))) p4 #[.int .i64 d.ta, .int .i64 d.ac, .int .i64 d.ke, .int .i64 d.de, .int .i64 d.ts, .int .i64 (max c.kl d.kl), .int .i64 d.vl, .int .i64 d.fa] 52) := HD.out.set (j := 5) (.int .i64 (max c.kl d.kl))
      have HC1 := Lib.hid (HC.out.other (j := 5) HNE.out (.int .i64 (max c.kl d.kl)))
      refine hK.out _ _ HC1.out (fun hH4 => ?_)
      clear hK K d5 d6 f5
      have d6 := HD1.out.cell 6
      have f6 := HD1.out.frozen 6
      simp only [List.getElem?_toArray, List.getElem?_cons_zero, List.getElem?_cons_succ] at d6
      refine wpAnyH_take (i := 12) (oi := { dst := some 26, op := Op.fieldAddr 52 (Operand.tmp 4) 6, type := 0, pos := "outright.go:180", after := #[{ on := 0, ground := Ground.phase }, { on := 1, ground := Ground.phase }, { on := 2, ground := Ground.phase }, { on := 3, ground := Ground.phase }, { on := 4, ground := Ground.phase }, { on := 5, ground := Ground.phase }, { on := 6, ground := Ground.phase }, { on := 7, ground := Ground.phase }, { on := 8, ground := Ground.phase }, { on := 9, ground := Ground.phase }, { on := 10, ground := Ground.phase }, { on := 11, ground := Ground.phase }], guard := none }) (v := ?_) rfl (by kernel_rfl) (by kernel_rfl) (by kernel_rfl) (fun _ _ _ h => h) (Or.inl ⟨by rfl, ?_⟩) (by assumption) ?_
      rotate_left
      · intro W hSw
        clear hSw
        go_simp
        try with_reducible rfl
      simp only [Act.put, List.setIfInBounds_toArray, List.set_cons_zero, List.set_cons_succ]
      refine wpAnyH_ready (rs := [13]) (by kernel_rfl) (by simp) (AllReadyH.cons (o := { dst := none, op := Op.store 3 (Operand.tmp 26) (Operand.tmp 24), type := 0, pos := "outright.go:180", after := #[{ on := 12, ground := Ground.data }, { on := 9, ground := Ground.data }, { on := 11, ground := Ground.chain }, { on := 0, ground := Ground.phase }, { on := 1, ground := Ground.phase }, { on := 2, ground := Ground.phase }, { on := 3, ground := Ground.phase }, { on := 4, ground := Ground.phase }, { on := 5, ground := Ground.phase }, { on := 6, ground := Ground.phase }, { on := 7, ground := Ground.phase }, { on := 8, ground := Ground.phase }, { on := 9, ground := Ground.phase }, { on := 10, ground := Ground.phase }, { on := 11, ground := Ground.phase }], guard := none }) rfl (fun K hK => ?_) AllReadyH.nil)
      go_simp
      have HC2 := Lib.hid (HC1.out.other (j := 6) HNE.out (.int .i64 (max c.vl d.vl)))
      refine hK.out _ _ HC2.out (fun hH5 => ?_)
      clear hK K d6 f6
      refine wpAnyH_done (by kernel_rfl) (NoPanic.normal ?_) _)
    all_goals (
      have HP3W : Hid (W.heap.size ≤ p4) := Lib.hid (by have h1 := HP3.out; have h2 := HP4.out; omega)
      have HD2 : Hid (Blk ((w6.setCell ⟨p4, 5, none⟩ (.int .i64 (max c.kl d.kl))).setCell ⟨p4, 6, none⟩ (.int .i64 (max c.vl d.vl))) p4 #[.int .i64 d.ta, .int .i64 d.ac, .int .i64 d.ke, .int .i64 d.de, .int .i64 d.ts, .int .i64 (max c.kl d.kl), .int .i64 (max c.vl d.vl), .int .i64 d.fa] 52) := HD1.out.set (j := 6) (.int .i64 (max c.vl d.vl))
      have HX2 := Lib.hid ((HX.out.other (j := 5) (show p4 + 1 ≠ p4 by omega) (.int .i64 (max c.kl d.kl))).other (j := 6) (show p4 + 1 ≠ p4 by omega) (.int .i64 (max c.vl d.vl)))
      have HB2 := Lib.hid ((HB.out.setCell (p := ⟨p4, 5, none⟩) HP3W.out (.int .i64 (max c.kl d.kl))).setCell (p := ⟨p4, 6, none⟩) HP3W.out (.int .i64 (max c.vl d.vl)))
      clear HC HD HX HB HG HD1 HC1 hH5 hHeld
      generalize (w6.setCell ⟨p4, 5, none⟩ (.int .i64 (max c.kl d.kl))).setCell ⟨p4, 6, none⟩ (.int .i64 (max c.vl d.vl)) = w7 at *
      go_upto_region 4 with (fail)
      refine wp_region_noPanic ?_
      have hbd : Below w7.heap.size w7 w7.drew := Below.drew (Below.refl _ _)
      replace HC2 := Lib.hid (HC2.out.later hbd)
      replace HD2 := Lib.hid (HD2.out.later hbd)
      replace HX2 := Lib.hid (HX2.out.later hbd)
      replace HB2 := Lib.hid (stepB HB2.out hbd)
      clear hbd
      refine wp_region_held_drew (S := fun W => Blk W p3 #[.int .i64 c.ta, .int .i64 c.ac, .int .i64 c.ke, .int .i64 c.de, .int .i64 c.ts, .int .i64 c.kl, .int .i64 c.vl, .int .i64 c.fa] 52) (by kernel_rfl) HC2.out (fun hHeld => ?_)
      generalize w7.drew = v0 at *
      refine wpAnyH_take (i := 0) (oi := { dst := some 27, op := Op.fieldAddr 52 (Operand.tmp 3) 0, type := 0, pos := "outright.go:181", after := #[], guard := none }) (v := ?_) rfl (by kernel_rfl) (by kernel_rfl) (by kernel_rfl) (fun _ _ _ h => h) (Or.inl ⟨by rfl, ?_⟩) (by assumption) ?_
      rotate_left
      · intro W hSw
        have k0 := Blk.cell hSw 0
        have k1 := Blk.cell hSw 1
        have k2 := Blk.cell hSw 2
        have k3 := Blk.cell hSw 3
        have k4 := Blk.cell hSw 4
        have k7 := Blk.cell hSw 7
        simp only [List.getElem?_toArray, List.getElem?_cons_zero, List.getElem?_cons_succ] at k0 k1 k2 k3 k4 k7
        go_simp
        try with_reducible rfl
      simp only [Act.put, List.setIfInBounds_toArray, List.set_cons_zero, List.set_cons_succ]
      refine wpAnyH_take (i := 1) (oi := { dst := some 28, op := Op.load 3 (Operand.tmp 27), type := 3, pos := "outright.go:181", after := #[{ on := 0, ground := Ground.data }], guard := none }) (v := ?_) rfl (by kernel_rfl) (by kernel_rfl) (by kernel_rfl) (fun _ _ _ h => h) (Or.inl ⟨by rfl, ?_⟩) (by assumption) ?_
      rotate_left
      · intro W hSw
        have k0 := Blk.cell hSw 0
        have k1 := Blk.cell hSw 1
        have k2 := Blk.cell hSw 2
        have k3 := Blk.cell hSw 3
        have k4 := Blk.cell hSw 4
        have k7 := Blk.cell hSw 7
        simp only [List.getElem?_toArray, List.getElem?_cons_zero, List.getElem?_cons_succ] at k0 k1 k2 k3 k4 k7
        go_simp
        try with_reducible rfl
      simp only [Act.put, List.setIfInBounds_toArray, List.set_cons_zero, List.set_cons_succ]
      refine wpAnyH_take (i := 2) (oi := { dst := some 29, op := Op.fieldAddr 52 (Operand.tmp 3) 1, type := 0, pos := "outright.go:181", after := #[{ on := 13, ground := Ground.gcOnly Departure.lateStores }], guard := none }) (v := ?_) rfl (by kernel_rfl) (by kernel_rfl) (by kernel_rfl) (fun _ _ _ h => h) (Or.inl ⟨by rfl, ?_⟩) (by assumption) ?_
      rotate_left
      · intro W hSw
        have k0 := Blk.cell hSw 0
        have k1 := Blk.cell hSw 1
        have k2 := Blk.cell hSw 2
        have k3 := Blk.cell hSw 3
        have k4 := Blk.cell hSw 4
        have k7 := Blk.cell hSw 7
        simp only [List.getElem?_toArray, List.getElem?_cons_zero, List.getElem?_cons_succ] at k0 k1 k2 k3 k4 k7
        go_simp
        try with_reducible rfl
      simp only [Act.put, List.setIfInBounds_toArray, List.set_cons_zero, List.set_cons_succ]
      refine wpAnyH_take (i := 3) (oi := { dst := some 30, op := Op.load 3 (Operand.tmp 29), type := 3, pos := "outright.go:181", after := #[{ on := 2, ground := Ground.data }, { on := 13, ground := Ground.gcOnly Departure.lateStores }], guard := none }) (v := ?_) rfl (by kernel_rfl) (by kernel_rfl) (by kernel_rfl) (fun _ _ _ h => h) (Or.inl ⟨by rfl, ?_⟩) (by assumption) ?_
      rotate_left
      · intro W hSw
        have k0 := Blk.cell hSw 0
        have k1 := Blk.cell hSw 1
        have k2 := Blk.cell hSw 2
        have k3 := Blk.cell hSw 3
        have k4 := Blk.cell hSw 4
        have k7 := Blk.cell hSw 7
        simp only [List.getElem?_toArray, List.getElem?_cons_zero, List.getElem?_cons_succ] at k0 k1 k2 k3 k4 k7
        go_simp
        try with_reducible rfl
      simp only [Act.put, List.setIfInBounds_toArray, List.set_cons_zero, List.set_cons_succ]
      refine wpAnyH_take (i := 4) (oi := { dst := some 31, op := Op.fieldAddr 52 (Operand.tmp 3) 2, type := 0, pos := "outright.go:181", after := #[{ on := 15, ground := Ground.gcOnly Departure.lateStores }], guard := none }) (v := ?_) rfl (by kernel_rfl) (by kernel_rfl) (by kernel_rfl) (fun _ _ _ h => h) (Or.inl ⟨by rfl, ?_⟩) (by assumption) ?_
      rotate_left
      · intro W hSw
        have k0 := Blk.cell hSw 0
        have k1 := Blk.cell hSw 1
        have k2 := Blk.cell hSw 2
        have k3 := Blk.cell hSw 3
        have k4 := Blk.cell hSw 4
        have k7 := Blk.cell hSw 7
        simp only [List.getElem?_toArray, List.getElem?_cons_zero, List.getElem?_cons_succ] at k0 k1 k2 k3 k4 k7
        go_simp
        try with_reducible rfl
      simp only [Act.put, List.setIfInBounds_toArray, List.set_cons_zero, List.set_cons_succ]
      refine wpAnyH_take (i := 5) (oi := { dst := some 32, op := Op.load 3 (Operand.tmp 31), type := 3, pos := "outright.go:181", after := #[{ on := 4, ground := Ground.data }, { on := 15, ground := Ground.gcOnly Departure.lateStores }], guard := none }) (v := ?_) rfl (by kernel_rfl) (by kernel_rfl) (by kernel_rfl) (fun _ _ _ h => h) (Or.inl ⟨by rfl, ?_⟩) (by assumption) ?_
      rotate_left
      · intro W hSw
        have k0 := Blk.cell hSw 0
        have k1 := Blk.cell hSw 1
        have k2 := Blk.cell hSw 2
        have k3 := Blk.cell hSw 3
        have k4 := Blk.cell hSw 4
        have k7 := Blk.cell hSw 7
        simp only [List.getElem?_toArray, List.getElem?_cons_zero, List.getElem?_cons_succ] at k0 k1 k2 k3 k4 k7
        go_simp
        try with_reducible rfl
      simp only [Act.put, List.setIfInBounds_toArray, List.set_cons_zero, List.set_cons_succ]
      refine wpAnyH_take (i := 6) (oi := { dst := some 33, op := Op.fieldAddr 52 (Operand.tmp 3) 3, type := 0, pos := "outright.go:181", after := #[{ on := 17, ground := Ground.gcOnly Departure.lateStores }], guard := none }) (v := ?_) rfl (by kernel_rfl) (by kernel_rfl) (by kernel_rfl) (fun _ _ _ h => h) (Or.inl ⟨by rfl, ?_⟩) (by assumption) ?_
      rotate_left
      · intro W hSw
        have k0 := Blk.cell hSw 0
        have k1 := Blk.cell hSw 1
        have k2 := Blk.cell hSw 2
        have k3 := Blk.cell hSw 3
        have k4 := Blk.cell hSw 4
        have k7 := Blk.cell hSw 7
        simp only [List.getElem?_toArray, List.getElem?_cons_zero, List.getElem?_cons_succ] at k0 k1 k2 k3 k4 k7
        go_simp
        try with_reducible rfl
      simp only [Act.put, List.setIfInBounds_toArray, List.set_cons_zero, List.set_cons_succ]
      refine wpAnyH_take (i := 7) (oi := { dst := some 34, op := Op.load 3 (Operand.tmp 33), type := 3, pos := "outright.go:181", after := #[{ on := 6, ground := Ground.data }, { on := 17, ground := Ground.gcOnly Departure.lateStores }], guard := none }) (v := ?_) rfl (by kernel_rfl) (by kernel_rfl) (by kernel_rfl) (fun _ _ _ h => h) (Or.inl ⟨by rfl, ?_⟩) (by assumption) ?_
      rotate_left
      · intro W hSw
        have k0 := Blk.cell hSw 0
        have k1 := Blk.cell hSw 1
        have k2 := Blk.cell hSw 2
        have k3 := Blk.cell hSw 3
        have k4 := Blk.cell hSw 4
        have k7 := Blk.cell hSw 7
        simp only [List.getElem?_toArray, List.getElem?_cons_zero, List.getElem?_cons_succ] at k0 k1 k2 k3 k4 k7
        go_simp
        try with_reducible rfl
      simp only [Act.put, List.setIfInBounds_toArray, List.set_cons_zero, List.set_cons_succ]
      refine wpAnyH_take (i := 8) (oi := { dst := some 35, op := Op.fieldAddr 52 (Operand.tmp 3) 4, type := 0, pos := "outright.go:181", after := #[{ on := 19, ground := Ground.gcOnly Departure.lateStores }], guard := none }) (v := ?_) rfl (by kernel_rfl) (by kernel_rfl) (by kernel_rfl) (fun _ _ _ h => h) (Or.inl ⟨by rfl, ?_⟩) (by assumption) ?_
      rotate_left
      · intro W hSw
        have k0 := Blk.cell hSw 0
        have k1 := Blk.cell hSw 1
        have k2 := Blk.cell hSw 2
        have k3 := Blk.cell hSw 3
        have k4 := Blk.cell hSw 4
        have k7 := Blk.cell hSw 7
        simp only [List.getElem?_toArray, List.getElem?_cons_zero, List.getElem?_cons_succ] at k0 k1 k2 k3 k4 k7
        go_simp
        try with_reducible rfl
      simp only [Act.put, List.setIfInBounds_toArray, List.set_cons_zero, List.set_cons_succ]
      refine wpAnyH_take (i := 9) (oi := { dst := some 36, op := Op.load 3 (Operand.tmp 35), type := 3, pos := "outright.go:181", after := #[{ on := 8, ground := Ground.data }, { on := 19, ground := Ground.gcOnly Departure.lateStores }], guard := none }) (v := ?_) rfl (by kernel_rfl) (by kernel_rfl) (by kernel_rfl) (fun _ _ _ h => h) (Or.inl ⟨by rfl, ?_⟩) (by assumption) ?_
      rotate_left
      · intro W hSw
        have k0 := Blk.cell hSw 0
        have k1 := Blk.cell hSw 1
        have k2 := Blk.cell hSw 2
        have k3 := Blk.cell hSw 3
        have k4 := Blk.cell hSw 4
        have k7 := Blk.cell hSw 7
        simp only [List.getElem?_toArray, List.getElem?_cons_zero, List.getElem?_cons_succ] at k0 k1 k2 k3 k4 k7
        go_simp
        try with_reducible rfl
      simp only [Act.put, List.setIfInBounds_toArray, List.set_cons_zero, List.set_cons_succ]
      refine wpAnyH_take (i := 10) (oi := { dst := some 37, op := Op.fieldAddr 52 (Operand.tmp 3) 7, type := 0, pos := "outright.go:181", after := #[{ on := 21, ground := Ground.gcOnly Departure.lateStores }], guard := none }) (v := ?_) rfl (by kernel_rfl) (by kernel_rfl) (by kernel_rfl) (fun _ _ _ h => h) (Or.inl ⟨by rfl, ?_⟩) (by assumption) ?_
      rotate_left
      · intro W hSw
        have k0 := Blk.cell hSw 0
        have k1 := Blk.cell hSw 1
        have k2 := Blk.cell hSw 2
        have k3 := Blk.cell hSw 3
        have k4 := Blk.cell hSw 4
        have k7 := Blk.cell hSw 7
        simp only [List.getElem?_toArray, List.getElem?_cons_zero, List.getElem?_cons_succ] at k0 k1 k2 k3 k4 k7
        go_simp
        try with_reducible rfl
      simp only [Act.put, List.setIfInBounds_toArray, List.set_cons_zero, List.set_cons_succ]
      refine wpAnyH_take (i := 11) (oi := { dst := some 38, op := Op.load 3 (Operand.tmp 37), type := 3, pos := "outright.go:181", after := #[{ on := 10, ground := Ground.data }, { on := 21, ground := Ground.gcOnly Departure.lateStores }], guard := none }) (v := ?_) rfl (by kernel_rfl) (by kernel_rfl) (by kernel_rfl) (fun _ _ _ h => h) (Or.inl ⟨by rfl, ?_⟩) (by assumption) ?_
      rotate_left
      · intro W hSw
        have k0 := Blk.cell hSw 0
        have k1 := Blk.cell hSw 1
        have k2 := Blk.cell hSw 2
        have k3 := Blk.cell hSw 3
        have k4 := Blk.cell hSw 4
        have k7 := Blk.cell hSw 7
        simp only [List.getElem?_toArray, List.getElem?_cons_zero, List.getElem?_cons_succ] at k0 k1 k2 k3 k4 k7
        go_simp
        try with_reducible rfl
      simp only [Act.put, List.setIfInBounds_toArray, List.set_cons_zero, List.set_cons_succ]
      refine wpAnyH_take (i := 12) (oi := { dst := some 39, op := Op.fieldAddr 52 (Operand.tmp 4) 0, type := 0, pos := "outright.go:181", after := #[{ on := 0, ground := Ground.phase }, { on := 1, ground := Ground.phase }, { on := 2, ground := Ground.textOnly Departure.lateStores }, { on := 3, ground := Ground.textOnly Departure.lateStores }, { on := 4, ground := Ground.textOnly Departure.lateStores }, { on := 5, ground := Ground.textOnly Departure.lateStores }, { on := 6, ground := Ground.textOnly Departure.lateStores }, { on := 7, ground := Ground.textOnly Departure.lateStores }, { on := 8, ground := Ground.textOnly Departure.lateStores }, { on := 9, ground := Ground.textOnly Departure.lateStores }, { on := 10, ground := Ground.textOnly Departure.lateStores }, { on := 11, ground := Ground.textOnly Departure.lateStores }], guard := none }) (v := ?_) rfl (by kernel_rfl) (by kernel_rfl) (by kernel_rfl) (fun _ _ _ h => h) (Or.inl ⟨by rfl, ?_⟩) (by assumption) ?_
      rotate_left
      · intro W hSw
        clear hSw
        go_simp
        try with_reducible rfl
      simp only [Act.put, List.setIfInBounds_toArray, List.set_cons_zero, List.set_cons_succ]
      have g0 := HD2.out.cell 0
      have f0 := HD2.out.frozen 0
      simp only [List.getElem?_toArray, List.getElem?_cons_zero, List.getElem?_cons_succ] at g0
      refine wpAnyH_ready (rs := [13]) (by kernel_rfl) (by simp) (AllReadyH.cons (o := { dst := none, op := Op.store 3 (Operand.tmp 39) (Operand.tmp 28), type := 0, pos := "outright.go:181", after := #[{ on := 12, ground := Ground.data }, { on := 1, ground := Ground.data }, { on := 0, ground := Ground.phase }, { on := 1, ground := Ground.phase }, { on := 2, ground := Ground.textOnly Departure.lateStores }, { on := 3, ground := Ground.textOnly Departure.lateStores }, { on := 4, ground := Ground.textOnly Departure.lateStores }, { on := 5, ground := Ground.textOnly Departure.lateStores }, { on := 6, ground := Ground.textOnly Departure.lateStores }, { on := 7, ground := Ground.textOnly Departure.lateStores }, { on := 8, ground := Ground.textOnly Departure.lateStores }, { on := 9, ground := Ground.textOnly Departure.lateStores }, { on := 10, ground := Ground.textOnly Departure.lateStores }, { on := 11, ground := Ground.textOnly Departure.lateStores }], guard := none }) rfl (fun K hK => ?_) AllReadyH.nil)
      go_simp
      have hd2 : Blk (v0.setCell ⟨p4, 0, none⟩ (.int .i64 c.ta)) p4 #[.int .i64 c.ta, .int .i64 d.ac, .int .i64 d.ke, .int .i64 d.de, .int .i64 d.ts, .int .i64 (max c.kl d.kl), .int .i64 (max c.vl d.vl), .int .i64 d.fa] 52 := HD2.out.set (j := 0) (.int .i64 c.ta)
      replace HD2 := Lib.hid hd2
      replace HC2 := Lib.hid (HC2.out.other (j := 0) HNE.out (.int .i64 c.ta))
      replace HX2 := Lib.hid (HX2.out.other (j := 0) (show p4 + 1 ≠ p4 by omega) (.int .i64 c.ta))
      replace HB2 := Lib.hid (HB2.out.setCell (p := ⟨p4, 0, none⟩) HP3W.out (.int .i64 c.ta))
      refine hK.out _ _ HC2.out (fun hH => ?_)
      clear hK K g0 f0 hd2
      try clear hHeld
      have hHeld := hH
      clear hH
      generalize v0.setCell ⟨p4, 0, none⟩ (.int .i64 c.ta) = v1 at *
      refine wpAnyH_take (i := 14) (oi := { dst := some 40, op := Op.fieldAddr 52 (Operand.tmp 4) 1, type := 0, pos := "outright.go:181", after := #[{ on := 0, ground := Ground.phase }, { on := 1, ground := Ground.phase }, { on := 2, ground := Ground.phase }, { on := 3, ground := Ground.phase }, { on := 4, ground := Ground.textOnly Departure.lateStores }, { on := 5, ground := Ground.textOnly Departure.lateStores }, { on := 6, ground := Ground.textOnly Departure.lateStores }, { on := 7, ground := Ground.textOnly Departure.lateStores }, { on := 8, ground := Ground.textOnly Departure.lateStores }, { on := 9, ground := Ground.textOnly Departure.lateStores }, { on := 10, ground := Ground.textOnly Departure.lateStores }, { on := 11, ground := Ground.textOnly Departure.lateStores }, { on := 12, ground := Ground.phase }, { on := 13, ground := Ground.phase }], guard := none }) (v := ?_) rfl (by kernel_rfl) (by kernel_rfl) (by kernel_rfl) (fun _ _ _ h => h) (Or.inl ⟨by rfl, ?_⟩) (by assumption) ?_
      rotate_left
      · intro W hSw
        clear hSw
        go_simp
        try with_reducible rfl
      simp only [Act.put, List.setIfInBounds_toArray, List.set_cons_zero, List.set_cons_succ]
      have g0 := HD2.out.cell 1
      have f0 := HD2.out.frozen 1
      simp only [List.getElem?_toArray, List.getElem?_cons_zero, List.getElem?_cons_succ] at g0
      refine wpAnyH_ready (rs := [15]) (by kernel_rfl) (by simp) (AllReadyH.cons (o := { dst := none, op := Op.store 3 (Operand.tmp 40) (Operand.tmp 30), type := 0, pos := "outright.go:181", after := #[{ on := 14, ground := Ground.data }, { on := 3, ground := Ground.data }, { on := 13, ground := Ground.chain }, { on := 0, ground := Ground.phase }, { on := 1, ground := Ground.phase }, { on := 2, ground := Ground.phase }, { on := 3, ground := Ground.phase }, { on := 4, ground := Ground.textOnly Departure.lateStores }, { on := 5, ground := Ground.textOnly Departure.lateStores }, { on := 6, ground := Ground.textOnly Departure.lateStores }, { on := 7, ground := Ground.textOnly Departure.lateStores }, { on := 8, ground := Ground.textOnly Departure.lateStores }, { on := 9, ground := Ground.textOnly Departure.lateStores }, { on := 10, ground := Ground.textOnly Departure.lateStores }, { on := 11, ground := Ground.textOnly Departure.lateStores }, { on := 12, ground := Ground.phase }, { on := 13, ground := Ground.phase }], guard := none }) rfl (fun K hK => ?_) AllReadyH.nil)
      go_simp
      have hd2 : Blk (v1.setCell ⟨p4, 1, none⟩ (.int .i64 c.ac)) p4 #[.int .i64 c.ta, .int .i64 c.ac, .int .i64 d.ke, .int .i64 d.de, .int .i64 d.ts, .int .i64 (max c.kl d.kl), .int .i64 (max c.vl d.vl), .int .i64 d.fa] 52 := HD2.out.set (j := 1) (.int .i64 c.ac)
      replace HD2 := Lib.hid hd2
      replace HC2 := Lib.hid (HC2.out.other (j := 1) HNE.out (.int .i64 c.ac))
      replace HX2 := Lib.hid (HX2.out.other (j := 1) (show p4 + 1 ≠ p4 by omega) (.int .i64 c.ac))
      replace HB2 := Lib.hid (HB2.out.setCell (p := ⟨p4, 1, none⟩) HP3W.out (.int .i64 c.ac))
      refine hK.out _ _ HC2.out (fun hH => ?_)
      clear hK K g0 f0 hd2
      try clear hHeld
      have hHeld := hH
      clear hH
      generalize v1.setCell ⟨p4, 1, none⟩ (.int .i64 c.ac) = v2 at *
      refine wpAnyH_take (i := 16) (oi := { dst := some 41, op := Op.fieldAddr 52 (Operand.tmp 4) 2, type := 0, pos := "outright.go:181", after := #[{ on := 0, ground := Ground.phase }, { on := 1, ground := Ground.phase }, { on := 2, ground := Ground.phase }, { on := 3, ground := Ground.phase }, { on := 4, ground := Ground.phase }, { on := 5, ground := Ground.phase }, { on := 6, ground := Ground.textOnly Departure.lateStores }, { on := 7, ground := Ground.textOnly Departure.lateStores }, { on := 8, ground := Ground.textOnly Departure.lateStores }, { on := 9, ground := Ground.textOnly Departure.lateStores }, { on := 10, ground := Ground.textOnly Departure.lateStores }, { on := 11, ground := Ground.textOnly Departure.lateStores }, { on := 12, ground := Ground.phase }, { on := 13, ground := Ground.phase }, { on := 14, ground := Ground.phase }, { on := 15, ground := Ground.phase }], guard := none }) (v := ?_) rfl (by kernel_rfl) (by kernel_rfl) (by kernel_rfl) (fun _ _ _ h => h) (Or.inl ⟨by rfl, ?_⟩) (by assumption) ?_
      rotate_left
      · intro W hSw
        clear hSw
        go_simp
        try with_reducible rfl
      simp only [Act.put, List.setIfInBounds_toArray, List.set_cons_zero, List.set_cons_succ]
      have g0 := HD2.out.cell 2
      have f0 := HD2.out.frozen 2
      simp only [List.getElem?_toArray, List.getElem?_cons_zero, List.getElem?_cons_succ] at g0
      refine wpAnyH_ready (rs := [17]) (by kernel_rfl) (by simp) (AllReadyH.cons (o := { dst := none, op := Op.store 3 (Operand.tmp 41) (Operand.tmp 32), type := 0, pos := "outright.go:181", after := #[{ on := 16, ground := Ground.data }, { on := 5, ground := Ground.data }, { on := 15, ground := Ground.chain }, { on := 0, ground := Ground.phase }, { on := 1, ground := Ground.phase }, { on := 2, ground := Ground.phase }, { on := 3, ground := Ground.phase }, { on := 4, ground := Ground.phase }, { on := 5, ground := Ground.phase }, { on := 6, ground := Ground.textOnly Departure.lateStores }, { on := 7, ground := Ground.textOnly Departure.lateStores }, { on := 8, ground := Ground.textOnly Departure.lateStores }, { on := 9, ground := Ground.textOnly Departure.lateStores }, { on := 10, ground := Ground.textOnly Departure.lateStores }, { on := 11, ground := Ground.textOnly Departure.lateStores }, { on := 12, ground := Ground.phase }, { on := 13, ground := Ground.phase }, { on := 14, ground := Ground.phase }, { on := 15, ground := Ground.phase }], guard := none }) rfl (fun K hK => ?_) AllReadyH.nil)
      go_simp
      have hd2 : Blk (v2.setCell ⟨p4, 2, none⟩ (.int .i64 c.ke)) p4 #[.int .i64 c.ta, .int .i64 c.ac, .int .i64 c.ke, .int .i64 d.de, .int .i64 d.ts, .int .i64 (max c.kl d.kl), .int .i64 (max c.vl d.vl), .int .i64 d.fa] 52 := HD2.out.set (j := 2) (.int .i64 c.ke)
      replace HD2 := Lib.hid hd2
      replace HC2 := Lib.hid (HC2.out.other (j := 2) HNE.out (.int .i64 c.ke))
      replace HX2 := Lib.hid (HX2.out.other (j := 2) (show p4 + 1 ≠ p4 by omega) (.int .i64 c.ke))
      replace HB2 := Lib.hid (HB2.out.setCell (p := ⟨p4, 2, none⟩) HP3W.out (.int .i64 c.ke))
      refine hK.out _ _ HC2.out (fun hH => ?_)
      clear hK K g0 f0 hd2
      try clear hHeld
      have hHeld := hH
      clear hH
      generalize v2.setCell ⟨p4, 2, none⟩ (.int .i64 c.ke) = v3 at *
      refine wpAnyH_take (i := 18) (oi := { dst := some 42, op := Op.fieldAddr 52 (Operand.tmp 4) 3, type := 0, pos := "outright.go:181", after := #[{ on := 0, ground := Ground.phase }, { on := 1, ground := Ground.phase }, { on := 2, ground := Ground.phase }, { on := 3, ground := Ground.phase }, { on := 4, ground := Ground.phase }, { on := 5, ground := Ground.phase }, { on := 6, ground := Ground.phase }, { on := 7, ground := Ground.phase }, { on := 8, ground := Ground.textOnly Departure.lateStores }, { on := 9, ground := Ground.textOnly Departure.lateStores }, { on := 10, ground := Ground.textOnly Departure.lateStores }, { on := 11, ground := Ground.textOnly Departure.lateStores }, { on := 12, ground := Ground.phase }, { on := 13, ground := Ground.phase }, { on := 14, ground := Ground.phase }, { on := 15, ground := Ground.phase }, { on := 16, ground := Ground.phase }, { on := 17, ground := Ground.phase }], guard := none }) (v := ?_) rfl (by kernel_rfl) (by kernel_rfl) (by kernel_rfl) (fun _ _ _ h => h) (Or.inl ⟨by rfl, ?_⟩) (by assumption) ?_
      rotate_left
      · intro W hSw
        clear hSw
        go_simp
        try with_reducible rfl
      simp only [Act.put, List.setIfInBounds_toArray, List.set_cons_zero, List.set_cons_succ]
      have g0 := HD2.out.cell 3
      have f0 := HD2.out.frozen 3
      simp only [List.getElem?_toArray, List.getElem?_cons_zero, List.getElem?_cons_succ] at g0
      refine wpAnyH_ready (rs := [19]) (by kernel_rfl) (by simp) (AllReadyH.cons (o := { dst := none, op := Op.store 3 (Operand.tmp 42) (Operand.tmp 34), type := 0, pos := "outright.go:181", after := #[{ on := 18, ground := Ground.data }, { on := 7, ground := Ground.data }, { on := 17, ground := Ground.chain }, { on := 0, ground := Ground.phase }, { on := 1, ground := Ground.phase }, { on := 2, ground := Ground.phase }, { on := 3, ground := Ground.phase }, { on := 4, ground := Ground.phase }, { on := 5, ground := Ground.phase }, { on := 6, ground := Ground.phase }, { on := 7, ground := Ground.phase }, { on := 8, ground := Ground.textOnly Departure.lateStores }, { on := 9, ground := Ground.textOnly Departure.lateStores }, { on := 10, ground := Ground.textOnly Departure.lateStores }, { on := 11, ground := Ground.textOnly Departure.lateStores }, { on := 12, ground := Ground.phase }, { on := 13, ground := Ground.phase }, { on := 14, ground := Ground.phase }, { on := 15, ground := Ground.phase }, { on := 16, ground := Ground.phase }, { on := 17, ground := Ground.phase }], guard := none }) rfl (fun K hK => ?_) AllReadyH.nil)
      go_simp
      have hd2 : Blk (v3.setCell ⟨p4, 3, none⟩ (.int .i64 c.de)) p4 #[.int .i64 c.ta, .int .i64 c.ac, .int .i64 c.ke, .int .i64 c.de, .int .i64 d.ts, .int .i64 (max c.kl d.kl), .int .i64 (max c.vl d.vl), .int .i64 d.fa] 52 := HD2.out.set (j := 3) (.int .i64 c.de)
      replace HD2 := Lib.hid hd2
      replace HC2 := Lib.hid (HC2.out.other (j := 3) HNE.out (.int .i64 c.de))
      replace HX2 := Lib.hid (HX2.out.other (j := 3) (show p4 + 1 ≠ p4 by omega) (.int .i64 c.de))
      replace HB2 := Lib.hid (HB2.out.setCell (p := ⟨p4, 3, none⟩) HP3W.out (.int .i64 c.de))
      refine hK.out _ _ HC2.out (fun hH => ?_)
      clear hK K g0 f0 hd2
      try clear hHeld
      have hHeld := hH
      clear hH
      generalize v3.setCell ⟨p4, 3, none⟩ (.int .i64 c.de) = v4 at *
      refine wpAnyH_take (i := 20) (oi := { dst := some 43, op := Op.fieldAddr 52 (Operand.tmp 4) 4, type := 0, pos := "outright.go:181", after := #[{ on := 0, ground := Ground.phase }, { on := 1, ground := Ground.phase }, { on := 2, ground := Ground.phase }, { on := 3, ground := Ground.phase }, { on := 4, ground := Ground.phase }, { on := 5, ground := Ground.phase }, { on := 6, ground := Ground.phase }, { on := 7, ground := Ground.phase }, { on := 8, ground := Ground.phase }, { on := 9, ground := Ground.phase }, { on := 10, ground := Ground.textOnly Departure.lateStores }, { on := 11, ground := Ground.textOnly Departure.lateStores }, { on := 12, ground := Ground.phase }, { on := 13, ground := Ground.phase }, { on := 14, ground := Ground.phase }, { on := 15, ground := Ground.phase }, { on := 16, ground := Ground.phase }, { on := 17, ground := Ground.phase }, { on := 18, ground := Ground.phase }, { on := 19, ground := Ground.phase }], guard := none }) (v := ?_) rfl (by kernel_rfl) (by kernel_rfl) (by kernel_rfl) (fun _ _ _ h => h) (Or.inl ⟨by rfl, ?_⟩) (by assumption) ?_
      rotate_left
      · intro W hSw
        clear hSw
        go_simp
        try with_reducible rfl
      simp only [Act.put, List.setIfInBounds_toArray, List.set_cons_zero, List.set_cons_succ]
      have g0 := HD2.out.cell 4
      have f0 := HD2.out.frozen 4
      simp only [List.getElem?_toArray, List.getElem?_cons_zero, List.getElem?_cons_succ] at g0
      refine wpAnyH_ready (rs := [21]) (by kernel_rfl) (by simp) (AllReadyH.cons (o := { dst := none, op := Op.store 3 (Operand.tmp 43) (Operand.tmp 36), type := 0, pos := "outright.go:181", after := #[{ on := 20, ground := Ground.data }, { on := 9, ground := Ground.data }, { on := 19, ground := Ground.chain }, { on := 0, ground := Ground.phase }, { on := 1, ground := Ground.phase }, { on := 2, ground := Ground.phase }, { on := 3, ground := Ground.phase }, { on := 4, ground := Ground.phase }, { on := 5, ground := Ground.phase }, { on := 6, ground := Ground.phase }, { on := 7, ground := Ground.phase }, { on := 8, ground := Ground.phase }, { on := 9, ground := Ground.phase }, { on := 10, ground := Ground.textOnly Departure.lateStores }, { on := 11, ground := Ground.textOnly Departure.lateStores }, { on := 12, ground := Ground.phase }, { on := 13, ground := Ground.phase }, { on := 14, ground := Ground.phase }, { on := 15, ground := Ground.phase }, { on := 16, ground := Ground.phase }, { on := 17, ground := Ground.phase }, { on := 18, ground := Ground.phase }, { on := 19, ground := Ground.phase }], guard := none }) rfl (fun K hK => ?_) AllReadyH.nil)
      go_simp
      have hd2 : Blk (v4.setCell ⟨p4, 4, none⟩ (.int .i64 c.ts)) p4 #[.int .i64 c.ta, .int .i64 c.ac, .int .i64 c.ke, .int .i64 c.de, .int .i64 c.ts, .int .i64 (max c.kl d.kl), .int .i64 (max c.vl d.vl), .int .i64 d.fa] 52 := HD2.out.set (j := 4) (.int .i64 c.ts)
      replace HD2 := Lib.hid hd2
      replace HC2 := Lib.hid (HC2.out.other (j := 4) HNE.out (.int .i64 c.ts))
      replace HX2 := Lib.hid (HX2.out.other (j := 4) (show p4 + 1 ≠ p4 by omega) (.int .i64 c.ts))
      replace HB2 := Lib.hid (HB2.out.setCell (p := ⟨p4, 4, none⟩) HP3W.out (.int .i64 c.ts))
      refine hK.out _ _ HC2.out (fun hH => ?_)
      clear hK K g0 f0 hd2
      try clear hHeld
      have hHeld := hH
      clear hH
      generalize v4.setCell ⟨p4, 4, none⟩ (.int .i64 c.ts) = v5 at *
      refine wpAnyH_take (i := 22) (oi := { dst := some 44, op := Op.fieldAddr 52 (Operand.tmp 4) 7, type := 0, pos := "outright.go:181", after := #[{ on := 0, ground := Ground.phase }, { on := 1, ground := Ground.phase }, { on := 2, ground := Ground.phase }, { on := 3, ground := Ground.phase }, { on := 4, ground := Ground.phase }, { on := 5, ground := Ground.phase }, { on := 6, ground := Ground.phase }, { on := 7, ground := Ground.phase }, { on := 8, ground := Ground.phase }, { on := 9, ground := Ground.phase }, { on := 10, ground := Ground.phase }, { on := 11, ground := Ground.phase }, { on := 12, ground := Ground.phase }, { on := 13, ground := Ground.phase }, { on := 14, ground := Ground.phase }, { on := 15, ground := Ground.phase }, { on := 16, ground := Ground.phase }, { on := 17, ground := Ground.phase }, { on := 18, ground := Ground.phase }, { on := 19, ground := Ground.phase }, { on := 20, ground := Ground.phase }, { on := 21, ground := Ground.phase }], guard := none }) (v := ?_) rfl (by kernel_rfl) (by kernel_rfl) (by kernel_rfl) (fun _ _ _ h => h) (Or.inl ⟨by rfl, ?_⟩) (by assumption) ?_
      rotate_left
      · intro W hSw
        clear hSw
        go_simp
        try with_reducible rfl
      simp only [Act.put, List.setIfInBounds_toArray, List.set_cons_zero, List.set_cons_succ]
      have g0 := HD2.out.cell 7
      have f0 := HD2.out.frozen 7
      simp only [List.getElem?_toArray, List.getElem?_cons_zero, List.getElem?_cons_succ] at g0
      refine wpAnyH_ready (rs := [23]) (by kernel_rfl) (by simp) (AllReadyH.cons (o := { dst := none, op := Op.store 3 (Operand.tmp 44) (Operand.tmp 38), type := 0, pos := "outright.go:181", after := #[{ on := 22, ground := Ground.data }, { on := 11, ground := Ground.data }, { on := 21, ground := Ground.chain }, { on := 0, ground := Ground.phase }, { on := 1, ground := Ground.phase }, { on := 2, ground := Ground.phase }, { on := 3, ground := Ground.phase }, { on := 4, ground := Ground.phase }, { on := 5, ground := Ground.phase }, { on := 6, ground := Ground.phase }, { on := 7, ground := Ground.phase }, { on := 8, ground := Ground.phase }, { on := 9, ground := Ground.phase }, { on := 10, ground := Ground.phase }, { on := 11, ground := Ground.phase }, { on := 12, ground := Ground.phase }, { on := 13, ground := Ground.phase }, { on := 14, ground := Ground.phase }, { on := 15, ground := Ground.phase }, { on := 16, ground := Ground.phase }, { on := 17, ground := Ground.phase }, { on := 18, ground := Ground.phase }, { on := 19, ground := Ground.phase }, { on := 20, ground := Ground.phase }, { on := 21, ground := Ground.phase }], guard := none }) rfl (fun K hK => ?_) AllReadyH.nil)
      go_simp
      have hd2 : Blk (v5.setCell ⟨p4, 7, none⟩ (.int .i64 c.fa)) p4 #[.int .i64 c.ta, .int .i64 c.ac, .int .i64 c.ke, .int .i64 c.de, .int .i64 c.ts, .int .i64 (max c.kl d.kl), .int .i64 (max c.vl d.vl), .int .i64 c.fa] 52 := HD2.out.set (j := 7) (.int .i64 c.fa)
      replace HD2 := Lib.hid hd2
      replace HC2 := Lib.hid (HC2.out.other (j := 7) HNE.out (.int .i64 c.fa))
      replace HX2 := Lib.hid (HX2.out.other (j := 7) (show p4 + 1 ≠ p4 by omega) (.int .i64 c.fa))
      replace HB2 := Lib.hid (HB2.out.setCell (p := ⟨p4, 7, none⟩) HP3W.out (.int .i64 c.fa))
      refine hK.out _ _ HC2.out (fun hH => ?_)
      clear hK K g0 f0 hd2
      try clear hHeld
      have hHeld := hH
      clear hH
      generalize v5.setCell ⟨p4, 7, none⟩ (.int .i64 c.fa) = v6 at *
      refine wpAnyH_done (by kernel_rfl) (NoPanic.normal ?_) _
      clear hHeld
      have HGV := Lib.hid (HGW.out.later HB2.out)
      have HF1 : Hid (∀ V, Gl V → Calls Tryd.prog 25 #[.agg #[.int .i64 c.ta, .int .i64 c.ac, .int .i64 c.ke, .int .i64 c.de, .int .i64 c.ts, .int .i64 c.kl, .int .i64 c.vl, .int .i64 c.fa], .agg #[.int .u8 (kn : Int), .int .i64 tx, .string ke, .string en, .string va, .int .i64 li, .int .u8 (eg : Int)]] V fun e w' => e = .returned (.int .i64 (if fitC c (kn, tx, ke, en, va, li, eg) then 0 else 32)) ∧ Below V.heap.size V w') := Lib.hid (fun V h => fits_any c kn tx ke en va li eg V hx.1 hx.2.2.2.2.1 hx.2.2.2.2.2.1 hx.2.2.2.2.2.2 h)
      have HF2 : Hid (∀ V, Gl V → Calls Tryd.prog 25 #[.agg #[.int .i64 c.ta, .int .i64 c.ac, .int .i64 c.ke, .int .i64 c.de, .int .i64 c.ts, .int .i64 (max c.kl d.kl), .int .i64 (max c.vl d.vl), .int .i64 c.fa], .agg #[.int .u8 (kn : Int), .int .i64 tx, .string ke, .string en, .string va, .int .i64 li, .int .u8 (eg : Int)]] V fun e w' => e = .returned (.int .i64 (if fitC (bigC c d) (kn, tx, ke, en, va, li, eg) then 0 else 32)) ∧ Below V.heap.size V w') := Lib.hid (fun V h => fits_any (bigC c d) kn tx ke en va li eg V hx.1 hx.2.2.2.2.1 hx.2.2.2.2.2.1 hx.2.2.2.2.2.2 h)
      go_upto_region 5 with (fail)
      have c0 := HC2.out.cell 0
      have d0 := HD2.out.cell 0
      have c1 := HC2.out.cell 1
      have d1 := HD2.out.cell 1
      have c2 := HC2.out.cell 2
      have d2 := HD2.out.cell 2
      have c3 := HC2.out.cell 3
      have d3 := HD2.out.cell 3
      have c4 := HC2.out.cell 4
      have d4 := HD2.out.cell 4
      have c5 := HC2.out.cell 5
      have d5 := HD2.out.cell 5
      have c6 := HC2.out.cell 6
      have d6 := HD2.out.cell 6
      have c7 := HC2.out.cell 7
      have d7 := HD2.out.cell 7
      have x0 := HX2.out.cell 0
      have x1 := HX2.out.cell 1
      have x2 := HX2.out.cell 2
      have x3 := HX2.out.cell 3
      have x4 := HX2.out.cell 4
      have x5 := HX2.out.cell 5
      have x6 := HX2.out.cell 6
      simp only [List.getElem?_toArray, List.getElem?_cons_zero, List.getElem?_cons_succ] at c0 d0 c1 d1 c2 d2 c3 d3 c4 d4 c5 d5 c6 d6 c7 d7 x0 x1 x2 x3 x4 x5 x6
      by_cases l1 : 64 < max c.kl d.kl
      · have e1 : decide (64 < max c.kl d.kl) = true := decide_eq_true l1
        clear l1
        go_wp2
        go_ret
        exact ⟨rfl, HB2.out⟩
      · have e1 : decide (64 < max c.kl d.kl) = false := decide_eq_false l1
        by_cases l2 : 256 < max c.vl d.vl
        · have e2 : decide (256 < max c.vl d.vl) = true := decide_eq_true l2
          clear l1 l2
          go_wp2
          go_ret
          exact ⟨rfl, HB2.out⟩
        · have e2 : decide (256 < max c.vl d.vl) = false := decide_eq_false l2
          have HIM : Hid (fitC c (kn, tx, ke, en, va, li, eg) = true → fitC (bigC c d) (kn, tx, ke, en, va, li, eg) = true) := Lib.hid (fun h => fit_big h (show max c.kl d.kl ≤ 64 by omega) (show max c.vl d.vl ≤ 256 by omega))
          clear l1 l2
          have hf1 := HF1.out v6 HGV.out
          cases hfc : fitC c (kn, tx, ke, en, va, li, eg) with
          | false =>
            rw [hfc] at hf1
            have HF := Lib.hid hf1
            clear hf1
            go_wp2_with fail
            refine HF.out.mono ?_
            rintro e v7 ⟨rfl, hb⟩
            replace HB2 := Lib.hid (stepB HB2.out hb)
            clear hb
            go_wp2
            go_ret
            exact ⟨rfl, HB2.out⟩
          | true =>
            have hbg := HIM.out hfc
            rw [hfc] at hf1
            have HF := Lib.hid hf1
            clear hf1
            go_wp2_with fail
            refine HF.out.mono ?_
            rintro e v7 ⟨rfl, hb⟩
            have hf2 := HF2.out v7 (HGV.out.later hb)
            rw [hbg] at hf2
            have HFF := Lib.hid hf2
            replace HB2 := Lib.hid (stepB HB2.out hb)
            replace HC2 := Lib.hid (HC2.out.later hb)
            replace HD2 := Lib.hid (HD2.out.later hb)
            replace HX2 := Lib.hid (HX2.out.later hb)
            clear hb hf2
            clear c0 d0 c1 d1 c2 d2 c3 d3 c4 d4 c5 d5 c6 d6 c7 d7 x0 x1 x2 x3 x4 x5 x6
            have c0 := HC2.out.cell 0
            have d0 := HD2.out.cell 0
            have c1 := HC2.out.cell 1
            have d1 := HD2.out.cell 1
            have c2 := HC2.out.cell 2
            have d2 := HD2.out.cell 2
            have c3 := HC2.out.cell 3
            have d3 := HD2.out.cell 3
            have c4 := HC2.out.cell 4
            have d4 := HD2.out.cell 4
            have c5 := HC2.out.cell 5
            have d5 := HD2.out.cell 5
            have c6 := HC2.out.cell 6
            have d6 := HD2.out.cell 6
            have c7 := HC2.out.cell 7
            have d7 := HD2.out.cell 7
            have x0 := HX2.out.cell 0
            have x1 := HX2.out.cell 1
            have x2 := HX2.out.cell 2
            have x3 := HX2.out.cell 3
            have x4 := HX2.out.cell 4
            have x5 := HX2.out.cell 5
            have x6 := HX2.out.cell 6
            simp only [List.getElem?_toArray, List.getElem?_cons_zero, List.getElem?_cons_succ] at c0 d0 c1 d1 c2 d2 c3 d3 c4 d4 c5 d5 c6 d6 c7 d7 x0 x1 x2 x3 x4 x5 x6
            go_wp2_with fail
            refine HFF.out.mono ?_
            rintro e v8 ⟨rfl, hb⟩
            replace HB2 := Lib.hid (stepB HB2.out hb)
            clear hb
            go_wp2
            go_ret
            exact ⟨rfl, HB2.out⟩)
end Go.Proofs.YtkgdmdcnhbaidaaDoor
