/- An event that is none. -/
import Derived.Test.YtoinjnocopejjaaPC
import Derived.StillTailTactics
import Derived.Deep.QuietTactic
import Derived.BigQuiet
namespace Go.Proofs.Ytoinjnocopejjaa
open Go.ChangeShapes Go.WideShapes Go.ChangeAt Go.RowKit Go.Maps
set_option linter.unusedVariables false
set_option linter.unusedSimpArgs false
theorem wanted_f {o : Oper} {ops : Array Oper} {tmps : Array Value} {j d : Nat} {b b' : Bool} {oj : Oper} (h1 : o.guard = some (j, b)) (h2 : ops[j]? = some oj) (h3 : oj.dst = some d) (h4 : tmps[d]? = some (.bool b')) (h5 : b' ≠ b) : Region.wanted o (yielded ops tmps) = false := by
  unfold Region.wanted yielded
  rw [h1]
  simp only [h2, Option.bind_some, h3, h4]
  cases b <;> cases b' <;> first | rfl | exact absurd rfl h5
set_option maxRecDepth 100000 in
set_option maxHeartbeats 1600000 in
theorem take_bad0 {w0 W : World} {b : Nat} {p : Pl} {x : PX} (h : PlAt w0 W b p x) (ta ca er : Int) (fo : Bool) (va : ByteArray) (A : Option Addr) (m cc : Nat) : Calls Try.prog 99 #[.pointer (some ⟨b, 0, none⟩), .agg #[.int .u8 0, .int .i64 ta, .int .i64 ca, .int .i64 er, .bool fo, .string va, .slice A m cc]] W fun e w' => e = .returned (.int .i64 4) ∧ Fw w0 W w' := by
  have hb : Below W.heap.size W (((W.alloc (.cells #[.int .u8 0, .int .i64 ta, .int .i64 ca, .int .i64 er, .bool fo, .string va, .slice A m cc] 89)).alloc (.cells #[.int .i64 0, .bool false, .nilFunc, .int .i64 0, .bool false, .nilFunc, .int .i64 0, .bool false, .nilFunc, .int .i64 0, .bool false, .nilFunc] 180)).setRow (W.heap.size + 1) #[.int .i64 0, .bool false, .nilFunc, .int .i64 0, .bool false, .func (.func 110) #[] #[], .int .i64 1, .bool false, .func (.func 111) #[] #[], .int .i64 2, .bool true, .func (.func 112) #[] #[]]) := below_setRow (((Below.refl _ _).alloc (Nat.le_refl _) _).alloc (by simp) _) (by simp) _
  have HP := Lib.hid (h.later hb)
  have HF := Lib.hid (Fw.of h.bel hb)
  have KZ : Hid (Blk ((W.alloc (.cells #[.int .u8 0, .int .i64 ta, .int .i64 ca, .int .i64 er, .bool fo, .string va, .slice A m cc] 89)).alloc (.cells #[.int .i64 0, .bool false, .nilFunc, .int .i64 0, .bool false, .nilFunc, .int .i64 0, .bool false, .nilFunc, .int .i64 0, .bool false, .nilFunc] 180)) (W.heap.size + 1) #[.int .i64 0, .bool false, .nilFunc, .int .i64 0, .bool false, .nilFunc, .int .i64 0, .bool false, .nilFunc, .int .i64 0, .bool false, .nilFunc] 180) := Lib.hid (Blk.new2 _ _ 180 (by simp))
  have KA : Hid (Blk (((W.alloc (.cells #[.int .u8 0, .int .i64 ta, .int .i64 ca, .int .i64 er, .bool fo, .string va, .slice A m cc] 89)).alloc (.cells #[.int .i64 0, .bool false, .nilFunc, .int .i64 0, .bool false, .nilFunc, .int .i64 0, .bool false, .nilFunc, .int .i64 0, .bool false, .nilFunc] 180)).setRow (W.heap.size + 1) #[.int .i64 0, .bool false, .nilFunc, .int .i64 0, .bool false, .func (.func 110) #[] #[], .int .i64 1, .bool false, .func (.func 111) #[] #[], .int .i64 2, .bool true, .func (.func 112) #[] #[]]) (W.heap.size + 1) #[.int .i64 0, .bool false, .nilFunc, .int .i64 0, .bool false, .func (.func 110) #[] #[], .int .i64 1, .bool false, .func (.func 111) #[] #[], .int .i64 2, .bool true, .func (.func 112) #[] #[]] 180) := Lib.hid (Blk.setRow_self KZ.out)
  have KE : Hid (Blk (((W.alloc (.cells #[.int .u8 0, .int .i64 ta, .int .i64 ca, .int .i64 er, .bool fo, .string va, .slice A m cc] 89)).alloc (.cells #[.int .i64 0, .bool false, .nilFunc, .int .i64 0, .bool false, .nilFunc, .int .i64 0, .bool false, .nilFunc, .int .i64 0, .bool false, .nilFunc] 180)).setRow (W.heap.size + 1) #[.int .i64 0, .bool false, .nilFunc, .int .i64 0, .bool false, .func (.func 110) #[] #[], .int .i64 1, .bool false, .func (.func 111) #[] #[], .int .i64 2, .bool true, .func (.func 112) #[] #[]]) W.heap.size #[.int .u8 0, .int .i64 ta, .int .i64 ca, .int .i64 er, .bool fo, .string va, .slice A m cc] 89) := Lib.hid (((Blk.new W _ 89).alloc _).setRow (by omega))
  clear hb h
  go_enter Try.func99, Try.ntmps99
  go_upto_region 2 with (first | (refine wpList_store_row rfl 180 (.tmp 5) (.tmp 12) rfl (W.heap.size + 1) #[.int .i64 0, .bool false, .nilFunc, .int .i64 0, .bool false, .func (.func 110) #[] #[], .int .i64 1, .bool false, .func (.func 111) #[] #[], .int .i64 2, .bool true, .func (.func 112) #[] #[]] rfl rfl 180 #[.int .i64 0, .bool false, .nilFunc, .int .i64 0, .bool false, .nilFunc, .int .i64 0, .bool false, .nilFunc, .int .i64 0, .bool false, .nilFunc] KZ.out (by kernel_rfl) rfl (by first | rfl | (simp [Value.oneCell']; done)) ?_) | go_in)
  clear KZ
  generalize (((W.alloc (.cells #[.int .u8 0, .int .i64 ta, .int .i64 ca, .int .i64 er, .bool fo, .string va, .slice A m cc] 89)).alloc (.cells #[.int .i64 0, .bool false, .nilFunc, .int .i64 0, .bool false, .nilFunc, .int .i64 0, .bool false, .nilFunc, .int .i64 0, .bool false, .nilFunc] 180)).setRow (W.heap.size + 1) #[.int .i64 0, .bool false, .nilFunc, .int .i64 0, .bool false, .func (.func 110) #[] #[], .int .i64 1, .bool false, .func (.func 111) #[] #[], .int .i64 2, .bool true, .func (.func 112) #[] #[]]) = w2 at *
  obtain ⟨be, hbe⟩ : ∃ z, W.heap.size = z := ⟨_, rfl⟩
  rw [hbe] at KE KA ⊢
  clear hbe
  have e0 := KE.out.cell 0
  have e1 := KE.out.cell 1
  have b1 := HP.out.c0 1
  simp only [plC, List.getElem?_toArray, List.getElem?_cons_zero, List.getElem?_cons_succ] at e0 e1 b1
  clear e0 e1 b1
  refine wp_region_noPanic ?_
  obtain ⟨W0, rfl⟩ : ∃ W0 : World, W0 = w2 := ⟨_, rfl⟩
  refine wp_region_held_drew (S := fun W => Below W0.heap.size W0 W) (by kernel_rfl) (Below.drew (Below.refl _ _)) (fun hHeld => ?_)
  refine tkL 0 ?_ rfl rfl ?_ (fun _ _ _ h => h) (by assumption) (by kernel_rfl) ?_
  rotate_left
  · intro W hSw
    clear hSw
    go_simp
    try with_reducible rfl
  simp only [pu_]
  refine tkL 1 ?_ rfl rfl ?_ (fun _ _ _ h => h) (by assumption) (by kernel_rfl) ?_
  rotate_left
  · intro W hSw
    have e0 := (KE.out.later hSw).cell 0
    have e1 := (KE.out.later hSw).cell 1
    have b1 := (HP.out.later hSw).c0 1
    simp only [plC, List.getElem?_toArray, List.getElem?_cons_zero, List.getElem?_cons_succ] at e0 e1 b1
    clear hSw
    go_simp
    try with_reducible rfl
  simp only [pu_]
  refine tkL 2 ?_ rfl rfl ?_ (fun _ _ _ h => h) (by assumption) (by kernel_rfl) ?_
  rotate_left
  · intro W hSw
    clear hSw
    go_simp
    try with_reducible rfl
  simp only [pu_]
  refine tkL 3 ?_ rfl rfl ?_ (fun _ _ _ h => h) (by assumption) (by kernel_rfl) ?_
  rotate_left
  · intro W hSw
    clear hSw
    go_simp
    try with_reducible rfl
  simp only [pu_]
  refine skL 4 rfl rfl rfl rfl rfl rfl (fun _ _ _ h => h) (by assumption) (by kernel_rfl) ?_
  simp only [pu_]
  refine skL 5 rfl rfl rfl rfl rfl rfl (fun _ _ _ h => h) (by assumption) (by kernel_rfl) ?_
  simp only [pu_]
  refine skL 6 rfl rfl rfl rfl rfl rfl (fun _ _ _ h => h) (by assumption) (by kernel_rfl) ?_
  simp only [pu_]
  refine skL 7 rfl rfl rfl rfl rfl rfl (fun _ _ _ h => h) (by assumption) (by kernel_rfl) ?_
  simp only [pu_]
  refine tkL 8 ?_ rfl rfl ?_ (fun _ _ _ h => h) (by assumption) (by kernel_rfl) ?_
  rotate_left
  · intro W hSw
    clear hSw
    go_simp
    try with_reducible rfl
  simp only [pu_]
  refine tkL 9 ?_ rfl rfl ?_ (fun _ _ _ h => h) (by assumption) (by kernel_rfl) ?_
  rotate_left
  · intro W hSw
    clear hSw
    go_simp
    try with_reducible rfl
  simp only [pu_]
  refine skL 10 rfl rfl rfl rfl rfl rfl (fun _ _ _ h => h) (by assumption) (by kernel_rfl) ?_
  simp only [pu_]
  refine skL 11 rfl rfl rfl rfl rfl rfl (fun _ _ _ h => h) (by assumption) (by kernel_rfl) ?_
  simp only [pu_]
  refine skL 12 rfl rfl rfl rfl rfl rfl (fun _ _ _ h => h) (by assumption) (by kernel_rfl) ?_
  simp only [pu_]
  refine tkL 13 ?_ rfl rfl ?_ (fun _ _ _ h => h) (by assumption) (by kernel_rfl) ?_
  rotate_left
  · intro W hSw
    clear hSw
    go_simp
    try with_reducible rfl
  simp only [pu_]
  refine tkL 14 ?_ rfl rfl ?_ (fun _ _ _ h => h) (by assumption) (by kernel_rfl) ?_
  rotate_left
  · intro W hSw
    clear hSw
    go_simp
    try with_reducible rfl
  simp only [pu_]
  refine skL 15 rfl rfl rfl rfl rfl rfl (fun _ _ _ h => h) (by assumption) (by kernel_rfl) ?_
  simp only [pu_]
  refine skL 16 rfl rfl rfl rfl rfl rfl (fun _ _ _ h => h) (by assumption) (by kernel_rfl) ?_
  simp only [pu_]
  refine skL 17 rfl rfl rfl rfl rfl rfl (fun _ _ _ h => h) (by assumption) (by kernel_rfl) ?_
  simp only [pu_]
  refine skL 18 rfl rfl rfl rfl rfl rfl (fun _ _ _ h => h) (by assumption) (by kernel_rfl) ?_
  simp only [pu_]
  refine skL 19 rfl rfl rfl rfl rfl rfl (fun _ _ _ h => h) (by assumption) (by kernel_rfl) ?_
  simp only [pu_]
  refine skL 20 rfl rfl rfl rfl rfl rfl (fun _ _ _ h => h) (by assumption) (by kernel_rfl) ?_
  simp only [pu_]
  refine skL 21 rfl rfl rfl rfl rfl rfl (fun _ _ _ h => h) (by assumption) (by kernel_rfl) ?_
  simp only [pu_]
  refine skL 22 rfl rfl rfl rfl rfl rfl (fun _ _ _ h => h) (by assumption) (by kernel_rfl) ?_
  simp only [pu_]
  refine tkL 23 ?_ rfl rfl ?_ (fun _ _ _ h => h) (by assumption) (by kernel_rfl) ?_
  rotate_left
  · intro W hSw
    clear hSw
    go_simp
    try with_reducible rfl
  simp only [pu_]
  refine wpAnyH_done (by kernel_rfl) (NoPanic.normal ?_) _
  have HFE := Lib.hid (HF.out.then hHeld)
  clear hHeld
  go_wp2
  go_ret
  exact ⟨rfl, HFE.out⟩
set_option maxRecDepth 100000 in
set_option maxHeartbeats 1600000 in
theorem take_bad4 {w0 W : World} {b : Nat} {p : Pl} {x : PX} (h : PlAt w0 W b p x) (wh ta ca er : Int) (fo : Bool) (va : ByteArray) (A : Option Addr) (m cc : Nat) (hw : 4 ≤ wh ∧ wh ≤ 255) : Calls Try.prog 99 #[.pointer (some ⟨b, 0, none⟩), .agg #[.int .u8 wh, .int .i64 ta, .int .i64 ca, .int .i64 er, .bool fo, .string va, .slice A m cc]] W fun e w' => e = .returned (.int .i64 4) ∧ Fw w0 W w' := by
  have HW := Lib.hid hw
  clear hw
  have hb : Below W.heap.size W (((W.alloc (.cells #[.int .u8 wh, .int .i64 ta, .int .i64 ca, .int .i64 er, .bool fo, .string va, .slice A m cc] 89)).alloc (.cells #[.int .i64 0, .bool false, .nilFunc, .int .i64 0, .bool false, .nilFunc, .int .i64 0, .bool false, .nilFunc, .int .i64 0, .bool false, .nilFunc] 180)).setRow (W.heap.size + 1) #[.int .i64 0, .bool false, .nilFunc, .int .i64 0, .bool false, .func (.func 110) #[] #[], .int .i64 1, .bool false, .func (.func 111) #[] #[], .int .i64 2, .bool true, .func (.func 112) #[] #[]]) := below_setRow (((Below.refl _ _).alloc (Nat.le_refl _) _).alloc (by simp) _) (by simp) _
  have HP := Lib.hid (h.later hb)
  have HF := Lib.hid (Fw.of h.bel hb)
  have KZ : Hid (Blk ((W.alloc (.cells #[.int .u8 wh, .int .i64 ta, .int .i64 ca, .int .i64 er, .bool fo, .string va, .slice A m cc] 89)).alloc (.cells #[.int .i64 0, .bool false, .nilFunc, .int .i64 0, .bool false, .nilFunc, .int .i64 0, .bool false, .nilFunc, .int .i64 0, .bool false, .nilFunc] 180)) (W.heap.size + 1) #[.int .i64 0, .bool false, .nilFunc, .int .i64 0, .bool false, .nilFunc, .int .i64 0, .bool false, .nilFunc, .int .i64 0, .bool false, .nilFunc] 180) := Lib.hid (Blk.new2 _ _ 180 (by simp))
  have KA : Hid (Blk (((W.alloc (.cells #[.int .u8 wh, .int .i64 ta, .int .i64 ca, .int .i64 er, .bool fo, .string va, .slice A m cc] 89)).alloc (.cells #[.int .i64 0, .bool false, .nilFunc, .int .i64 0, .bool false, .nilFunc, .int .i64 0, .bool false, .nilFunc, .int .i64 0, .bool false, .nilFunc] 180)).setRow (W.heap.size + 1) #[.int .i64 0, .bool false, .nilFunc, .int .i64 0, .bool false, .func (.func 110) #[] #[], .int .i64 1, .bool false, .func (.func 111) #[] #[], .int .i64 2, .bool true, .func (.func 112) #[] #[]]) (W.heap.size + 1) #[.int .i64 0, .bool false, .nilFunc, .int .i64 0, .bool false, .func (.func 110) #[] #[], .int .i64 1, .bool false, .func (.func 111) #[] #[], .int .i64 2, .bool true, .func (.func 112) #[] #[]] 180) := Lib.hid (Blk.setRow_self KZ.out)
  have KE : Hid (Blk (((W.alloc (.cells #[.int .u8 wh, .int .i64 ta, .int .i64 ca, .int .i64 er, .bool fo, .string va, .slice A m cc] 89)).alloc (.cells #[.int .i64 0, .bool false, .nilFunc, .int .i64 0, .bool false, .nilFunc, .int .i64 0, .bool false, .nilFunc, .int .i64 0, .bool false, .nilFunc] 180)).setRow (W.heap.size + 1) #[.int .i64 0, .bool false, .nilFunc, .int .i64 0, .bool false, .func (.func 110) #[] #[], .int .i64 1, .bool false, .func (.func 111) #[] #[], .int .i64 2, .bool true, .func (.func 112) #[] #[]]) W.heap.size #[.int .u8 wh, .int .i64 ta, .int .i64 ca, .int .i64 er, .bool fo, .string va, .slice A m cc] 89) := Lib.hid (((Blk.new W _ 89).alloc _).setRow (by omega))
  clear hb h
  go_enter Try.func99, Try.ntmps99
  go_upto_region 2 with (first | (refine wpList_store_row rfl 180 (.tmp 5) (.tmp 12) rfl (W.heap.size + 1) #[.int .i64 0, .bool false, .nilFunc, .int .i64 0, .bool false, .func (.func 110) #[] #[], .int .i64 1, .bool false, .func (.func 111) #[] #[], .int .i64 2, .bool true, .func (.func 112) #[] #[]] rfl rfl 180 #[.int .i64 0, .bool false, .nilFunc, .int .i64 0, .bool false, .nilFunc, .int .i64 0, .bool false, .nilFunc, .int .i64 0, .bool false, .nilFunc] KZ.out (by kernel_rfl) rfl (by first | rfl | (simp [Value.oneCell']; done)) ?_) | go_in)
  clear KZ
  generalize (((W.alloc (.cells #[.int .u8 wh, .int .i64 ta, .int .i64 ca, .int .i64 er, .bool fo, .string va, .slice A m cc] 89)).alloc (.cells #[.int .i64 0, .bool false, .nilFunc, .int .i64 0, .bool false, .nilFunc, .int .i64 0, .bool false, .nilFunc, .int .i64 0, .bool false, .nilFunc] 180)).setRow (W.heap.size + 1) #[.int .i64 0, .bool false, .nilFunc, .int .i64 0, .bool false, .func (.func 110) #[] #[], .int .i64 1, .bool false, .func (.func 111) #[] #[], .int .i64 2, .bool true, .func (.func 112) #[] #[]]) = w2 at *
  obtain ⟨be, hbe⟩ : ∃ z, W.heap.size = z := ⟨_, rfl⟩
  rw [hbe] at KE KA ⊢
  clear hbe
  have e0 := KE.out.cell 0
  have e1 := KE.out.cell 1
  have b1 := HP.out.c0 1
  simp only [plC, List.getElem?_toArray, List.getElem?_cons_zero, List.getElem?_cons_succ] at e0 e1 b1
  have wc : IntKind.i64.wrap wh = wh := IntWalk.i64_in _ (by have := HW.out; omega)
  have wc2 : wrap64 wh = wh := by have := HW.out; unfold wrap64; omega
  have g1 : decide (wh < 1) = false := decide_eq_false (by have := HW.out; omega)
  have g2 : decide (wh ≥ 4) = true := decide_eq_true (by have := HW.out; omega)
  have g2' : decide (4 ≤ wh) = true := decide_eq_true (by have := HW.out; omega)
  clear e0 e1 b1
  refine wp_region_noPanic ?_
  obtain ⟨W0, rfl⟩ : ∃ W0 : World, W0 = w2 := ⟨_, rfl⟩
  refine wp_region_held_drew (S := fun W => Below W0.heap.size W0 W) (by kernel_rfl) (Below.drew (Below.refl _ _)) (fun hHeld => ?_)
  refine tkL 0 ?_ rfl rfl ?_ (fun _ _ _ h => h) (by assumption) (by kernel_rfl) ?_
  rotate_left
  · intro W hSw
    clear hSw
    go_simp
    try with_reducible rfl
  simp only [pu_]
  refine tkL 1 ?_ rfl rfl ?_ (fun _ _ _ h => h) (by assumption) (by kernel_rfl) ?_
  rotate_left
  · intro W hSw
    have e0 := (KE.out.later hSw).cell 0
    have e1 := (KE.out.later hSw).cell 1
    have b1 := (HP.out.later hSw).c0 1
    simp only [plC, List.getElem?_toArray, List.getElem?_cons_zero, List.getElem?_cons_succ] at e0 e1 b1
    clear hSw
    go_simp
    try with_reducible rfl
  simp only [pu_]
  refine tkL 2 ?_ rfl rfl ?_ (fun _ _ _ h => h) (by assumption) (by kernel_rfl) ?_
  rotate_left
  · intro W hSw
    clear hSw
    go_simp
    try with_reducible rfl
  simp only [pu_]
  refine tkL 3 ?_ rfl rfl ?_ (fun _ _ _ h => h) (by assumption) (by kernel_rfl) ?_
  rotate_left
  · intro W hSw
    clear hSw
    go_simp
    try with_reducible rfl
  simp only [pu_]
  refine tkL 4 ?_ rfl rfl ?_ (fun _ _ _ h => h) (by assumption) (by kernel_rfl) ?_
  rotate_left
  · intro W hSw
    clear hSw
    go_simp
    try with_reducible rfl
  simp only [pu_]
  refine tkL 5 ?_ rfl rfl ?_ (fun _ _ _ h => h) (by assumption) (by kernel_rfl) ?_
  rotate_left
  · intro W hSw
    have e0 := (KE.out.later hSw).cell 0
    have e1 := (KE.out.later hSw).cell 1
    have b1 := (HP.out.later hSw).c0 1
    simp only [plC, List.getElem?_toArray, List.getElem?_cons_zero, List.getElem?_cons_succ] at e0 e1 b1
    clear hSw
    go_simp
    try with_reducible rfl
  simp only [pu_]
  refine tkL 6 ?_ rfl rfl ?_ (fun _ _ _ h => h) (by assumption) (by kernel_rfl) ?_
  rotate_left
  · intro W hSw
    clear hSw
    go_simp
    try with_reducible rfl
  simp only [pu_]
  refine tkL 7 ?_ rfl rfl ?_ (fun _ _ _ h => h) (by assumption) (by kernel_rfl) ?_
  rotate_left
  · intro W hSw
    clear hSw
    go_simp
    try with_reducible rfl
  simp only [pu_]
  refine tkL 8 ?_ rfl rfl ?_ (fun _ _ _ h => h) (by assumption) (by kernel_rfl) ?_
  rotate_left
  · intro W hSw
    clear hSw
    go_simp
    try with_reducible rfl
  simp only [pu_]
  refine tkL 9 ?_ rfl rfl ?_ (fun _ _ _ h => h) (by assumption) (by kernel_rfl) ?_
  rotate_left
  · intro W hSw
    clear hSw
    go_simp
    try with_reducible rfl
  simp only [pu_]
  refine skL 10 rfl rfl rfl rfl rfl rfl (fun _ _ _ h => h) (by assumption) (by kernel_rfl) ?_
  simp only [pu_]
  refine skL 11 rfl rfl rfl rfl rfl rfl (fun _ _ _ h => h) (by assumption) (by kernel_rfl) ?_
  simp only [pu_]
  refine skL 12 rfl rfl rfl rfl rfl rfl (fun _ _ _ h => h) (by assumption) (by kernel_rfl) ?_
  simp only [pu_]
  refine tkL 13 ?_ rfl rfl ?_ (fun _ _ _ h => h) (by assumption) (by kernel_rfl) ?_
  rotate_left
  · intro W hSw
    clear hSw
    go_simp
    try with_reducible rfl
  simp only [pu_]
  refine tkL 14 ?_ rfl rfl ?_ (fun _ _ _ h => h) (by assumption) (by kernel_rfl) ?_
  rotate_left
  · intro W hSw
    clear hSw
    go_simp
    try with_reducible rfl
  simp only [pu_]
  refine skL 15 rfl rfl rfl rfl rfl rfl (fun _ _ _ h => h) (by assumption) (by kernel_rfl) ?_
  simp only [pu_]
  refine skL 16 rfl rfl rfl rfl rfl rfl (fun _ _ _ h => h) (by assumption) (by kernel_rfl) ?_
  simp only [pu_]
  refine skL 17 rfl rfl rfl rfl rfl rfl (fun _ _ _ h => h) (by assumption) (by kernel_rfl) ?_
  simp only [pu_]
  refine skL 18 rfl rfl rfl rfl rfl rfl (fun _ _ _ h => h) (by assumption) (by kernel_rfl) ?_
  simp only [pu_]
  refine skL 19 rfl rfl rfl rfl rfl rfl (fun _ _ _ h => h) (by assumption) (by kernel_rfl) ?_
  simp only [pu_]
  refine skL 20 rfl rfl rfl rfl rfl rfl (fun _ _ _ h => h) (by assumption) (by kernel_rfl) ?_
  simp only [pu_]
  refine skL 21 rfl rfl rfl rfl rfl rfl (fun _ _ _ h => h) (by assumption) (by kernel_rfl) ?_
  simp only [pu_]
  refine skL 22 rfl rfl rfl rfl rfl rfl (fun _ _ _ h => h) (by assumption) (by kernel_rfl) ?_
  simp only [pu_]
  refine tkL 23 ?_ rfl rfl ?_ (fun _ _ _ h => h) (by assumption) (by kernel_rfl) ?_
  rotate_left
  · intro W hSw
    clear hSw
    go_simp
    try with_reducible rfl
  simp only [pu_]
  refine wpAnyH_done (by kernel_rfl) (NoPanic.normal ?_) _
  have HFE := Lib.hid (HF.out.then hHeld)
  clear hHeld
  go_wp2
  go_ret
  exact ⟨rfl, HFE.out⟩
set_option maxRecDepth 100000 in
set_option maxHeartbeats 1600000 in
theorem take_badA {w0 W : World} {b : Nat} {p : Pl} {x : PX} (h : PlAt w0 W b p x) (wh ta ca er : Int) (fo : Bool) (va : ByteArray) (A : Option Addr) (m cc : Nat) (hw : 1 ≤ wh ∧ wh ≤ 3) (h3 : ta < 0) : Calls Try.prog 99 #[.pointer (some ⟨b, 0, none⟩), .agg #[.int .u8 wh, .int .i64 ta, .int .i64 ca, .int .i64 er, .bool fo, .string va, .slice A m cc]] W fun e w' => e = .returned (.int .i64 4) ∧ Fw w0 W w' := by
  have HW := Lib.hid hw
  clear hw
  have hb : Below W.heap.size W (((W.alloc (.cells #[.int .u8 wh, .int .i64 ta, .int .i64 ca, .int .i64 er, .bool fo, .string va, .slice A m cc] 89)).alloc (.cells #[.int .i64 0, .bool false, .nilFunc, .int .i64 0, .bool false, .nilFunc, .int .i64 0, .bool false, .nilFunc, .int .i64 0, .bool false, .nilFunc] 180)).setRow (W.heap.size + 1) #[.int .i64 0, .bool false, .nilFunc, .int .i64 0, .bool false, .func (.func 110) #[] #[], .int .i64 1, .bool false, .func (.func 111) #[] #[], .int .i64 2, .bool true, .func (.func 112) #[] #[]]) := below_setRow (((Below.refl _ _).alloc (Nat.le_refl _) _).alloc (by simp) _) (by simp) _
  have HP := Lib.hid (h.later hb)
  have HF := Lib.hid (Fw.of h.bel hb)
  have KZ : Hid (Blk ((W.alloc (.cells #[.int .u8 wh, .int .i64 ta, .int .i64 ca, .int .i64 er, .bool fo, .string va, .slice A m cc] 89)).alloc (.cells #[.int .i64 0, .bool false, .nilFunc, .int .i64 0, .bool false, .nilFunc, .int .i64 0, .bool false, .nilFunc, .int .i64 0, .bool false, .nilFunc] 180)) (W.heap.size + 1) #[.int .i64 0, .bool false, .nilFunc, .int .i64 0, .bool false, .nilFunc, .int .i64 0, .bool false, .nilFunc, .int .i64 0, .bool false, .nilFunc] 180) := Lib.hid (Blk.new2 _ _ 180 (by simp))
  have KA : Hid (Blk (((W.alloc (.cells #[.int .u8 wh, .int .i64 ta, .int .i64 ca, .int .i64 er, .bool fo, .string va, .slice A m cc] 89)).alloc (.cells #[.int .i64 0, .bool false, .nilFunc, .int .i64 0, .bool false, .nilFunc, .int .i64 0, .bool false, .nilFunc, .int .i64 0, .bool false, .nilFunc] 180)).setRow (W.heap.size + 1) #[.int .i64 0, .bool false, .nilFunc, .int .i64 0, .bool false, .func (.func 110) #[] #[], .int .i64 1, .bool false, .func (.func 111) #[] #[], .int .i64 2, .bool true, .func (.func 112) #[] #[]]) (W.heap.size + 1) #[.int .i64 0, .bool false, .nilFunc, .int .i64 0, .bool false, .func (.func 110) #[] #[], .int .i64 1, .bool false, .func (.func 111) #[] #[], .int .i64 2, .bool true, .func (.func 112) #[] #[]] 180) := Lib.hid (Blk.setRow_self KZ.out)
  have KE : Hid (Blk (((W.alloc (.cells #[.int .u8 wh, .int .i64 ta, .int .i64 ca, .int .i64 er, .bool fo, .string va, .slice A m cc] 89)).alloc (.cells #[.int .i64 0, .bool false, .nilFunc, .int .i64 0, .bool false, .nilFunc, .int .i64 0, .bool false, .nilFunc, .int .i64 0, .bool false, .nilFunc] 180)).setRow (W.heap.size + 1) #[.int .i64 0, .bool false, .nilFunc, .int .i64 0, .bool false, .func (.func 110) #[] #[], .int .i64 1, .bool false, .func (.func 111) #[] #[], .int .i64 2, .bool true, .func (.func 112) #[] #[]]) W.heap.size #[.int .u8 wh, .int .i64 ta, .int .i64 ca, .int .i64 er, .bool fo, .string va, .slice A m cc] 89) := Lib.hid (((Blk.new W _ 89).alloc _).setRow (by omega))
  clear hb h
  go_enter Try.func99, Try.ntmps99
  go_upto_region 2 with (first | (refine wpList_store_row rfl 180 (.tmp 5) (.tmp 12) rfl (W.heap.size + 1) #[.int .i64 0, .bool false, .nilFunc, .int .i64 0, .bool false, .func (.func 110) #[] #[], .int .i64 1, .bool false, .func (.func 111) #[] #[], .int .i64 2, .bool true, .func (.func 112) #[] #[]] rfl rfl 180 #[.int .i64 0, .bool false, .nilFunc, .int .i64 0, .bool false, .nilFunc, .int .i64 0, .bool false, .nilFunc, .int .i64 0, .bool false, .nilFunc] KZ.out (by kernel_rfl) rfl (by first | rfl | (simp [Value.oneCell']; done)) ?_) | go_in)
  clear KZ
  generalize (((W.alloc (.cells #[.int .u8 wh, .int .i64 ta, .int .i64 ca, .int .i64 er, .bool fo, .string va, .slice A m cc] 89)).alloc (.cells #[.int .i64 0, .bool false, .nilFunc, .int .i64 0, .bool false, .nilFunc, .int .i64 0, .bool false, .nilFunc, .int .i64 0, .bool false, .nilFunc] 180)).setRow (W.heap.size + 1) #[.int .i64 0, .bool false, .nilFunc, .int .i64 0, .bool false, .func (.func 110) #[] #[], .int .i64 1, .bool false, .func (.func 111) #[] #[], .int .i64 2, .bool true, .func (.func 112) #[] #[]]) = w2 at *
  obtain ⟨be, hbe⟩ : ∃ z, W.heap.size = z := ⟨_, rfl⟩
  rw [hbe] at KE KA ⊢
  clear hbe
  have e0 := KE.out.cell 0
  have e1 := KE.out.cell 1
  have b1 := HP.out.c0 1
  simp only [plC, List.getElem?_toArray, List.getElem?_cons_zero, List.getElem?_cons_succ] at e0 e1 b1
  have wc : IntKind.i64.wrap wh = wh := IntWalk.i64_in _ (by have := HW.out; omega)
  have wc2 : wrap64 wh = wh := by have := HW.out; unfold wrap64; omega
  have g1 : decide (wh < 1) = false := decide_eq_false (by have := HW.out; omega)
  have g2 : decide (wh ≥ 4) = false := decide_eq_false (by have := HW.out; omega)
  have g2' : decide (4 ≤ wh) = false := decide_eq_false (by have := HW.out; omega)
  have g3 : decide (ta < 0) = true := decide_eq_true h3
  clear h3
  clear e0 e1 b1
  refine wp_region_noPanic ?_
  obtain ⟨W0, rfl⟩ : ∃ W0 : World, W0 = w2 := ⟨_, rfl⟩
  refine wp_region_held_drew (S := fun W => Below W0.heap.size W0 W) (by kernel_rfl) (Below.drew (Below.refl _ _)) (fun hHeld => ?_)
  refine tkL 0 ?_ rfl rfl ?_ (fun _ _ _ h => h) (by assumption) (by kernel_rfl) ?_
  rotate_left
  · intro W hSw
    clear hSw
    go_simp
    try with_reducible rfl
  simp only [pu_]
  refine tkL 1 ?_ rfl rfl ?_ (fun _ _ _ h => h) (by assumption) (by kernel_rfl) ?_
  rotate_left
  · intro W hSw
    have e0 := (KE.out.later hSw).cell 0
    have e1 := (KE.out.later hSw).cell 1
    have b1 := (HP.out.later hSw).c0 1
    simp only [plC, List.getElem?_toArray, List.getElem?_cons_zero, List.getElem?_cons_succ] at e0 e1 b1
    clear hSw
    go_simp
    try with_reducible rfl
  simp only [pu_]
  refine tkL 2 ?_ rfl rfl ?_ (fun _ _ _ h => h) (by assumption) (by kernel_rfl) ?_
  rotate_left
  · intro W hSw
    clear hSw
    go_simp
    try with_reducible rfl
  simp only [pu_]
  refine tkL 3 ?_ rfl rfl ?_ (fun _ _ _ h => h) (by assumption) (by kernel_rfl) ?_
  rotate_left
  · intro W hSw
    clear hSw
    go_simp
    try with_reducible rfl
  simp only [pu_]
  refine tkL 4 ?_ rfl rfl ?_ (fun _ _ _ h => h) (by assumption) (by kernel_rfl) ?_
  rotate_left
  · intro W hSw
    clear hSw
    go_simp
    try with_reducible rfl
  simp only [pu_]
  refine tkL 5 ?_ rfl rfl ?_ (fun _ _ _ h => h) (by assumption) (by kernel_rfl) ?_
  rotate_left
  · intro W hSw
    have e0 := (KE.out.later hSw).cell 0
    have e1 := (KE.out.later hSw).cell 1
    have b1 := (HP.out.later hSw).c0 1
    simp only [plC, List.getElem?_toArray, List.getElem?_cons_zero, List.getElem?_cons_succ] at e0 e1 b1
    clear hSw
    go_simp
    try with_reducible rfl
  simp only [pu_]
  refine tkL 6 ?_ rfl rfl ?_ (fun _ _ _ h => h) (by assumption) (by kernel_rfl) ?_
  rotate_left
  · intro W hSw
    clear hSw
    go_simp
    try with_reducible rfl
  simp only [pu_]
  refine tkL 7 ?_ rfl rfl ?_ (fun _ _ _ h => h) (by assumption) (by kernel_rfl) ?_
  rotate_left
  · intro W hSw
    clear hSw
    go_simp
    try with_reducible rfl
  simp only [pu_]
  refine tkL 8 ?_ rfl rfl ?_ (fun _ _ _ h => h) (by assumption) (by kernel_rfl) ?_
  rotate_left
  · intro W hSw
    clear hSw
    go_simp
    try with_reducible rfl
  simp only [pu_]
  refine tkL 9 ?_ rfl rfl ?_ (fun _ _ _ h => h) (by assumption) (by kernel_rfl) ?_
  rotate_left
  · intro W hSw
    clear hSw
    go_simp
    try with_reducible rfl
  simp only [pu_]
  refine tkL 10 ?_ rfl rfl ?_ (fun _ _ _ h => h) (by assumption) (by kernel_rfl) ?_
  rotate_left
  · intro W hSw
    clear hSw
    go_simp
    try with_reducible rfl
  simp only [pu_]
  refine tkL 11 ?_ rfl rfl ?_ (fun _ _ _ h => h) (by assumption) (by kernel_rfl) ?_
  rotate_left
  · intro W hSw
    have e0 := (KE.out.later hSw).cell 0
    have e1 := (KE.out.later hSw).cell 1
    have b1 := (HP.out.later hSw).c0 1
    simp only [plC, List.getElem?_toArray, List.getElem?_cons_zero, List.getElem?_cons_succ] at e0 e1 b1
    clear hSw
    go_simp
    try with_reducible rfl
  simp only [pu_]
  refine tkL 12 ?_ rfl rfl ?_ (fun _ _ _ h => h) (by assumption) (by kernel_rfl) ?_
  rotate_left
  · intro W hSw
    clear hSw
    go_simp
    try with_reducible rfl
  simp only [pu_]
  refine tkL 13 ?_ rfl rfl ?_ (fun _ _ _ h => h) (by assumption) (by kernel_rfl) ?_
  rotate_left
  · intro W hSw
    clear hSw
    go_simp
    try with_reducible rfl
  simp only [pu_]
  refine tkL 14 ?_ rfl rfl ?_ (fun _ _ _ h => h) (by assumption) (by kernel_rfl) ?_
  rotate_left
  · intro W hSw
    clear hSw
    go_simp
    try with_reducible rfl
  simp only [pu_]
  refine skL 15 rfl rfl rfl rfl rfl rfl (fun _ _ _ h => h) (by assumption) (by kernel_rfl) ?_
  simp only [pu_]
  refine skL 16 rfl rfl rfl rfl rfl rfl (fun _ _ _ h => h) (by assumption) (by kernel_rfl) ?_
  simp only [pu_]
  refine skL 17 rfl rfl rfl rfl rfl rfl (fun _ _ _ h => h) (by assumption) (by kernel_rfl) ?_
  simp only [pu_]
  refine skL 18 rfl rfl rfl rfl rfl rfl (fun _ _ _ h => h) (by assumption) (by kernel_rfl) ?_
  simp only [pu_]
  refine skL 19 rfl rfl rfl rfl rfl rfl (fun _ _ _ h => h) (by assumption) (by kernel_rfl) ?_
  simp only [pu_]
  refine skL 20 rfl rfl rfl rfl rfl rfl (fun _ _ _ h => h) (by assumption) (by kernel_rfl) ?_
  simp only [pu_]
  refine skL 21 rfl rfl rfl rfl rfl rfl (fun _ _ _ h => h) (by assumption) (by kernel_rfl) ?_
  simp only [pu_]
  refine skL 22 rfl rfl rfl rfl rfl rfl (fun _ _ _ h => h) (by assumption) (by kernel_rfl) ?_
  simp only [pu_]
  refine tkL 23 ?_ rfl rfl ?_ (fun _ _ _ h => h) (by assumption) (by kernel_rfl) ?_
  rotate_left
  · intro W hSw
    clear hSw
    go_simp
    try with_reducible rfl
  simp only [pu_]
  refine wpAnyH_done (by kernel_rfl) (NoPanic.normal ?_) _
  have HFE := Lib.hid (HF.out.then hHeld)
  clear hHeld
  go_wp2
  go_ret
  exact ⟨rfl, HFE.out⟩
set_option maxRecDepth 100000 in
set_option maxHeartbeats 1600000 in
theorem take_badB {w0 W : World} {b : Nat} {p : Pl} {x : PX} (h : PlAt w0 W b p x) (wh ta ca er : Int) (fo : Bool) (va : ByteArray) (A : Option Addr) (m cc : Nat) (hw : 1 ≤ wh ∧ wh ≤ 3) (h3 : (p.tasks.length : Int) ≤ ta) : Calls Try.prog 99 #[.pointer (some ⟨b, 0, none⟩), .agg #[.int .u8 wh, .int .i64 ta, .int .i64 ca, .int .i64 er, .bool fo, .string va, .slice A m cc]] W fun e w' => e = .returned (.int .i64 4) ∧ Fw w0 W w' := by
  have HW := Lib.hid hw
  clear hw
  have hb : Below W.heap.size W (((W.alloc (.cells #[.int .u8 wh, .int .i64 ta, .int .i64 ca, .int .i64 er, .bool fo, .string va, .slice A m cc] 89)).alloc (.cells #[.int .i64 0, .bool false, .nilFunc, .int .i64 0, .bool false, .nilFunc, .int .i64 0, .bool false, .nilFunc, .int .i64 0, .bool false, .nilFunc] 180)).setRow (W.heap.size + 1) #[.int .i64 0, .bool false, .nilFunc, .int .i64 0, .bool false, .func (.func 110) #[] #[], .int .i64 1, .bool false, .func (.func 111) #[] #[], .int .i64 2, .bool true, .func (.func 112) #[] #[]]) := below_setRow (((Below.refl _ _).alloc (Nat.le_refl _) _).alloc (by simp) _) (by simp) _
  have HP := Lib.hid (h.later hb)
  have HF := Lib.hid (Fw.of h.bel hb)
  have KZ : Hid (Blk ((W.alloc (.cells #[.int .u8 wh, .int .i64 ta, .int .i64 ca, .int .i64 er, .bool fo, .string va, .slice A m cc] 89)).alloc (.cells #[.int .i64 0, .bool false, .nilFunc, .int .i64 0, .bool false, .nilFunc, .int .i64 0, .bool false, .nilFunc, .int .i64 0, .bool false, .nilFunc] 180)) (W.heap.size + 1) #[.int .i64 0, .bool false, .nilFunc, .int .i64 0, .bool false, .nilFunc, .int .i64 0, .bool false, .nilFunc, .int .i64 0, .bool false, .nilFunc] 180) := Lib.hid (Blk.new2 _ _ 180 (by simp))
  have KA : Hid (Blk (((W.alloc (.cells #[.int .u8 wh, .int .i64 ta, .int .i64 ca, .int .i64 er, .bool fo, .string va, .slice A m cc] 89)).alloc (.cells #[.int .i64 0, .bool false, .nilFunc, .int .i64 0, .bool false, .nilFunc, .int .i64 0, .bool false, .nilFunc, .int .i64 0, .bool false, .nilFunc] 180)).setRow (W.heap.size + 1) #[.int .i64 0, .bool false, .nilFunc, .int .i64 0, .bool false, .func (.func 110) #[] #[], .int .i64 1, .bool false, .func (.func 111) #[] #[], .int .i64 2, .bool true, .func (.func 112) #[] #[]]) (W.heap.size + 1) #[.int .i64 0, .bool false, .nilFunc, .int .i64 0, .bool false, .func (.func 110) #[] #[], .int .i64 1, .bool false, .func (.func 111) #[] #[], .int .i64 2, .bool true, .func (.func 112) #[] #[]] 180) := Lib.hid (Blk.setRow_self KZ.out)
  have KE : Hid (Blk (((W.alloc (.cells #[.int .u8 wh, .int .i64 ta, .int .i64 ca, .int .i64 er, .bool fo, .string va, .slice A m cc] 89)).alloc (.cells #[.int .i64 0, .bool false, .nilFunc, .int .i64 0, .bool false, .nilFunc, .int .i64 0, .bool false, .nilFunc, .int .i64 0, .bool false, .nilFunc] 180)).setRow (W.heap.size + 1) #[.int .i64 0, .bool false, .nilFunc, .int .i64 0, .bool false, .func (.func 110) #[] #[], .int .i64 1, .bool false, .func (.func 111) #[] #[], .int .i64 2, .bool true, .func (.func 112) #[] #[]]) W.heap.size #[.int .u8 wh, .int .i64 ta, .int .i64 ca, .int .i64 er, .bool fo, .string va, .slice A m cc] 89) := Lib.hid (((Blk.new W _ 89).alloc _).setRow (by omega))
  clear hb h
  go_enter Try.func99, Try.ntmps99
  go_upto_region 2 with (first | (refine wpList_store_row rfl 180 (.tmp 5) (.tmp 12) rfl (W.heap.size + 1) #[.int .i64 0, .bool false, .nilFunc, .int .i64 0, .bool false, .func (.func 110) #[] #[], .int .i64 1, .bool false, .func (.func 111) #[] #[], .int .i64 2, .bool true, .func (.func 112) #[] #[]] rfl rfl 180 #[.int .i64 0, .bool false, .nilFunc, .int .i64 0, .bool false, .nilFunc, .int .i64 0, .bool false, .nilFunc, .int .i64 0, .bool false, .nilFunc] KZ.out (by kernel_rfl) rfl (by first | rfl | (simp [Value.oneCell']; done)) ?_) | go_in)
  clear KZ
  generalize (((W.alloc (.cells #[.int .u8 wh, .int .i64 ta, .int .i64 ca, .int .i64 er, .bool fo, .string va, .slice A m cc] 89)).alloc (.cells #[.int .i64 0, .bool false, .nilFunc, .int .i64 0, .bool false, .nilFunc, .int .i64 0, .bool false, .nilFunc, .int .i64 0, .bool false, .nilFunc] 180)).setRow (W.heap.size + 1) #[.int .i64 0, .bool false, .nilFunc, .int .i64 0, .bool false, .func (.func 110) #[] #[], .int .i64 1, .bool false, .func (.func 111) #[] #[], .int .i64 2, .bool true, .func (.func 112) #[] #[]]) = w2 at *
  obtain ⟨be, hbe⟩ : ∃ z, W.heap.size = z := ⟨_, rfl⟩
  rw [hbe] at KE KA ⊢
  clear hbe
  have e0 := KE.out.cell 0
  have e1 := KE.out.cell 1
  have b1 := HP.out.c0 1
  simp only [plC, List.getElem?_toArray, List.getElem?_cons_zero, List.getElem?_cons_succ] at e0 e1 b1
  have wc : IntKind.i64.wrap wh = wh := IntWalk.i64_in _ (by have := HW.out; omega)
  have wc2 : wrap64 wh = wh := by have := HW.out; unfold wrap64; omega
  have g1 : decide (wh < 1) = false := decide_eq_false (by have := HW.out; omega)
  have g2 : decide (wh ≥ 4) = false := decide_eq_false (by have := HW.out; omega)
  have g2' : decide (4 ≤ wh) = false := decide_eq_false (by have := HW.out; omega)
  have g3 : decide (ta < 0) = false := decide_eq_false (by omega)
  have g4 : decide (ta ≥ (p.tasks.length : Int)) = true := decide_eq_true h3
  have g4' : decide ((p.tasks.length : Int) ≤ ta) = true := decide_eq_true h3
  clear h3
  clear e0 e1 b1
  refine wp_region_noPanic ?_
  obtain ⟨W0, rfl⟩ : ∃ W0 : World, W0 = w2 := ⟨_, rfl⟩
  refine wp_region_held_drew (S := fun W => Below W0.heap.size W0 W) (by kernel_rfl) (Below.drew (Below.refl _ _)) (fun hHeld => ?_)
  refine tkL 0 ?_ rfl rfl ?_ (fun _ _ _ h => h) (by assumption) (by kernel_rfl) ?_
  rotate_left
  · intro W hSw
    clear hSw
    go_simp
    try with_reducible rfl
  simp only [pu_]
  refine tkL 1 ?_ rfl rfl ?_ (fun _ _ _ h => h) (by assumption) (by kernel_rfl) ?_
  rotate_left
  · intro W hSw
    have e0 := (KE.out.later hSw).cell 0
    have e1 := (KE.out.later hSw).cell 1
    have b1 := (HP.out.later hSw).c0 1
    simp only [plC, List.getElem?_toArray, List.getElem?_cons_zero, List.getElem?_cons_succ] at e0 e1 b1
    clear hSw
    go_simp
    try with_reducible rfl
  simp only [pu_]
  refine tkL 2 ?_ rfl rfl ?_ (fun _ _ _ h => h) (by assumption) (by kernel_rfl) ?_
  rotate_left
  · intro W hSw
    clear hSw
    go_simp
    try with_reducible rfl
  simp only [pu_]
  refine tkL 3 ?_ rfl rfl ?_ (fun _ _ _ h => h) (by assumption) (by kernel_rfl) ?_
  rotate_left
  · intro W hSw
    clear hSw
    go_simp
    try with_reducible rfl
  simp only [pu_]
  refine tkL 4 ?_ rfl rfl ?_ (fun _ _ _ h => h) (by assumption) (by kernel_rfl) ?_
  rotate_left
  · intro W hSw
    clear hSw
    go_simp
    try with_reducible rfl
  simp only [pu_]
  refine tkL 5 ?_ rfl rfl ?_ (fun _ _ _ h => h) (by assumption) (by kernel_rfl) ?_
  rotate_left
  · intro W hSw
    have e0 := (KE.out.later hSw).cell 0
    have e1 := (KE.out.later hSw).cell 1
    have b1 := (HP.out.later hSw).c0 1
    simp only [plC, List.getElem?_toArray, List.getElem?_cons_zero, List.getElem?_cons_succ] at e0 e1 b1
    clear hSw
    go_simp
    try with_reducible rfl
  simp only [pu_]
  refine tkL 6 ?_ rfl rfl ?_ (fun _ _ _ h => h) (by assumption) (by kernel_rfl) ?_
  rotate_left
  · intro W hSw
    clear hSw
    go_simp
    try with_reducible rfl
  simp only [pu_]
  refine tkL 7 ?_ rfl rfl ?_ (fun _ _ _ h => h) (by assumption) (by kernel_rfl) ?_
  rotate_left
  · intro W hSw
    clear hSw
    go_simp
    try with_reducible rfl
  simp only [pu_]
  refine tkL 8 ?_ rfl rfl ?_ (fun _ _ _ h => h) (by assumption) (by kernel_rfl) ?_
  rotate_left
  · intro W hSw
    clear hSw
    go_simp
    try with_reducible rfl
  simp only [pu_]
  refine tkL 9 ?_ rfl rfl ?_ (fun _ _ _ h => h) (by assumption) (by kernel_rfl) ?_
  rotate_left
  · intro W hSw
    clear hSw
    go_simp
    try with_reducible rfl
  simp only [pu_]
  refine tkL 10 ?_ rfl rfl ?_ (fun _ _ _ h => h) (by assumption) (by kernel_rfl) ?_
  rotate_left
  · intro W hSw
    clear hSw
    go_simp
    try with_reducible rfl
  simp only [pu_]
  refine tkL 11 ?_ rfl rfl ?_ (fun _ _ _ h => h) (by assumption) (by kernel_rfl) ?_
  rotate_left
  · intro W hSw
    have e0 := (KE.out.later hSw).cell 0
    have e1 := (KE.out.later hSw).cell 1
    have b1 := (HP.out.later hSw).c0 1
    simp only [plC, List.getElem?_toArray, List.getElem?_cons_zero, List.getElem?_cons_succ] at e0 e1 b1
    clear hSw
    go_simp
    try with_reducible rfl
  simp only [pu_]
  refine tkL 12 ?_ rfl rfl ?_ (fun _ _ _ h => h) (by assumption) (by kernel_rfl) ?_
  rotate_left
  · intro W hSw
    clear hSw
    go_simp
    try with_reducible rfl
  simp only [pu_]
  refine tkL 13 ?_ rfl rfl ?_ (fun _ _ _ h => h) (by assumption) (by kernel_rfl) ?_
  rotate_left
  · intro W hSw
    clear hSw
    go_simp
    try with_reducible rfl
  simp only [pu_]
  refine tkL 14 ?_ rfl rfl ?_ (fun _ _ _ h => h) (by assumption) (by kernel_rfl) ?_
  rotate_left
  · intro W hSw
    clear hSw
    go_simp
    try with_reducible rfl
  simp only [pu_]
  refine tkL 15 ?_ rfl rfl ?_ (fun _ _ _ h => h) (by assumption) (by kernel_rfl) ?_
  rotate_left
  · intro W hSw
    clear hSw
    go_simp
    try with_reducible rfl
  simp only [pu_]
  refine tkL 16 ?_ rfl rfl ?_ (fun _ _ _ h => h) (by assumption) (by kernel_rfl) ?_
  rotate_left
  · intro W hSw
    have e0 := (KE.out.later hSw).cell 0
    have e1 := (KE.out.later hSw).cell 1
    have b1 := (HP.out.later hSw).c0 1
    simp only [plC, List.getElem?_toArray, List.getElem?_cons_zero, List.getElem?_cons_succ] at e0 e1 b1
    clear hSw
    go_simp
    try with_reducible rfl
  simp only [pu_]
  refine tkL 17 ?_ rfl rfl ?_ (fun _ _ _ h => h) (by assumption) (by kernel_rfl) ?_
  rotate_left
  · intro W hSw
    clear hSw
    go_simp
    try with_reducible rfl
  simp only [pu_]
  refine tkL 18 ?_ rfl rfl ?_ (fun _ _ _ h => h) (by assumption) (by kernel_rfl) ?_
  rotate_left
  · intro W hSw
    clear hSw
    go_simp
    try with_reducible rfl
  simp only [pu_]
  refine tkL 19 ?_ rfl rfl ?_ (fun _ _ _ h => h) (by assumption) (by kernel_rfl) ?_
  rotate_left
  · intro W hSw
    clear hSw
    go_simp
    try with_reducible rfl
  simp only [pu_]
  refine tkL 20 ?_ rfl rfl ?_ (fun _ _ _ h => h) (by assumption) (by kernel_rfl) ?_
  rotate_left
  · intro W hSw
    have e0 := (KE.out.later hSw).cell 0
    have e1 := (KE.out.later hSw).cell 1
    have b1 := (HP.out.later hSw).c0 1
    simp only [plC, List.getElem?_toArray, List.getElem?_cons_zero, List.getElem?_cons_succ] at e0 e1 b1
    clear hSw
    go_simp
    try with_reducible rfl
  simp only [pu_]
  refine tkL 21 ?_ rfl rfl ?_ (fun _ _ _ h => h) (by assumption) (by kernel_rfl) ?_
  rotate_left
  · intro W hSw
    clear hSw
    go_simp
    try with_reducible rfl
  simp only [pu_]
  refine tkL 22 ?_ rfl rfl ?_ (fun _ _ _ h => h) (by assumption) (by kernel_rfl) ?_
  rotate_left
  · intro W hSw
    clear hSw
    go_simp
    try with_reducible rfl
  simp only [pu_]
  refine tkL 23 ?_ rfl rfl ?_ (fun _ _ _ h => h) (by assumption) (by kernel_rfl) ?_
  rotate_left
  · intro W hSw
    clear hSw
    go_simp
    try with_reducible rfl
  simp only [pu_]
  refine wpAnyH_done (by kernel_rfl) (NoPanic.normal ?_) _
  have HFE := Lib.hid (HF.out.then hHeld)
  clear hHeld
  go_wp2
  go_ret
  exact ⟨rfl, HFE.out⟩
end Go.Proofs.Ytoinjnocopejjaa
