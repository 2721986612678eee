/- fits. -/
import Derived.Test.YtoinjnocopejjaaMN
import Derived.Test.YtoinjnocopejjaaTX
namespace Go.Proofs.Ytoinjnocopejjaa
open Go.ChangeShapes Go.WideShapes Go.ChangeAt Go.RowKit Go.Maps
set_option linter.unusedVariables false
set_option linter.unusedSimpArgs false
theorem lenB_may (c : Conf) (h : mayB c = true) (s : ByteArray) (l m : Int) : lenB (mayB c) s l m = decide (l ≤ s.size ∧ s.size ≤ m) := by unfold lenB; rw [h]; rfl
set_option maxRecDepth 100000 in
set_option maxHeartbeats 4000000 in
theorem fits_2 (c : Conf) (tx li : Int) (ke en va : ByteArray) (eg : Nat) (w : World) (hk : ke.size ≤ maxLen) : Calls Try.prog 62 #[c.val, .agg #[.int .u8 2, .int .i64 tx, .string ke, .string en, .string va, .int .i64 li, .int .u8 (eg : Int)]] w fun e w' => e = .returned (.bool (lenB (mayB c) ke 1 c.kl)) ∧ Below w.heap.size w w' := by
  have HKE := Lib.hid hk
  clear hk
  unfold Conf.val
  have HB : Hid (Below w.heap.size w ((w.alloc (.cells #[.int .i64 c.ta, .int .i64 c.ac, .int .i64 c.ke, .int .i64 c.de, .int .i64 c.ts, .int .i64 c.kl, .int .i64 c.vl, .int .i64 c.fa] 45)).alloc (.cells #[.int .u8 2, .int .i64 tx, .string ke, .string en, .string va, .int .i64 li, .int .u8 (eg : Int)] 36))) := Lib.hid (((Below.refl _ _).alloc (Nat.le_refl _) _).alloc (by simp) _)
  have K2 : Hid (Blk ((w.alloc (.cells #[.int .i64 c.ta, .int .i64 c.ac, .int .i64 c.ke, .int .i64 c.de, .int .i64 c.ts, .int .i64 c.kl, .int .i64 c.vl, .int .i64 c.fa] 45)).alloc (.cells #[.int .u8 2, .int .i64 tx, .string ke, .string en, .string va, .int .i64 li, .int .u8 (eg : Int)] 36)) w.heap.size #[.int .i64 c.ta, .int .i64 c.ac, .int .i64 c.ke, .int .i64 c.de, .int .i64 c.ts, .int .i64 c.kl, .int .i64 c.vl, .int .i64 c.fa] 45) := Lib.hid ((Blk.new w _ 45).alloc _)
  have K3 : Hid (Blk ((w.alloc (.cells #[.int .i64 c.ta, .int .i64 c.ac, .int .i64 c.ke, .int .i64 c.de, .int .i64 c.ts, .int .i64 c.kl, .int .i64 c.vl, .int .i64 c.fa] 45)).alloc (.cells #[.int .u8 2, .int .i64 tx, .string ke, .string en, .string va, .int .i64 li, .int .u8 (eg : Int)] 36)) (w.heap.size + 1) #[.int .u8 2, .int .i64 tx, .string ke, .string en, .string va, .int .i64 li, .int .u8 (eg : Int)] 36) := Lib.hid (Blk.new2 _ _ 36 (by simp))
  go_enter Try.func62, Try.ntmps62
  have HF : Hid (∀ W, Calls Try.prog 89 #[.agg #[.int .i64 c.ta, .int .i64 c.ac, .int .i64 c.ke, .int .i64 c.de, .int .i64 c.ts, .int .i64 c.kl, .int .i64 c.vl, .int .i64 c.fa], .string ke] W fun e w' => e = .returned (.bool (lenB (mayB c) ke 1 c.kl)) ∧ Below W.heap.size W w') := Lib.hid (fun W => by have := key_any c ke W HKE.out; exact this)
  go_wp2_with fail
  refine (HF.out _).mono ?_
  rintro e w1 ⟨rfl, hb⟩
  replace HB := Lib.hid (stepB HB.out hb)
  replace K2 := Lib.hid (K2.out.later hb)
  replace K3 := Lib.hid (K3.out.later hb)
  clear hb
  have c0 := K2.out.cell 0
  have c1 := K2.out.cell 1
  have c2 := K2.out.cell 2
  have c3 := K2.out.cell 3
  have c4 := K2.out.cell 4
  have c5 := K2.out.cell 5
  have c6 := K2.out.cell 6
  have c7 := K2.out.cell 7
  simp only [List.getElem?_toArray, List.getElem?_cons_zero, List.getElem?_cons_succ] at c0 c1 c2 c3 c4 c5 c6 c7
  have z0 := K3.out.cell 0
  have z1 := K3.out.cell 1
  have z2 := K3.out.cell 2
  have z3 := K3.out.cell 3
  have z4 := K3.out.cell 4
  have z5 := K3.out.cell 5
  have z6 := K3.out.cell 6
  simp only [List.getElem?_toArray, List.getElem?_cons_zero, List.getElem?_cons_succ] at z0 z1 z2 z3 z4 z5 z6
  go_wp2
  go_ret
  exact ⟨rfl, HB.out⟩
set_option maxRecDepth 100000 in
set_option maxHeartbeats 4000000 in
theorem fits_4 (c : Conf) (tx li : Int) (ke en va : ByteArray) (eg : Nat) (w : World) (hk : ke.size ≤ maxLen) : Calls Try.prog 62 #[c.val, .agg #[.int .u8 4, .int .i64 tx, .string ke, .string en, .string va, .int .i64 li, .int .u8 (eg : Int)]] w fun e w' => e = .returned (.bool (lenB (mayB c) ke 1 c.kl)) ∧ Below w.heap.size w w' := by
  have HKE := Lib.hid hk
  clear hk
  unfold Conf.val
  have HB : Hid (Below w.heap.size w ((w.alloc (.cells #[.int .i64 c.ta, .int .i64 c.ac, .int .i64 c.ke, .int .i64 c.de, .int .i64 c.ts, .int .i64 c.kl, .int .i64 c.vl, .int .i64 c.fa] 45)).alloc (.cells #[.int .u8 4, .int .i64 tx, .string ke, .string en, .string va, .int .i64 li, .int .u8 (eg : Int)] 36))) := Lib.hid (((Below.refl _ _).alloc (Nat.le_refl _) _).alloc (by simp) _)
  have K2 : Hid (Blk ((w.alloc (.cells #[.int .i64 c.ta, .int .i64 c.ac, .int .i64 c.ke, .int .i64 c.de, .int .i64 c.ts, .int .i64 c.kl, .int .i64 c.vl, .int .i64 c.fa] 45)).alloc (.cells #[.int .u8 4, .int .i64 tx, .string ke, .string en, .string va, .int .i64 li, .int .u8 (eg : Int)] 36)) w.heap.size #[.int .i64 c.ta, .int .i64 c.ac, .int .i64 c.ke, .int .i64 c.de, .int .i64 c.ts, .int .i64 c.kl, .int .i64 c.vl, .int .i64 c.fa] 45) := Lib.hid ((Blk.new w _ 45).alloc _)
  have K3 : Hid (Blk ((w.alloc (.cells #[.int .i64 c.ta, .int .i64 c.ac, .int .i64 c.ke, .int .i64 c.de, .int .i64 c.ts, .int .i64 c.kl, .int .i64 c.vl, .int .i64 c.fa] 45)).alloc (.cells #[.int .u8 4, .int .i64 tx, .string ke, .string en, .string va, .int .i64 li, .int .u8 (eg : Int)] 36)) (w.heap.size + 1) #[.int .u8 4, .int .i64 tx, .string ke, .string en, .string va, .int .i64 li, .int .u8 (eg : Int)] 36) := Lib.hid (Blk.new2 _ _ 36 (by simp))
  go_enter Try.func62, Try.ntmps62
  have HF : Hid (∀ W, Calls Try.prog 89 #[.agg #[.int .i64 c.ta, .int .i64 c.ac, .int .i64 c.ke, .int .i64 c.de, .int .i64 c.ts, .int .i64 c.kl, .int .i64 c.vl, .int .i64 c.fa], .string ke] W fun e w' => e = .returned (.bool (lenB (mayB c) ke 1 c.kl)) ∧ Below W.heap.size W w') := Lib.hid (fun W => by have := key_any c ke W HKE.out; exact this)
  go_wp2_with fail
  refine (HF.out _).mono ?_
  rintro e w1 ⟨rfl, hb⟩
  replace HB := Lib.hid (stepB HB.out hb)
  replace K2 := Lib.hid (K2.out.later hb)
  replace K3 := Lib.hid (K3.out.later hb)
  clear hb
  have c0 := K2.out.cell 0
  have c1 := K2.out.cell 1
  have c2 := K2.out.cell 2
  have c3 := K2.out.cell 3
  have c4 := K2.out.cell 4
  have c5 := K2.out.cell 5
  have c6 := K2.out.cell 6
  have c7 := K2.out.cell 7
  simp only [List.getElem?_toArray, List.getElem?_cons_zero, List.getElem?_cons_succ] at c0 c1 c2 c3 c4 c5 c6 c7
  have z0 := K3.out.cell 0
  have z1 := K3.out.cell 1
  have z2 := K3.out.cell 2
  have z3 := K3.out.cell 3
  have z4 := K3.out.cell 4
  have z5 := K3.out.cell 5
  have z6 := K3.out.cell 6
  simp only [List.getElem?_toArray, List.getElem?_cons_zero, List.getElem?_cons_succ] at z0 z1 z2 z3 z4 z5 z6
  go_wp2
  go_ret
  exact ⟨rfl, HB.out⟩
set_option maxRecDepth 100000 in
set_option maxHeartbeats 4000000 in
theorem fits_3 (c : Conf) (tx li : Int) (ke en va : ByteArray) (eg : Nat) (w : World) (hk : ke.size ≤ maxLen) (hv : va.size ≤ maxLen) : Calls Try.prog 62 #[c.val, .agg #[.int .u8 3, .int .i64 tx, .string ke, .string en, .string va, .int .i64 li, .int .u8 (eg : Int)]] w fun e w' => e = .returned (.bool (lenB (mayB c) ke 1 c.kl && lenB (mayB c) va 0 c.vl)) ∧ Below w.heap.size w w' := by
  have HKE := Lib.hid hk
  have HVA := Lib.hid hv
  clear hk hv
  unfold Conf.val
  have HB : Hid (Below w.heap.size w ((w.alloc (.cells #[.int .i64 c.ta, .int .i64 c.ac, .int .i64 c.ke, .int .i64 c.de, .int .i64 c.ts, .int .i64 c.kl, .int .i64 c.vl, .int .i64 c.fa] 45)).alloc (.cells #[.int .u8 3, .int .i64 tx, .string ke, .string en, .string va, .int .i64 li, .int .u8 (eg : Int)] 36))) := Lib.hid (((Below.refl _ _).alloc (Nat.le_refl _) _).alloc (by simp) _)
  have K2 : Hid (Blk ((w.alloc (.cells #[.int .i64 c.ta, .int .i64 c.ac, .int .i64 c.ke, .int .i64 c.de, .int .i64 c.ts, .int .i64 c.kl, .int .i64 c.vl, .int .i64 c.fa] 45)).alloc (.cells #[.int .u8 3, .int .i64 tx, .string ke, .string en, .string va, .int .i64 li, .int .u8 (eg : Int)] 36)) w.heap.size #[.int .i64 c.ta, .int .i64 c.ac, .int .i64 c.ke, .int .i64 c.de, .int .i64 c.ts, .int .i64 c.kl, .int .i64 c.vl, .int .i64 c.fa] 45) := Lib.hid ((Blk.new w _ 45).alloc _)
  have K3 : Hid (Blk ((w.alloc (.cells #[.int .i64 c.ta, .int .i64 c.ac, .int .i64 c.ke, .int .i64 c.de, .int .i64 c.ts, .int .i64 c.kl, .int .i64 c.vl, .int .i64 c.fa] 45)).alloc (.cells #[.int .u8 3, .int .i64 tx, .string ke, .string en, .string va, .int .i64 li, .int .u8 (eg : Int)] 36)) (w.heap.size + 1) #[.int .u8 3, .int .i64 tx, .string ke, .string en, .string va, .int .i64 li, .int .u8 (eg : Int)] 36) := Lib.hid (Blk.new2 _ _ 36 (by simp))
  go_enter Try.func62, Try.ntmps62
  have HF : Hid (∀ W, Calls Try.prog 89 #[.agg #[.int .i64 c.ta, .int .i64 c.ac, .int .i64 c.ke, .int .i64 c.de, .int .i64 c.ts, .int .i64 c.kl, .int .i64 c.vl, .int .i64 c.fa], .string ke] W fun e w' => e = .returned (.bool (lenB (mayB c) ke 1 c.kl)) ∧ Below W.heap.size W w') := Lib.hid (fun W => by have := key_any c ke W HKE.out; exact this)
  have HV : Hid (∀ W, Calls Try.prog 90 #[.agg #[.int .i64 c.ta, .int .i64 c.ac, .int .i64 c.ke, .int .i64 c.de, .int .i64 c.ts, .int .i64 c.kl, .int .i64 c.vl, .int .i64 c.fa], .string va] W fun e w' => e = .returned (.bool (lenB (mayB c) va 0 c.vl)) ∧ Below W.heap.size W w') := Lib.hid (fun W => by have := value_any c va W HVA.out; exact this)
  generalize lenB (mayB c) ke 1 c.kl = b1 at *
  generalize lenB (mayB c) va 0 c.vl = b2 at *
  go_wp2_with fail
  refine (HF.out _).mono ?_
  rintro e w1 ⟨rfl, hb⟩
  replace HB := Lib.hid (stepB HB.out hb)
  replace K2 := Lib.hid (K2.out.later hb)
  replace K3 := Lib.hid (K3.out.later hb)
  clear hb
  have c0 := K2.out.cell 0
  have c1 := K2.out.cell 1
  have c2 := K2.out.cell 2
  have c3 := K2.out.cell 3
  have c4 := K2.out.cell 4
  have c5 := K2.out.cell 5
  have c6 := K2.out.cell 6
  have c7 := K2.out.cell 7
  simp only [List.getElem?_toArray, List.getElem?_cons_zero, List.getElem?_cons_succ] at c0 c1 c2 c3 c4 c5 c6 c7
  have z0 := K3.out.cell 0
  have z1 := K3.out.cell 1
  have z2 := K3.out.cell 2
  have z3 := K3.out.cell 3
  have z4 := K3.out.cell 4
  have z5 := K3.out.cell 5
  have z6 := K3.out.cell 6
  simp only [List.getElem?_toArray, List.getElem?_cons_zero, List.getElem?_cons_succ] at z0 z1 z2 z3 z4 z5 z6
  cases b1 with
  | false =>
    go_wp2
    go_ret
    exact ⟨rfl, HB.out⟩
  | true =>
    go_wp2_with fail
    refine (HV.out _).mono ?_
    rintro e w2 ⟨rfl, hb⟩
    replace HB := Lib.hid (stepB HB.out hb)
    replace K2 := Lib.hid (K2.out.later hb)
    replace K3 := Lib.hid (K3.out.later hb)
    clear hb
    go_wp2
    go_ret
    exact ⟨rfl, HB.out⟩
set_option maxRecDepth 100000 in
set_option maxHeartbeats 4000000 in
theorem fits_5 (c : Conf) (tx li : Int) (ke en va : ByteArray) (eg : Nat) (w : World) (hk : ke.size ≤ maxLen) (he : en.size ≤ maxLen) : Calls Try.prog 62 #[c.val, .agg #[.int .u8 5, .int .i64 tx, .string ke, .string en, .string va, .int .i64 li, .int .u8 (eg : Int)]] w fun e w' => e = .returned (.bool (lenB (mayB c) ke 0 c.kl && (lenB (mayB c) en 0 c.kl && (decide (0 ≤ li) && decide (li ≤ 128))))) ∧ Below w.heap.size w w' := by
  have HKE := Lib.hid hk
  have HEN := Lib.hid he
  clear hk he
  unfold Conf.val
  have HB : Hid (Below w.heap.size w ((w.alloc (.cells #[.int .i64 c.ta, .int .i64 c.ac, .int .i64 c.ke, .int .i64 c.de, .int .i64 c.ts, .int .i64 c.kl, .int .i64 c.vl, .int .i64 c.fa] 45)).alloc (.cells #[.int .u8 5, .int .i64 tx, .string ke, .string en, .string va, .int .i64 li, .int .u8 (eg : Int)] 36))) := Lib.hid (((Below.refl _ _).alloc (Nat.le_refl _) _).alloc (by simp) _)
  have K2 : Hid (Blk ((w.alloc (.cells #[.int .i64 c.ta, .int .i64 c.ac, .int .i64 c.ke, .int .i64 c.de, .int .i64 c.ts, .int .i64 c.kl, .int .i64 c.vl, .int .i64 c.fa] 45)).alloc (.cells #[.int .u8 5, .int .i64 tx, .string ke, .string en, .string va, .int .i64 li, .int .u8 (eg : Int)] 36)) w.heap.size #[.int .i64 c.ta, .int .i64 c.ac, .int .i64 c.ke, .int .i64 c.de, .int .i64 c.ts, .int .i64 c.kl, .int .i64 c.vl, .int .i64 c.fa] 45) := Lib.hid ((Blk.new w _ 45).alloc _)
  have K3 : Hid (Blk ((w.alloc (.cells #[.int .i64 c.ta, .int .i64 c.ac, .int .i64 c.ke, .int .i64 c.de, .int .i64 c.ts, .int .i64 c.kl, .int .i64 c.vl, .int .i64 c.fa] 45)).alloc (.cells #[.int .u8 5, .int .i64 tx, .string ke, .string en, .string va, .int .i64 li, .int .u8 (eg : Int)] 36)) (w.heap.size + 1) #[.int .u8 5, .int .i64 tx, .string ke, .string en, .string va, .int .i64 li, .int .u8 (eg : Int)] 36) := Lib.hid (Blk.new2 _ _ 36 (by simp))
  go_enter Try.func62, Try.ntmps62
  have HF : Hid (∀ W, Calls Try.prog 91 #[.agg #[.int .i64 c.ta, .int .i64 c.ac, .int .i64 c.ke, .int .i64 c.de, .int .i64 c.ts, .int .i64 c.kl, .int .i64 c.vl, .int .i64 c.fa], .string ke] W fun e w' => e = .returned (.bool (lenB (mayB c) ke 0 c.kl)) ∧ Below W.heap.size W w') := Lib.hid (fun W => by have := bound_any c ke W HKE.out; exact this)
  have HV : Hid (∀ W, Calls Try.prog 91 #[.agg #[.int .i64 c.ta, .int .i64 c.ac, .int .i64 c.ke, .int .i64 c.de, .int .i64 c.ts, .int .i64 c.kl, .int .i64 c.vl, .int .i64 c.fa], .string en] W fun e w' => e = .returned (.bool (lenB (mayB c) en 0 c.kl)) ∧ Below W.heap.size W w') := Lib.hid (fun W => by have := bound_any c en W HEN.out; exact this)
  generalize lenB (mayB c) ke 0 c.kl = b1 at *
  generalize lenB (mayB c) en 0 c.kl = b2 at *
  go_wp2_with fail
  refine (HF.out _).mono ?_
  rintro e w1 ⟨rfl, hb⟩
  replace HB := Lib.hid (stepB HB.out hb)
  replace K2 := Lib.hid (K2.out.later hb)
  replace K3 := Lib.hid (K3.out.later hb)
  clear hb
  have c0 := K2.out.cell 0
  have c1 := K2.out.cell 1
  have c2 := K2.out.cell 2
  have c3 := K2.out.cell 3
  have c4 := K2.out.cell 4
  have c5 := K2.out.cell 5
  have c6 := K2.out.cell 6
  have c7 := K2.out.cell 7
  simp only [List.getElem?_toArray, List.getElem?_cons_zero, List.getElem?_cons_succ] at c0 c1 c2 c3 c4 c5 c6 c7
  have z0 := K3.out.cell 0
  have z1 := K3.out.cell 1
  have z2 := K3.out.cell 2
  have z3 := K3.out.cell 3
  have z4 := K3.out.cell 4
  have z5 := K3.out.cell 5
  have z6 := K3.out.cell 6
  simp only [List.getElem?_toArray, List.getElem?_cons_zero, List.getElem?_cons_succ] at z0 z1 z2 z3 z4 z5 z6
  cases b1 with
  | false =>
    go_wp2
    go_ret
    exact ⟨rfl, HB.out⟩
  | true =>
    clear c0 c1 c2 c3 c4 c5 c6 c7
    clear z0 z1 z2 z3 z4 z5 z6
    have c0 := K2.out.cell 0
    have c1 := K2.out.cell 1
    have c2 := K2.out.cell 2
    have c3 := K2.out.cell 3
    have c4 := K2.out.cell 4
    have c5 := K2.out.cell 5
    have c6 := K2.out.cell 6
    have c7 := K2.out.cell 7
    simp only [List.getElem?_toArray, List.getElem?_cons_zero, List.getElem?_cons_succ] at c0 c1 c2 c3 c4 c5 c6 c7
    have z0 := K3.out.cell 0
    have z1 := K3.out.cell 1
    have z2 := K3.out.cell 2
    have z3 := K3.out.cell 3
    have z4 := K3.out.cell 4
    have z5 := K3.out.cell 5
    have z6 := K3.out.cell 6
    simp only [List.getElem?_toArray, List.getElem?_cons_zero, List.getElem?_cons_succ] at z0 z1 z2 z3 z4 z5 z6
    go_wp2_with fail
    refine (HV.out _).mono ?_
    rintro e w2 ⟨rfl, hb⟩
    replace HB := Lib.hid (stepB HB.out hb)
    replace K2 := Lib.hid (K2.out.later hb)
    replace K3 := Lib.hid (K3.out.later hb)
    clear hb
    clear c0 c1 c2 c3 c4 c5 c6 c7
    clear z0 z1 z2 z3 z4 z5 z6
    have c0 := K2.out.cell 0
    have c1 := K2.out.cell 1
    have c2 := K2.out.cell 2
    have c3 := K2.out.cell 3
    have c4 := K2.out.cell 4
    have c5 := K2.out.cell 5
    have c6 := K2.out.cell 6
    have c7 := K2.out.cell 7
    simp only [List.getElem?_toArray, List.getElem?_cons_zero, List.getElem?_cons_succ] at c0 c1 c2 c3 c4 c5 c6 c7
    have z0 := K3.out.cell 0
    have z1 := K3.out.cell 1
    have z2 := K3.out.cell 2
    have z3 := K3.out.cell 3
    have z4 := K3.out.cell 4
    have z5 := K3.out.cell 5
    have z6 := K3.out.cell 6
    simp only [List.getElem?_toArray, List.getElem?_cons_zero, List.getElem?_cons_succ] at z0 z1 z2 z3 z4 z5 z6
    cases b2 with
    | false =>
      go_wp2
      go_ret
      exact ⟨rfl, HB.out⟩
    | true =>
      by_cases h1 : 0 ≤ li
      · have d1 : decide (0 ≤ li) = true := decide_eq_true h1
        have d2 : decide (li ≥ 0) = true := decide_eq_true h1
        go_wp2
        go_ret
        exact ⟨by rw [d1]; rfl, HB.out⟩
      · have d1 : decide (0 ≤ li) = false := decide_eq_false h1
        have d2 : decide (li ≥ 0) = false := decide_eq_false h1
        go_wp2
        go_ret
        exact ⟨by rw [d1]; rfl, HB.out⟩
set_option maxRecDepth 100000 in
set_option maxHeartbeats 4000000 in
theorem fits_0 (c : Conf) (kn : Nat) (tx li : Int) (ke en va : ByteArray) (eg : Nat) (w : World) (h2 : kn ≠ 2) (h3 : kn ≠ 3) (h4 : kn ≠ 4) (h5 : kn ≠ 5) : Calls Try.prog 62 #[c.val, .agg #[.int .u8 (kn : Int), .int .i64 tx, .string ke, .string en, .string va, .int .i64 li, .int .u8 (eg : Int)]] w fun e w' => e = .returned (.bool true) ∧ Below w.heap.size w w' := by
  have e2 : ((kn : Int) == 2) = false := by rw [beq_eq_false_iff_ne]; omega
  have e3 : ((kn : Int) == 3) = false := by rw [beq_eq_false_iff_ne]; omega
  have e4 : ((kn : Int) == 4) = false := by rw [beq_eq_false_iff_ne]; omega
  have e5 : ((kn : Int) == 5) = false := by rw [beq_eq_false_iff_ne]; omega
  clear h2 h3 h4 h5
  unfold Conf.val
  have HB : Hid (Below w.heap.size w ((w.alloc (.cells #[.int .i64 c.ta, .int .i64 c.ac, .int .i64 c.ke, .int .i64 c.de, .int .i64 c.ts, .int .i64 c.kl, .int .i64 c.vl, .int .i64 c.fa] 45)).alloc (.cells #[.int .u8 (kn : Int), .int .i64 tx, .string ke, .string en, .string va, .int .i64 li, .int .u8 (eg : Int)] 36))) := Lib.hid (((Below.refl _ _).alloc (Nat.le_refl _) _).alloc (by simp) _)
  have K2 : Hid (Blk ((w.alloc (.cells #[.int .i64 c.ta, .int .i64 c.ac, .int .i64 c.ke, .int .i64 c.de, .int .i64 c.ts, .int .i64 c.kl, .int .i64 c.vl, .int .i64 c.fa] 45)).alloc (.cells #[.int .u8 (kn : Int), .int .i64 tx, .string ke, .string en, .string va, .int .i64 li, .int .u8 (eg : Int)] 36)) w.heap.size #[.int .i64 c.ta, .int .i64 c.ac, .int .i64 c.ke, .int .i64 c.de, .int .i64 c.ts, .int .i64 c.kl, .int .i64 c.vl, .int .i64 c.fa] 45) := Lib.hid ((Blk.new w _ 45).alloc _)
  have K3 : Hid (Blk ((w.alloc (.cells #[.int .i64 c.ta, .int .i64 c.ac, .int .i64 c.ke, .int .i64 c.de, .int .i64 c.ts, .int .i64 c.kl, .int .i64 c.vl, .int .i64 c.fa] 45)).alloc (.cells #[.int .u8 (kn : Int), .int .i64 tx, .string ke, .string en, .string va, .int .i64 li, .int .u8 (eg : Int)] 36)) (w.heap.size + 1) #[.int .u8 (kn : Int), .int .i64 tx, .string ke, .string en, .string va, .int .i64 li, .int .u8 (eg : Int)] 36) := Lib.hid (Blk.new2 _ _ 36 (by simp))
  go_enter Try.func62, Try.ntmps62
  go_wp2
  go_ret
  exact ⟨rfl, HB.out⟩
def clV (x : Cl) : Value := .agg #[.int .u8 x.1, .int .i64 x.2.1, .string x.2.2.1, .string x.2.2.2.1, .string x.2.2.2.2.1, .int .i64 x.2.2.2.2.2.1, .int .u8 x.2.2.2.2.2.2]
/-- what a call's parts are -/
def COk (x : Cl) : Prop := x.1 ≤ 255 ∧ x.2.2.2.2.2.2 ≤ 255 ∧ (-9223372036854775808 ≤ x.2.1 ∧ x.2.1 ≤ 9223372036854775807) ∧ (-9223372036854775808 ≤ x.2.2.2.2.2.1 ∧ x.2.2.2.2.2.1 ≤ 9223372036854775807) ∧ x.2.2.1.size ≤ maxLen ∧ x.2.2.2.1.size ≤ maxLen ∧ x.2.2.2.2.1.size ≤ maxLen
theorem fits_any (c : Conf) (x : Cl) (w : World) (h : COk x) : Calls Try.prog 62 #[c.val, clV x] w fun e w' => e = .returned (.bool (fitsM c x)) ∧ Below w.heap.size w w' := by
  obtain ⟨kn, tx, ke, en, va, li, eg⟩ := x
  obtain ⟨_, _, _, _, hk, he, hv⟩ := h
  simp only at hk he hv
  unfold clV
  simp only
  by_cases e2 : kn = 2
  · subst e2; exact fits_2 c tx li ke en va eg w hk
  by_cases e4 : kn = 4
  · subst e4; exact fits_4 c tx li ke en va eg w hk
  by_cases e3 : kn = 3
  · subst e3; exact fits_3 c tx li ke en va eg w hk hv
  by_cases e5 : kn = 5
  · subst e5; exact fits_5 c tx li ke en va eg w hk he
  have e : fitsM c (kn, tx, ke, en, va, li, eg) = true := by
    unfold fitsM
    simp only
    rw [if_neg (by omega), if_neg e3, if_neg e5]
  rw [e]
  exact fits_0 c kn tx li ke en va eg w e2 e3 e4 e5
end Go.Proofs.Ytoinjnocopejjaa
