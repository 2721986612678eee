/- What is full; a Scan. -/
import Derived.Test.YtoinjnocopejjaaFD
import Derived.Test.YtoinjnocopejjaaNV
import Derived.Test.YtoinjnocopejjaaNB
import Derived.Test.YtoinjnocopejjaaRT
import Derived.Test.YtoinjnocopejjaaSM
import Derived.StillTailTactics
import Derived.Deep.QuietTactic
import Derived.BigQuiet
namespace Go.Proofs.Ytoinjnocopejjaa
open Go.ChangeShapes Go.WideShapes Go.ChangeAt Go.RowKit Go.Maps
set_option linter.unusedVariables false
set_option linter.unusedSimpArgs false
theorem eq26 (v : Ver) (w : World) : (binOp BinOp.eql 26 (.agg #[.int .i64 v.w, .int .i64 v.ts, .bool v.tomb, .string v.val]) (.agg #[.int .i64 v.w, .int .i64 v.ts, .bool v.tomb, .string v.val])).run Try.prog w = .ok (.bool true) w := by
  obtain ⟨a, b, c, d⟩ := v
  go_simp
set_option maxRecDepth 100000 in
set_option maxHeartbeats 1600000 in
theorem fulls_any {w0 w : World} {own : Nat → Nat} {p : Nat} (hB : Below w0.heap.size w0 w) (hQ : MQ_ w w0.heap.size own p fs0) : Calls Try.prog 31 #[.pointer (some ⟨p, 0, none⟩)] w fun e w' => e = .returned (.bool true) ∧ Below w0.heap.size w0 w' := by
  have HB := Lib.hid hB
  have HQ := Lib.hid hQ
  clear hB hQ
  go_enter Try.func31, Try.ntmps31
  go_wp2_with fail
  refine (on_c 3 3 rfl 2 { data := #[98] } { data := #[49] } _).mono ?_
  rintro e w1 ⟨rfl, hb⟩
  replace HB := Lib.hid (stepB HB.out hb)
  replace HQ := Lib.hid (HQ.out.later hb)
  clear hb
  go_wp2_with fail
  refine (mq_is HQ.out fl0 0 2 0 { data := #[98] } { data := #[] } { data := #[49] } 3 0 3 0 rfl rfl (cok_of (x := (3, 2, { data := #[98] }, { data := #[] }, { data := #[49] }, 0, 0)) (by decide) (by decide) (by decide) (by decide) (by decide) (by decide) (by decide)) 0 false { data := #[] } fd0).mono ?_
  rintro e w2 ⟨rfl, hq, hkp, hbl⟩
  replace HB := Lib.hid (hbl _ _ HB.out (Nat.le_refl _))
  replace HQ := Lib.hid hq
  clear hq hkp hbl
  go_wp2_with fail
  refine (on_c 3 3 rfl 2 { data := #[97] } { data := #[50] } _).mono ?_
  rintro e w3 ⟨rfl, hb⟩
  replace HB := Lib.hid (stepB HB.out hb)
  replace HQ := Lib.hid (HQ.out.later hb)
  clear hb
  go_wp2_with fail
  refine (mq_is HQ.out fl1 0 2 0 { data := #[97] } { data := #[] } { data := #[50] } 3 0 3 0 rfl rfl (cok_of (x := (3, 2, { data := #[97] }, { data := #[] }, { data := #[50] }, 0, 0)) (by decide) (by decide) (by decide) (by decide) (by decide) (by decide) (by decide)) 0 false { data := #[] } fd1).mono ?_
  rintro e w4 ⟨rfl, hq, hkp, hbl⟩
  replace HB := Lib.hid (hbl _ _ HB.out (Nat.le_refl _))
  replace HQ := Lib.hid hq
  clear hq hkp hbl
  go_wp2_with fail
  refine (on_c 3 3 rfl 2 { data := #[99] } { data := #[51] } _).mono ?_
  rintro e w5 ⟨rfl, hb⟩
  replace HB := Lib.hid (stepB HB.out hb)
  replace HQ := Lib.hid (HQ.out.later hb)
  clear hb
  go_wp2_with fail
  refine (mq_is HQ.out fl2 0 2 0 { data := #[99] } { data := #[] } { data := #[51] } 3 0 3 0 rfl rfl (cok_of (x := (3, 2, { data := #[99] }, { data := #[] }, { data := #[51] }, 0, 0)) (by decide) (by decide) (by decide) (by decide) (by decide) (by decide) (by decide)) 34 false { data := #[] } fd2).mono ?_
  rintro e w6 ⟨rfl, hq, hkp, hbl⟩
  replace HB := Lib.hid (hbl _ _ HB.out (Nat.le_refl _))
  replace HQ := Lib.hid hq
  clear hq hkp hbl
  go_wp2_with fail
  refine (on_c 3 3 rfl 2 { data := #[97] } { data := #[52] } _).mono ?_
  rintro e w7 ⟨rfl, hb⟩
  replace HB := Lib.hid (stepB HB.out hb)
  replace HQ := Lib.hid (HQ.out.later hb)
  clear hb
  go_wp2_with fail
  refine (mq_is HQ.out fl3 0 2 0 { data := #[97] } { data := #[] } { data := #[52] } 3 0 3 0 rfl rfl (cok_of (x := (3, 2, { data := #[97] }, { data := #[] }, { data := #[52] }, 0, 0)) (by decide) (by decide) (by decide) (by decide) (by decide) (by decide) (by decide)) 0 false { data := #[] } fd3).mono ?_
  rintro e w8 ⟨rfl, hq, hkp, hbl⟩
  replace HB := Lib.hid (hbl _ _ HB.out (Nat.le_refl _))
  replace HQ := Lib.hid hq
  clear hq hkp hbl
  go_wp2_with fail
  refine (mq_retained HQ.out).mono ?_
  rintro e w9 ⟨rfl, hb⟩
  rw [fk_ret]
  replace HB := Lib.hid (stepB HB.out hb)
  replace HQ := Lib.hid (HQ.out.later hb)
  clear hb
  go_wp2_with fail
  refine (on_c 4 4 rfl 2 { data := #[122, 122] } { data := #[] } _).mono ?_
  rintro e w10 ⟨rfl, hb⟩
  replace HB := Lib.hid (stepB HB.out hb)
  replace HQ := Lib.hid (HQ.out.later hb)
  clear hb
  go_wp2_with fail
  refine (mq_is HQ.out fl4 0 2 0 { data := #[122, 122] } { data := #[] } { data := #[] } 4 0 4 0 rfl rfl (cok_of (x := (4, 2, { data := #[122, 122] }, { data := #[] }, { data := #[] }, 0, 0)) (by decide) (by decide) (by decide) (by decide) (by decide) (by decide) (by decide)) 0 false { data := #[] } fd4).mono ?_
  rintro e w11 ⟨rfl, hq, hkp, hbl⟩
  replace HB := Lib.hid (hbl _ _ HB.out (Nat.le_refl _))
  replace HQ := Lib.hid hq
  clear hq hkp hbl
  go_upto_region 3 with (fail)
  have hdo := mq_do' HQ.out 0 2 9 { data := #[] } { data := #[] } { data := #[] } 5 0 5 0 rfl rfl fl5 (cok_of (x := (5, 2, { data := #[] }, { data := #[] }, { data := #[] }, 9, 0)) (by decide) (by decide) (by decide) (by decide) (by decide) (by decide) (by decide))
  rw [fk_sc0] at hdo
  go_wp2_with fail
  refine hdo.mono ?_
  clear hdo
  rintro e w12 ⟨A0, c0, rfl, hro, hm, hoth, hkp, hbl⟩
  have RO0 := Lib.hid (hro.base HB.out.size)
  replace HB := Lib.hid (hbl _ _ HB.out (Nat.le_refl _))
  replace HQ := Lib.hid hm
  clear hro hm hoth hkp hbl
  have hb : Below w12.heap.size w12 (w12.alloc (.cells #[.int .i64 0, .bool false, .string { data := #[] }, .slice A0 2 c0] 33)) := (Below.refl _ _).alloc (Nat.le_refl _) _
  have KB0 : Hid (Blk (w12.alloc (.cells #[.int .i64 0, .bool false, .string { data := #[] }, .slice A0 2 c0] 33)) w12.heap.size #[.int .i64 0, .bool false, .string { data := #[] }, .slice A0 2 c0] 33) := Lib.hid (Blk.new w12 _ 33)
  replace HB := Lib.hid (stepB HB.out hb)
  replace HQ := Lib.hid (HQ.out.later hb)
  replace RO0 := Lib.hid (RO0.out.later hb)
  clear hb
  go_upto_region 4 with (fail)
  generalize w12.alloc (.cells #[.int .i64 0, .bool false, .string { data := #[] }, .slice A0 2 c0] 33) = w13 at *
  obtain ⟨b0, hbj⟩ : ∃ z, w12.heap.size = z := ⟨_, rfl⟩
  rw [hbj] at KB0 ⊢
  clear hbj
  have hdo := mq_do' HQ.out 0 2 9 { data := #[97] } { data := #[98] } { data := #[] } 5 0 5 0 rfl rfl fl5 (cok_of (x := (5, 2, { data := #[97] }, { data := #[98] }, { data := #[] }, 9, 0)) (by decide) (by decide) (by decide) (by decide) (by decide) (by decide) (by decide))
  rw [fk_sc1] at hdo
  go_wp2_with fail
  refine hdo.mono ?_
  clear hdo
  rintro e w14 ⟨A1, c1, rfl, hro, hm, hoth, hkp, hbl⟩
  have RO1 := Lib.hid (hro.base HB.out.size)
  replace HB := Lib.hid (hbl _ _ HB.out (Nat.le_refl _))
  replace HQ := Lib.hid hm
  replace RO0 := Lib.hid (RO0.out.kp hkp (by decide) (by decide) (by decide) (by decide))
  replace KB0 := Lib.hid (hkp.blk _ _ _ KB0.out (by decide) (by decide) (by decide) (by decide))
  clear hro hm hoth hkp hbl
  have hb : Below w14.heap.size w14 (w14.alloc (.cells #[.int .i64 0, .bool false, .string { data := #[] }, .slice A1 1 c1] 33)) := (Below.refl _ _).alloc (Nat.le_refl _) _
  have KB1 : Hid (Blk (w14.alloc (.cells #[.int .i64 0, .bool false, .string { data := #[] }, .slice A1 1 c1] 33)) w14.heap.size #[.int .i64 0, .bool false, .string { data := #[] }, .slice A1 1 c1] 33) := Lib.hid (Blk.new w14 _ 33)
  replace HB := Lib.hid (stepB HB.out hb)
  replace HQ := Lib.hid (HQ.out.later hb)
  replace RO0 := Lib.hid (RO0.out.later hb)
  replace KB0 := Lib.hid (KB0.out.later hb)
  replace RO1 := Lib.hid (RO1.out.later hb)
  clear hb
  go_upto_region 5 with (fail)
  generalize w14.alloc (.cells #[.int .i64 0, .bool false, .string { data := #[] }, .slice A1 1 c1] 33) = w15 at *
  obtain ⟨b1, hbj⟩ : ∃ z, w14.heap.size = z := ⟨_, rfl⟩
  rw [hbj] at KB1 ⊢
  clear hbj
  have hdo := mq_do' HQ.out 0 2 9 { data := #[97, 97] } { data := #[] } { data := #[] } 5 0 5 0 rfl rfl fl5 (cok_of (x := (5, 2, { data := #[97, 97] }, { data := #[] }, { data := #[] }, 9, 0)) (by decide) (by decide) (by decide) (by decide) (by decide) (by decide) (by decide))
  rw [fk_sc2] at hdo
  go_wp2_with fail
  refine hdo.mono ?_
  clear hdo
  rintro e w16 ⟨A2, c2, rfl, hro, hm, hoth, hkp, hbl⟩
  have RO2 := Lib.hid (hro.base HB.out.size)
  replace HB := Lib.hid (hbl _ _ HB.out (Nat.le_refl _))
  replace HQ := Lib.hid hm
  replace RO0 := Lib.hid (RO0.out.kp hkp (by decide) (by decide) (by decide) (by decide))
  replace KB0 := Lib.hid (hkp.blk _ _ _ KB0.out (by decide) (by decide) (by decide) (by decide))
  replace RO1 := Lib.hid (RO1.out.kp hkp (by decide) (by decide) (by decide) (by decide))
  replace KB1 := Lib.hid (hkp.blk _ _ _ KB1.out (by decide) (by decide) (by decide) (by decide))
  clear hro hm hoth hkp hbl
  have hb : Below w16.heap.size w16 (w16.alloc (.cells #[.int .i64 0, .bool false, .string { data := #[] }, .slice A2 1 c2] 33)) := (Below.refl _ _).alloc (Nat.le_refl _) _
  have KB2 : Hid (Blk (w16.alloc (.cells #[.int .i64 0, .bool false, .string { data := #[] }, .slice A2 1 c2] 33)) w16.heap.size #[.int .i64 0, .bool false, .string { data := #[] }, .slice A2 1 c2] 33) := Lib.hid (Blk.new w16 _ 33)
  replace HB := Lib.hid (stepB HB.out hb)
  replace HQ := Lib.hid (HQ.out.later hb)
  replace RO0 := Lib.hid (RO0.out.later hb)
  replace KB0 := Lib.hid (KB0.out.later hb)
  replace RO1 := Lib.hid (RO1.out.later hb)
  replace KB1 := Lib.hid (KB1.out.later hb)
  replace RO2 := Lib.hid (RO2.out.later hb)
  clear hb
  go_upto_region 6 with (fail)
  generalize w16.alloc (.cells #[.int .i64 0, .bool false, .string { data := #[] }, .slice A2 1 c2] 33) = w17 at *
  obtain ⟨b2, hbj⟩ : ∃ z, w16.heap.size = z := ⟨_, rfl⟩
  rw [hbj] at KB2 ⊢
  clear hbj
  have hdo := mq_do' HQ.out 0 2 1 { data := #[] } { data := #[] } { data := #[] } 5 0 5 0 rfl rfl fl5 (cok_of (x := (5, 2, { data := #[] }, { data := #[] }, { data := #[] }, 1, 0)) (by decide) (by decide) (by decide) (by decide) (by decide) (by decide) (by decide))
  rw [fk_sc3] at hdo
  go_wp2_with fail
  refine hdo.mono ?_
  clear hdo
  rintro e w18 ⟨A3, c3, rfl, hro, hm, hoth, hkp, hbl⟩
  have RO3 := Lib.hid (hro.base HB.out.size)
  replace HB := Lib.hid (hbl _ _ HB.out (Nat.le_refl _))
  replace HQ := Lib.hid hm
  replace RO0 := Lib.hid (RO0.out.kp hkp (by decide) (by decide) (by decide) (by decide))
  replace KB0 := Lib.hid (hkp.blk _ _ _ KB0.out (by decide) (by decide) (by decide) (by decide))
  replace RO1 := Lib.hid (RO1.out.kp hkp (by decide) (by decide) (by decide) (by decide))
  replace KB1 := Lib.hid (hkp.blk _ _ _ KB1.out (by decide) (by decide) (by decide) (by decide))
  replace RO2 := Lib.hid (RO2.out.kp hkp (by decide) (by decide) (by decide) (by decide))
  replace KB2 := Lib.hid (hkp.blk _ _ _ KB2.out (by decide) (by decide) (by decide) (by decide))
  clear hro hm hoth hkp hbl
  have hb : Below w18.heap.size w18 (w18.alloc (.cells #[.int .i64 0, .bool false, .string { data := #[] }, .slice A3 1 c3] 33)) := (Below.refl _ _).alloc (Nat.le_refl _) _
  have KB3 : Hid (Blk (w18.alloc (.cells #[.int .i64 0, .bool false, .string { data := #[] }, .slice A3 1 c3] 33)) w18.heap.size #[.int .i64 0, .bool false, .string { data := #[] }, .slice A3 1 c3] 33) := Lib.hid (Blk.new w18 _ 33)
  replace HB := Lib.hid (stepB HB.out hb)
  replace HQ := Lib.hid (HQ.out.later hb)
  replace RO0 := Lib.hid (RO0.out.later hb)
  replace KB0 := Lib.hid (KB0.out.later hb)
  replace RO1 := Lib.hid (RO1.out.later hb)
  replace KB1 := Lib.hid (KB1.out.later hb)
  replace RO2 := Lib.hid (RO2.out.later hb)
  replace KB2 := Lib.hid (KB2.out.later hb)
  replace RO3 := Lib.hid (RO3.out.later hb)
  clear hb
  go_upto_region 7 with (fail)
  generalize w18.alloc (.cells #[.int .i64 0, .bool false, .string { data := #[] }, .slice A3 1 c3] 33) = w19 at *
  obtain ⟨b3, hbj⟩ : ∃ z, w18.heap.size = z := ⟨_, rfl⟩
  rw [hbj] at KB3 ⊢
  clear hbj
  have hdo := mq_do' HQ.out 0 2 9 { data := #[98] } { data := #[97] } { data := #[] } 5 0 5 0 rfl rfl fl5 (cok_of (x := (5, 2, { data := #[98] }, { data := #[97] }, { data := #[] }, 9, 0)) (by decide) (by decide) (by decide) (by decide) (by decide) (by decide) (by decide))
  rw [fk_sc4] at hdo
  go_wp2_with fail
  refine hdo.mono ?_
  clear hdo
  rintro e w20 ⟨A4, c4, rfl, hro, hm, hoth, hkp, hbl⟩
  have RO4 := Lib.hid (hro.base HB.out.size)
  replace HB := Lib.hid (hbl _ _ HB.out (Nat.le_refl _))
  replace HQ := Lib.hid hm
  replace RO0 := Lib.hid (RO0.out.kp hkp (by decide) (by decide) (by decide) (by decide))
  replace KB0 := Lib.hid (hkp.blk _ _ _ KB0.out (by decide) (by decide) (by decide) (by decide))
  replace RO1 := Lib.hid (RO1.out.kp hkp (by decide) (by decide) (by decide) (by decide))
  replace KB1 := Lib.hid (hkp.blk _ _ _ KB1.out (by decide) (by decide) (by decide) (by decide))
  replace RO2 := Lib.hid (RO2.out.kp hkp (by decide) (by decide) (by decide) (by decide))
  replace KB2 := Lib.hid (hkp.blk _ _ _ KB2.out (by decide) (by decide) (by decide) (by decide))
  replace RO3 := Lib.hid (RO3.out.kp hkp (by decide) (by decide) (by decide) (by decide))
  replace KB3 := Lib.hid (hkp.blk _ _ _ KB3.out (by decide) (by decide) (by decide) (by decide))
  clear hro hm hoth hkp hbl
  have hb : Below w20.heap.size w20 (w20.alloc (.cells #[.int .i64 0, .bool false, .string { data := #[] }, .slice A4 0 c4] 33)) := (Below.refl _ _).alloc (Nat.le_refl _) _
  have KB4 : Hid (Blk (w20.alloc (.cells #[.int .i64 0, .bool false, .string { data := #[] }, .slice A4 0 c4] 33)) w20.heap.size #[.int .i64 0, .bool false, .string { data := #[] }, .slice A4 0 c4] 33) := Lib.hid (Blk.new w20 _ 33)
  replace HB := Lib.hid (stepB HB.out hb)
  replace HQ := Lib.hid (HQ.out.later hb)
  replace RO0 := Lib.hid (RO0.out.later hb)
  replace KB0 := Lib.hid (KB0.out.later hb)
  replace RO1 := Lib.hid (RO1.out.later hb)
  replace KB1 := Lib.hid (KB1.out.later hb)
  replace RO2 := Lib.hid (RO2.out.later hb)
  replace KB2 := Lib.hid (KB2.out.later hb)
  replace RO3 := Lib.hid (RO3.out.later hb)
  replace KB3 := Lib.hid (KB3.out.later hb)
  replace RO4 := Lib.hid (RO4.out.later hb)
  clear hb
  go_upto_region 8 with (fail)
  generalize w20.alloc (.cells #[.int .i64 0, .bool false, .string { data := #[] }, .slice A4 0 c4] 33) = w21 at *
  obtain ⟨b4, hbj⟩ : ∃ z, w20.heap.size = z := ⟨_, rfl⟩
  rw [hbj] at KB4 ⊢
  clear hbj
  go_upto_region 9 with (fail)
  obtain ⟨g0, o0, rfl, hg0, _⟩ := (RO0.out.rsl pvc_len).2 (by decide)
  clear hg0
  obtain ⟨g1, o1, rfl, hg1, _⟩ := (RO1.out.rsl pvc_len).2 (by decide)
  clear hg1
  obtain ⟨g2, o2, rfl, hg2, _⟩ := (RO2.out.rsl pvc_len).2 (by decide)
  clear hg2
  obtain ⟨g3, o3, rfl, hg3, _⟩ := (RO3.out.rsl pvc_len).2 (by decide)
  clear hg3
  have hb : Below w21.heap.size w21 ((w21.alloc (.cells #[.string { data := #[97] }, .string { data := #[52] }] 129)).alloc (.cells #[.string { data := #[98] }, .string { data := #[49] }] 129)) := ((Below.refl _ _).alloc (Nat.le_refl _) _).alloc (by simp) _
  have KX : Hid (Blk ((w21.alloc (.cells #[.string { data := #[97] }, .string { data := #[52] }] 129)).alloc (.cells #[.string { data := #[98] }, .string { data := #[49] }] 129)) w21.heap.size #[.string { data := #[97] }, .string { data := #[52] }] 129) := Lib.hid ((Blk.new w21 _ 129).alloc _)
  have KY : Hid (Blk ((w21.alloc (.cells #[.string { data := #[97] }, .string { data := #[52] }] 129)).alloc (.cells #[.string { data := #[98] }, .string { data := #[49] }] 129)) (w21.heap.size + 1) #[.string { data := #[98] }, .string { data := #[49] }] 129) := Lib.hid (Blk.new2 _ _ 129 (by simp))
  replace HB := Lib.hid (stepB HB.out hb)
  replace HQ := Lib.hid (HQ.out.later hb)
  replace RO0 := Lib.hid (RO0.out.later hb)
  replace KB0 := Lib.hid (KB0.out.later hb)
  replace RO1 := Lib.hid (RO1.out.later hb)
  replace KB1 := Lib.hid (KB1.out.later hb)
  replace RO2 := Lib.hid (RO2.out.later hb)
  replace KB2 := Lib.hid (KB2.out.later hb)
  replace RO3 := Lib.hid (RO3.out.later hb)
  replace KB3 := Lib.hid (KB3.out.later hb)
  replace RO4 := Lib.hid (RO4.out.later hb)
  replace KB4 := Lib.hid (KB4.out.later hb)
  clear hb
  generalize ((w21.alloc (.cells #[.string { data := #[97] }, .string { data := #[52] }] 129)).alloc (.cells #[.string { data := #[98] }, .string { data := #[49] }] 129)) = v0 at *
  obtain ⟨bx, hbx⟩ : ∃ z, w21.heap.size = z := ⟨_, rfl⟩
  rw [hbx] at KX KY ⊢
  clear hbx
  obtain ⟨cy, hcy⟩ : ∃ z, bx + 1 = z := ⟨_, rfl⟩
  rw [hcy] at KY ⊢
  clear hcy
  have HF : Hid (∀ W, Kp v0 W → W.cell? ⟨b0, 3, none⟩ = some (.slice (some ⟨g0, o0, none⟩) 2 c0) ∧ W.cell? ⟨g0, o0, none⟩ = some (.string { data := #[97] }) ∧ W.cell? ⟨g0, o0 + 1, none⟩ = some (.string { data := #[52] }) ∧ W.cell? ⟨g0, o0 + 2, none⟩ = some (.string { data := #[98] }) ∧ W.cell? ⟨g0, o0 + 2 + 1, none⟩ = some (.string { data := #[49] }) ∧ W.cell? ⟨b1, 3, none⟩ = some (.slice (some ⟨g1, o1, none⟩) 1 c1) ∧ W.cell? ⟨g1, o1, none⟩ = some (.string { data := #[97] }) ∧ W.cell? ⟨g1, o1 + 1, none⟩ = some (.string { data := #[52] }) ∧ W.cell? ⟨b2, 3, none⟩ = some (.slice (some ⟨g2, o2, none⟩) 1 c2) ∧ W.cell? ⟨g2, o2, none⟩ = some (.string { data := #[98] }) ∧ W.cell? ⟨g2, o2 + 1, none⟩ = some (.string { data := #[49] }) ∧ W.cell? ⟨b3, 3, none⟩ = some (.slice (some ⟨g3, o3, none⟩) 1 c3) ∧ W.cell? ⟨g3, o3, none⟩ = some (.string { data := #[97] }) ∧ W.cell? ⟨g3, o3 + 1, none⟩ = some (.string { data := #[52] }) ∧ W.cell? ⟨b4, 3, none⟩ = some (.slice A4 0 c4) ∧ W.cell? ⟨bx, 0, none⟩ = some (.string { data := #[97] }) ∧ W.cell? ⟨bx, 1, none⟩ = some (.string { data := #[52] }) ∧ W.cell? ⟨cy, 0, none⟩ = some (.string { data := #[98] }) ∧ W.cell? ⟨cy, 1, none⟩ = some (.string { data := #[49] })) := Lib.hid (fun W hW => by
    have kb0 := (show Blk W b0 _ 33 from hW.blk _ _ _ KB0.out (by decide) (by decide) (by decide) (by decide)).cell 3
    have kb1 := (show Blk W b1 _ 33 from hW.blk _ _ _ KB1.out (by decide) (by decide) (by decide) (by decide)).cell 3
    have kb2 := (show Blk W b2 _ 33 from hW.blk _ _ _ KB2.out (by decide) (by decide) (by decide) (by decide)).cell 3
    have kb3 := (show Blk W b3 _ 33 from hW.blk _ _ _ KB3.out (by decide) (by decide) (by decide) (by decide)).cell 3
    have kb4 := (show Blk W b4 _ 33 from hW.blk _ _ _ KB4.out (by decide) (by decide) (by decide) (by decide)).cell 3
    have kbx := (show Blk W bx _ 129 from hW.blk _ _ _ KX.out (by decide) (by decide) (by decide) (by decide)).cell
    have kcy := (show Blk W cy _ 129 from hW.blk _ _ _ KY.out (by decide) (by decide) (by decide) (by decide)).cell
    obtain ⟨_, _, e0, _, r0⟩ := ((RO0.out.kp hW (by decide) (by decide) (by decide) (by decide)).rsl pvc_len).2 (by decide)
    cases e0
    obtain ⟨_, _, e1, _, r1⟩ := ((RO1.out.kp hW (by decide) (by decide) (by decide) (by decide)).rsl pvc_len).2 (by decide)
    cases e1
    obtain ⟨_, _, e2, _, r2⟩ := ((RO2.out.kp hW (by decide) (by decide) (by decide) (by decide)).rsl pvc_len).2 (by decide)
    cases e2
    obtain ⟨_, _, e3, _, r3⟩ := ((RO3.out.kp hW (by decide) (by decide) (by decide) (by decide)).rsl pvc_len).2 (by decide)
    cases e3
    exact ⟨kb0, r0 0 ({ data := #[97] }, { data := #[52] }) rfl 0 (by decide), r0 0 ({ data := #[97] }, { data := #[52] }) rfl 1 (by decide), r0 1 ({ data := #[98] }, { data := #[49] }) rfl 0 (by decide), r0 1 ({ data := #[98] }, { data := #[49] }) rfl 1 (by decide), kb1, r1 0 ({ data := #[97] }, { data := #[52] }) rfl 0 (by decide), r1 0 ({ data := #[97] }, { data := #[52] }) rfl 1 (by decide), kb2, r2 0 ({ data := #[98] }, { data := #[49] }) rfl 0 (by decide), r2 0 ({ data := #[98] }, { data := #[49] }) rfl 1 (by decide), kb3, r3 0 ({ data := #[97] }, { data := #[52] }) rfl 0 (by decide), r3 0 ({ data := #[97] }, { data := #[52] }) rfl 1 (by decide), kb4, kbx 0, kbx 1, kcy 0, kcy 1⟩)
  have ii00 : ∀ W, (Instr.indexAt 31 (.slice (some ⟨g0, o0, none⟩) 2 c0) (.int .i64 0)).run Try.prog W = .ok (.pointer (some ⟨g0, o0, none⟩)) W := fun W => idx31 g0 o0 2 c0 0 0 rfl (by decide) W
  have ii01 : ∀ W, (Instr.indexAt 31 (.slice (some ⟨g0, o0, none⟩) 2 c0) (.int .i64 1)).run Try.prog W = .ok (.pointer (some ⟨g0, o0 + 2, none⟩)) W := fun W => idx31 g0 o0 2 c0 1 1 rfl (by decide) W
  have ii10 : ∀ W, (Instr.indexAt 31 (.slice (some ⟨g1, o1, none⟩) 1 c1) (.int .i64 0)).run Try.prog W = .ok (.pointer (some ⟨g1, o1, none⟩)) W := fun W => idx31 g1 o1 1 c1 0 0 rfl (by decide) W
  have ii20 : ∀ W, (Instr.indexAt 31 (.slice (some ⟨g2, o2, none⟩) 1 c2) (.int .i64 0)).run Try.prog W = .ok (.pointer (some ⟨g2, o2, none⟩)) W := fun W => idx31 g2 o2 1 c2 0 0 rfl (by decide) W
  have ii30 : ∀ W, (Instr.indexAt 31 (.slice (some ⟨g3, o3, none⟩) 1 c3) (.int .i64 0)).run Try.prog W = .ok (.pointer (some ⟨g3, o3, none⟩)) W := fun W => idx31 g3 o3 1 c3 0 0 rfl (by decide) W
  have e4 : ∀ W, (binOp BinOp.neq 129 (.agg #[.string { data := #[97] }, .string { data := #[52] }]) (.agg #[.string { data := #[97] }, .string { data := #[52] }])).run Try.prog W = .ok (.bool false) W := fun W => by
    have := ne129 ({ data := #[97] }, { data := #[52] }) ({ data := #[97] }, { data := #[52] }) W
    rw [decide_eq_true rfl] at this
    exact this
  have e1 : ∀ W, (binOp BinOp.neq 129 (.agg #[.string { data := #[98] }, .string { data := #[49] }]) (.agg #[.string { data := #[98] }, .string { data := #[49] }])).run Try.prog W = .ok (.bool false) W := fun W => by
    have := ne129 ({ data := #[98] }, { data := #[49] }) ({ data := #[98] }, { data := #[49] }) W
    rw [decide_eq_true rfl] at this
    exact this
  clear KX KY KB0 RO0 KB1 RO1 KB2 RO2 KB3 RO3 KB4 RO4
  refine wp_region_noPanic ?_
  obtain ⟨W0, rfl⟩ : ∃ W0 : World, W0 = v0 := ⟨_, rfl⟩
  refine wp_region_held_drew (S := fun W => Kp W0 W) (by kernel_rfl) ((Kp.of_below (Below.drew (Below.refl _ _)))) (fun hHeld => ?_)
  replace HB := Lib.hid (Below.drew HB.out)
  replace HQ := Lib.hid (HQ.out.later (Below.drew (Below.refl _ _)))
  have HKP : Hid (Kp W0 (World.drew W0)) := Lib.hid (Kp.of_below (Below.drew (Below.refl _ _)))
  generalize World.drew W0 = Wd at *
  refine wpAnyH_take (i := 0) (oi := { dst := some 62, op := Op.fieldAddr 33 (Operand.tmp 3) 3, type := 0, pos := "outright.go:94", after := #[], guard := none }) (v := ?_) rfl (by kernel_rfl) (by kernel_rfl) (by kernel_rfl) (fun _ _ _ h => h) (Or.inl ⟨by rfl, ?_⟩) (by assumption) ?_
  rotate_left
  · intro W hSw
    clear hSw
    go_simp
    try with_reducible rfl
  simp only [Act.put, List.setIfInBounds_toArray, List.set_cons_zero, List.set_cons_succ]
  refine wpAnyH_take (i := 1) (oi := { dst := some 63, op := Op.load 31 (Operand.tmp 62), type := 31, pos := "outright.go:94", after := #[{ on := 0, ground := Ground.data }], guard := none }) (v := ?_) rfl (by kernel_rfl) (by kernel_rfl) (by kernel_rfl) (fun _ _ _ h => h) (Or.inl ⟨by rfl, ?_⟩) (by assumption) ?_
  rotate_left
  · intro W hSw
    obtain ⟨q0, q1, q2, q3, q4, q5, q6, q7, q8, q9, q10, q11, q12, q13, q14, q15, q16, q17, q18⟩ := HF.out _ hSw
    clear hSw
    go_simp
    try with_reducible rfl
  simp only [Act.put, List.setIfInBounds_toArray, List.set_cons_zero, List.set_cons_succ]
  refine wpAnyH_take (i := 2) (oi := { dst := some 64, op := Op.call { callee := Callee.builtin Builtin.len, args := #[Operand.tmp 63], argTypes := #[31] }, type := 3, pos := "outright.go:94", after := #[{ on := 1, ground := Ground.data }], guard := none }) (v := ?_) rfl (by kernel_rfl) (by kernel_rfl) (by kernel_rfl) (fun _ _ _ h => h) (Or.inl ⟨by rfl, ?_⟩) (by assumption) ?_
  rotate_left
  · intro W hSw
    clear hSw
    go_simp
    try with_reducible rfl
  simp only [Act.put, List.setIfInBounds_toArray, List.set_cons_zero, List.set_cons_succ]
  refine wpAnyH_take (i := 3) (oi := { dst := some 65, op := Op.binOp BinOp.neq 3 (Operand.tmp 64) (Operand.const (Value.int IntKind.i64 2)) 3, type := 4, pos := "outright.go:94", after := #[{ on := 2, ground := Ground.data }], guard := none }) (v := ?_) rfl (by kernel_rfl) (by kernel_rfl) (by kernel_rfl) (fun _ _ _ h => h) (Or.inl ⟨by rfl, ?_⟩) (by assumption) ?_
  rotate_left
  · intro W hSw
    clear hSw
    go_simp
    try with_reducible rfl
  simp only [Act.put, List.setIfInBounds_toArray, List.set_cons_zero, List.set_cons_succ]
  refine wpAnyH_take (i := 4) (oi := { dst := some 66, op := Op.move (Operand.tmp 65), type := 4, pos := "outright.go:94", after := #[{ on := 3, ground := Ground.data }], guard := none }) (v := ?_) rfl (by kernel_rfl) (by kernel_rfl) (by kernel_rfl) (fun _ _ _ h => h) (Or.inl ⟨by rfl, ?_⟩) (by assumption) ?_
  rotate_left
  · intro W hSw
    clear hSw
    go_simp
    try with_reducible rfl
  simp only [Act.put, List.setIfInBounds_toArray, List.set_cons_zero, List.set_cons_succ]
  refine wpAnyH_take (i := 5) (oi := { dst := some 67, op := Op.fieldAddr 33 (Operand.tmp 3) 3, type := 0, pos := "outright.go:94", after := #[{ on := 4, ground := Ground.guard }], guard := some (4, false) }) (v := ?_) rfl (by kernel_rfl) (by kernel_rfl) (by kernel_rfl) (fun _ _ _ h => h) (Or.inl ⟨by rfl, ?_⟩) (by assumption) ?_
  rotate_left
  · intro W hSw
    clear hSw
    go_simp
    try with_reducible rfl
  simp only [Act.put, List.setIfInBounds_toArray, List.set_cons_zero, List.set_cons_succ]
  refine wpAnyH_take (i := 6) (oi := { dst := some 68, op := Op.load 31 (Operand.tmp 67), type := 31, pos := "outright.go:94", after := #[{ on := 5, ground := Ground.data }, { on := 4, ground := Ground.guard }], guard := some (4, false) }) (v := ?_) rfl (by kernel_rfl) (by kernel_rfl) (by kernel_rfl) (fun _ _ _ h => h) (Or.inl ⟨by rfl, ?_⟩) (by assumption) ?_
  rotate_left
  · intro W hSw
    obtain ⟨q0, q1, q2, q3, q4, q5, q6, q7, q8, q9, q10, q11, q12, q13, q14, q15, q16, q17, q18⟩ := HF.out _ hSw
    clear hSw
    go_simp
    try with_reducible rfl
  simp only [Act.put, List.setIfInBounds_toArray, List.set_cons_zero, List.set_cons_succ]
  refine wpAnyH_take (i := 7) (oi := { dst := some 69, op := Op.indexAddr 31 (Operand.tmp 68) (Operand.const (Value.int IntKind.i64 0)), type := 0, pos := "outright.go:94", after := #[{ on := 6, ground := Ground.data }, { on := 4, ground := Ground.guard }], guard := some (4, false) }) (v := ?_) rfl (by kernel_rfl) (by kernel_rfl) (by kernel_rfl) (fun _ _ _ h => h) (Or.inl ⟨by rfl, ?_⟩) (by assumption) ?_
  rotate_left
  · intro W hSw
    obtain ⟨q0, q1, q2, q3, q4, q5, q6, q7, q8, q9, q10, q11, q12, q13, q14, q15, q16, q17, q18⟩ := HF.out _ hSw
    clear hSw
    go_simp
    try with_reducible rfl
  simp only [Act.put, List.setIfInBounds_toArray, List.set_cons_zero, List.set_cons_succ]
  refine wpAnyH_take (i := 8) (oi := { dst := some 70, op := Op.load 129 (Operand.tmp 69), type := 129, pos := "outright.go:94", after := #[{ on := 7, ground := Ground.data }, { on := 4, ground := Ground.guard }], guard := some (4, false) }) (v := ?_) rfl (by kernel_rfl) (by kernel_rfl) (by kernel_rfl) (fun _ _ _ h => h) (Or.inl ⟨by rfl, ?_⟩) (by assumption) ?_
  rotate_left
  · intro W hSw
    obtain ⟨q0, q1, q2, q3, q4, q5, q6, q7, q8, q9, q10, q11, q12, q13, q14, q15, q16, q17, q18⟩ := HF.out _ hSw
    clear hSw
    go_simp
    try with_reducible rfl
  simp only [Act.put, List.setIfInBounds_toArray, List.set_cons_zero, List.set_cons_succ]
  refine wpAnyH_take (i := 9) (oi := { dst := some 71, op := Op.load 129 (Operand.tmp 8), type := 129, pos := "outright.go:94", after := #[{ on := 4, ground := Ground.guard }], guard := some (4, false) }) (v := ?_) rfl (by kernel_rfl) (by kernel_rfl) (by kernel_rfl) (fun _ _ _ h => h) (Or.inl ⟨by rfl, ?_⟩) (by assumption) ?_
  rotate_left
  · intro W hSw
    obtain ⟨q0, q1, q2, q3, q4, q5, q6, q7, q8, q9, q10, q11, q12, q13, q14, q15, q16, q17, q18⟩ := HF.out _ hSw
    clear hSw
    go_simp
    try with_reducible rfl
  simp only [Act.put, List.setIfInBounds_toArray, List.set_cons_zero, List.set_cons_succ]
  refine wpAnyH_take (i := 10) (oi := { dst := some 72, op := Op.binOp BinOp.neq 129 (Operand.tmp 70) (Operand.tmp 71) 129, type := 4, pos := "outright.go:94", after := #[{ on := 8, ground := Ground.data }, { on := 9, ground := Ground.data }, { on := 4, ground := Ground.guard }], guard := some (4, false) }) (v := ?_) rfl (by kernel_rfl) (by kernel_rfl) (by kernel_rfl) (fun _ _ _ h => h) (Or.inl ⟨by rfl, ?_⟩) (by assumption) ?_
  rotate_left
  · intro W hSw
    obtain ⟨q0, q1, q2, q3, q4, q5, q6, q7, q8, q9, q10, q11, q12, q13, q14, q15, q16, q17, q18⟩ := HF.out _ hSw
    clear hSw
    go_simp
    try with_reducible rfl
  simp only [Act.put, List.setIfInBounds_toArray, List.set_cons_zero, List.set_cons_succ]
  refine wpAnyH_take (i := 11) (oi := { dst := some 73, op := Op.pick (Operand.tmp 66) (Operand.const (Value.bool true)) (Operand.tmp 72), type := 4, pos := "outright.go:94", after := #[{ on := 4, ground := Ground.data }, { on := 10, ground := Ground.data }], guard := none }) (v := ?_) rfl (by kernel_rfl) (by kernel_rfl) (by kernel_rfl) (fun _ _ _ h => h) (Or.inl ⟨by rfl, ?_⟩) (by assumption) ?_
  rotate_left
  · intro W hSw
    clear hSw
    go_simp
    try with_reducible rfl
  simp only [Act.put, List.setIfInBounds_toArray, List.set_cons_zero, List.set_cons_succ]
  refine wpAnyH_take (i := 12) (oi := { dst := some 74, op := Op.move (Operand.tmp 73), type := 4, pos := "outright.go:94", after := #[{ on := 11, ground := Ground.data }, { on := 4, ground := Ground.chain }], guard := none }) (v := ?_) rfl (by kernel_rfl) (by kernel_rfl) (by kernel_rfl) (fun _ _ _ h => h) (Or.inl ⟨by rfl, ?_⟩) (by assumption) ?_
  rotate_left
  · intro W hSw
    clear hSw
    go_simp
    try with_reducible rfl
  simp only [Act.put, List.setIfInBounds_toArray, List.set_cons_zero, List.set_cons_succ]
  refine wpAnyH_take (i := 13) (oi := { dst := some 75, op := Op.fieldAddr 33 (Operand.tmp 3) 3, type := 0, pos := "outright.go:94", after := #[{ on := 12, ground := Ground.guard }], guard := some (12, false) }) (v := ?_) rfl (by kernel_rfl) (by kernel_rfl) (by kernel_rfl) (fun _ _ _ h => h) (Or.inl ⟨by rfl, ?_⟩) (by assumption) ?_
  rotate_left
  · intro W hSw
    clear hSw
    go_simp
    try with_reducible rfl
  simp only [Act.put, List.setIfInBounds_toArray, List.set_cons_zero, List.set_cons_succ]
  refine wpAnyH_take (i := 14) (oi := { dst := some 76, op := Op.load 31 (Operand.tmp 75), type := 31, pos := "outright.go:94", after := #[{ on := 13, ground := Ground.data }, { on := 12, ground := Ground.guard }], guard := some (12, false) }) (v := ?_) rfl (by kernel_rfl) (by kernel_rfl) (by kernel_rfl) (fun _ _ _ h => h) (Or.inl ⟨by rfl, ?_⟩) (by assumption) ?_
  rotate_left
  · intro W hSw
    obtain ⟨q0, q1, q2, q3, q4, q5, q6, q7, q8, q9, q10, q11, q12, q13, q14, q15, q16, q17, q18⟩ := HF.out _ hSw
    clear hSw
    go_simp
    try with_reducible rfl
  simp only [Act.put, List.setIfInBounds_toArray, List.set_cons_zero, List.set_cons_succ]
  refine wpAnyH_take (i := 15) (oi := { dst := some 77, op := Op.indexAddr 31 (Operand.tmp 76) (Operand.const (Value.int IntKind.i64 1)), type := 0, pos := "outright.go:94", after := #[{ on := 14, ground := Ground.data }, { on := 12, ground := Ground.guard }], guard := some (12, false) }) (v := ?_) rfl (by kernel_rfl) (by kernel_rfl) (by kernel_rfl) (fun _ _ _ h => h) (Or.inl ⟨by rfl, ?_⟩) (by assumption) ?_
  rotate_left
  · intro W hSw
    obtain ⟨q0, q1, q2, q3, q4, q5, q6, q7, q8, q9, q10, q11, q12, q13, q14, q15, q16, q17, q18⟩ := HF.out _ hSw
    clear hSw
    go_simp
    try with_reducible rfl
  simp only [Act.put, List.setIfInBounds_toArray, List.set_cons_zero, List.set_cons_succ]
  refine wpAnyH_take (i := 16) (oi := { dst := some 78, op := Op.load 129 (Operand.tmp 77), type := 129, pos := "outright.go:94", after := #[{ on := 15, ground := Ground.data }, { on := 12, ground := Ground.guard }], guard := some (12, false) }) (v := ?_) rfl (by kernel_rfl) (by kernel_rfl) (by kernel_rfl) (fun _ _ _ h => h) (Or.inl ⟨by rfl, ?_⟩) (by assumption) ?_
  rotate_left
  · intro W hSw
    obtain ⟨q0, q1, q2, q3, q4, q5, q6, q7, q8, q9, q10, q11, q12, q13, q14, q15, q16, q17, q18⟩ := HF.out _ hSw
    clear hSw
    go_simp
    try with_reducible rfl
  simp only [Act.put, List.setIfInBounds_toArray, List.set_cons_zero, List.set_cons_succ]
  refine wpAnyH_take (i := 17) (oi := { dst := some 79, op := Op.load 129 (Operand.tmp 9), type := 129, pos := "outright.go:94", after := #[{ on := 12, ground := Ground.guard }], guard := some (12, false) }) (v := ?_) rfl (by kernel_rfl) (by kernel_rfl) (by kernel_rfl) (fun _ _ _ h => h) (Or.inl ⟨by rfl, ?_⟩) (by assumption) ?_
  rotate_left
  · intro W hSw
    obtain ⟨q0, q1, q2, q3, q4, q5, q6, q7, q8, q9, q10, q11, q12, q13, q14, q15, q16, q17, q18⟩ := HF.out _ hSw
    clear hSw
    go_simp
    try with_reducible rfl
  simp only [Act.put, List.setIfInBounds_toArray, List.set_cons_zero, List.set_cons_succ]
  refine wpAnyH_take (i := 18) (oi := { dst := some 80, op := Op.binOp BinOp.neq 129 (Operand.tmp 78) (Operand.tmp 79) 129, type := 4, pos := "outright.go:94", after := #[{ on := 16, ground := Ground.data }, { on := 17, ground := Ground.data }, { on := 12, ground := Ground.guard }], guard := some (12, false) }) (v := ?_) rfl (by kernel_rfl) (by kernel_rfl) (by kernel_rfl) (fun _ _ _ h => h) (Or.inl ⟨by rfl, ?_⟩) (by assumption) ?_
  rotate_left
  · intro W hSw
    obtain ⟨q0, q1, q2, q3, q4, q5, q6, q7, q8, q9, q10, q11, q12, q13, q14, q15, q16, q17, q18⟩ := HF.out _ hSw
    clear hSw
    go_simp
    try with_reducible rfl
  simp only [Act.put, List.setIfInBounds_toArray, List.set_cons_zero, List.set_cons_succ]
  refine wpAnyH_take (i := 19) (oi := { dst := some 81, op := Op.pick (Operand.tmp 74) (Operand.const (Value.bool true)) (Operand.tmp 80), type := 4, pos := "outright.go:94", after := #[{ on := 12, ground := Ground.data }, { on := 18, ground := Ground.data }], guard := none }) (v := ?_) rfl (by kernel_rfl) (by kernel_rfl) (by kernel_rfl) (fun _ _ _ h => h) (Or.inl ⟨by rfl, ?_⟩) (by assumption) ?_
  rotate_left
  · intro W hSw
    clear hSw
    go_simp
    try with_reducible rfl
  simp only [Act.put, List.setIfInBounds_toArray, List.set_cons_zero, List.set_cons_succ]
  refine wpAnyH_take (i := 20) (oi := { dst := some 82, op := Op.move (Operand.tmp 81), type := 4, pos := "outright.go:94", after := #[{ on := 19, ground := Ground.data }, { on := 12, ground := Ground.chain }], guard := none }) (v := ?_) rfl (by kernel_rfl) (by kernel_rfl) (by kernel_rfl) (fun _ _ _ h => h) (Or.inl ⟨by rfl, ?_⟩) (by assumption) ?_
  rotate_left
  · intro W hSw
    clear hSw
    go_simp
    try with_reducible rfl
  simp only [Act.put, List.setIfInBounds_toArray, List.set_cons_zero, List.set_cons_succ]
  refine wpAnyH_take (i := 21) (oi := { dst := some 83, op := Op.fieldAddr 33 (Operand.tmp 4) 3, type := 0, pos := "outright.go:94", after := #[{ on := 20, ground := Ground.guard }], guard := some (20, false) }) (v := ?_) rfl (by kernel_rfl) (by kernel_rfl) (by kernel_rfl) (fun _ _ _ h => h) (Or.inl ⟨by rfl, ?_⟩) (by assumption) ?_
  rotate_left
  · intro W hSw
    clear hSw
    go_simp
    try with_reducible rfl
  simp only [Act.put, List.setIfInBounds_toArray, List.set_cons_zero, List.set_cons_succ]
  refine wpAnyH_take (i := 22) (oi := { dst := some 84, op := Op.load 31 (Operand.tmp 83), type := 31, pos := "outright.go:94", after := #[{ on := 21, ground := Ground.data }, { on := 20, ground := Ground.guard }], guard := some (20, false) }) (v := ?_) rfl (by kernel_rfl) (by kernel_rfl) (by kernel_rfl) (fun _ _ _ h => h) (Or.inl ⟨by rfl, ?_⟩) (by assumption) ?_
  rotate_left
  · intro W hSw
    obtain ⟨q0, q1, q2, q3, q4, q5, q6, q7, q8, q9, q10, q11, q12, q13, q14, q15, q16, q17, q18⟩ := HF.out _ hSw
    clear hSw
    go_simp
    try with_reducible rfl
  simp only [Act.put, List.setIfInBounds_toArray, List.set_cons_zero, List.set_cons_succ]
  refine wpAnyH_take (i := 23) (oi := { dst := some 85, op := Op.call { callee := Callee.builtin Builtin.len, args := #[Operand.tmp 84], argTypes := #[31] }, type := 3, pos := "outright.go:94", after := #[{ on := 22, ground := Ground.data }, { on := 20, ground := Ground.guard }], guard := some (20, false) }) (v := ?_) rfl (by kernel_rfl) (by kernel_rfl) (by kernel_rfl) (fun _ _ _ h => h) (Or.inl ⟨by rfl, ?_⟩) (by assumption) ?_
  rotate_left
  · intro W hSw
    clear hSw
    go_simp
    try with_reducible rfl
  simp only [Act.put, List.setIfInBounds_toArray, List.set_cons_zero, List.set_cons_succ]
  refine wpAnyH_take (i := 24) (oi := { dst := some 86, op := Op.binOp BinOp.neq 3 (Operand.tmp 85) (Operand.const (Value.int IntKind.i64 1)) 3, type := 4, pos := "outright.go:94", after := #[{ on := 23, ground := Ground.data }, { on := 20, ground := Ground.guard }], guard := some (20, false) }) (v := ?_) rfl (by kernel_rfl) (by kernel_rfl) (by kernel_rfl) (fun _ _ _ h => h) (Or.inl ⟨by rfl, ?_⟩) (by assumption) ?_
  rotate_left
  · intro W hSw
    clear hSw
    go_simp
    try with_reducible rfl
  simp only [Act.put, List.setIfInBounds_toArray, List.set_cons_zero, List.set_cons_succ]
  refine wpAnyH_take (i := 25) (oi := { dst := some 87, op := Op.pick (Operand.tmp 82) (Operand.const (Value.bool true)) (Operand.tmp 86), type := 4, pos := "outright.go:94", after := #[{ on := 20, ground := Ground.data }, { on := 24, ground := Ground.data }], guard := none }) (v := ?_) rfl (by kernel_rfl) (by kernel_rfl) (by kernel_rfl) (fun _ _ _ h => h) (Or.inl ⟨by rfl, ?_⟩) (by assumption) ?_
  rotate_left
  · intro W hSw
    clear hSw
    go_simp
    try with_reducible rfl
  simp only [Act.put, List.setIfInBounds_toArray, List.set_cons_zero, List.set_cons_succ]
  refine wpAnyH_take (i := 26) (oi := { dst := some 88, op := Op.move (Operand.tmp 87), type := 4, pos := "outright.go:94", after := #[{ on := 25, ground := Ground.data }, { on := 20, ground := Ground.chain }], guard := none }) (v := ?_) rfl (by kernel_rfl) (by kernel_rfl) (by kernel_rfl) (fun _ _ _ h => h) (Or.inl ⟨by rfl, ?_⟩) (by assumption) ?_
  rotate_left
  · intro W hSw
    clear hSw
    go_simp
    try with_reducible rfl
  simp only [Act.put, List.setIfInBounds_toArray, List.set_cons_zero, List.set_cons_succ]
  refine wpAnyH_take (i := 27) (oi := { dst := some 89, op := Op.fieldAddr 33 (Operand.tmp 4) 3, type := 0, pos := "outright.go:94", after := #[{ on := 26, ground := Ground.guard }], guard := some (26, false) }) (v := ?_) rfl (by kernel_rfl) (by kernel_rfl) (by kernel_rfl) (fun _ _ _ h => h) (Or.inl ⟨by rfl, ?_⟩) (by assumption) ?_
  rotate_left
  · intro W hSw
    clear hSw
    go_simp
    try with_reducible rfl
  simp only [Act.put, List.setIfInBounds_toArray, List.set_cons_zero, List.set_cons_succ]
  refine wpAnyH_take (i := 28) (oi := { dst := some 90, op := Op.load 31 (Operand.tmp 89), type := 31, pos := "outright.go:94", after := #[{ on := 27, ground := Ground.data }, { on := 26, ground := Ground.guard }], guard := some (26, false) }) (v := ?_) rfl (by kernel_rfl) (by kernel_rfl) (by kernel_rfl) (fun _ _ _ h => h) (Or.inl ⟨by rfl, ?_⟩) (by assumption) ?_
  rotate_left
  · intro W hSw
    obtain ⟨q0, q1, q2, q3, q4, q5, q6, q7, q8, q9, q10, q11, q12, q13, q14, q15, q16, q17, q18⟩ := HF.out _ hSw
    clear hSw
    go_simp
    try with_reducible rfl
  simp only [Act.put, List.setIfInBounds_toArray, List.set_cons_zero, List.set_cons_succ]
  refine wpAnyH_take (i := 29) (oi := { dst := some 91, op := Op.indexAddr 31 (Operand.tmp 90) (Operand.const (Value.int IntKind.i64 0)), type := 0, pos := "outright.go:94", after := #[{ on := 28, ground := Ground.data }, { on := 26, ground := Ground.guard }], guard := some (26, false) }) (v := ?_) rfl (by kernel_rfl) (by kernel_rfl) (by kernel_rfl) (fun _ _ _ h => h) (Or.inl ⟨by rfl, ?_⟩) (by assumption) ?_
  rotate_left
  · intro W hSw
    obtain ⟨q0, q1, q2, q3, q4, q5, q6, q7, q8, q9, q10, q11, q12, q13, q14, q15, q16, q17, q18⟩ := HF.out _ hSw
    clear hSw
    go_simp
    try with_reducible rfl
  simp only [Act.put, List.setIfInBounds_toArray, List.set_cons_zero, List.set_cons_succ]
  refine wpAnyH_take (i := 30) (oi := { dst := some 92, op := Op.load 129 (Operand.tmp 91), type := 129, pos := "outright.go:94", after := #[{ on := 29, ground := Ground.data }, { on := 26, ground := Ground.guard }], guard := some (26, false) }) (v := ?_) rfl (by kernel_rfl) (by kernel_rfl) (by kernel_rfl) (fun _ _ _ h => h) (Or.inl ⟨by rfl, ?_⟩) (by assumption) ?_
  rotate_left
  · intro W hSw
    obtain ⟨q0, q1, q2, q3, q4, q5, q6, q7, q8, q9, q10, q11, q12, q13, q14, q15, q16, q17, q18⟩ := HF.out _ hSw
    clear hSw
    go_simp
    try with_reducible rfl
  simp only [Act.put, List.setIfInBounds_toArray, List.set_cons_zero, List.set_cons_succ]
  refine wpAnyH_take (i := 31) (oi := { dst := some 93, op := Op.load 129 (Operand.tmp 8), type := 129, pos := "outright.go:94", after := #[{ on := 26, ground := Ground.guard }], guard := some (26, false) }) (v := ?_) rfl (by kernel_rfl) (by kernel_rfl) (by kernel_rfl) (fun _ _ _ h => h) (Or.inl ⟨by rfl, ?_⟩) (by assumption) ?_
  rotate_left
  · intro W hSw
    obtain ⟨q0, q1, q2, q3, q4, q5, q6, q7, q8, q9, q10, q11, q12, q13, q14, q15, q16, q17, q18⟩ := HF.out _ hSw
    clear hSw
    go_simp
    try with_reducible rfl
  simp only [Act.put, List.setIfInBounds_toArray, List.set_cons_zero, List.set_cons_succ]
  refine wpAnyH_take (i := 32) (oi := { dst := some 94, op := Op.binOp BinOp.neq 129 (Operand.tmp 92) (Operand.tmp 93) 129, type := 4, pos := "outright.go:94", after := #[{ on := 30, ground := Ground.data }, { on := 31, ground := Ground.data }, { on := 26, ground := Ground.guard }], guard := some (26, false) }) (v := ?_) rfl (by kernel_rfl) (by kernel_rfl) (by kernel_rfl) (fun _ _ _ h => h) (Or.inl ⟨by rfl, ?_⟩) (by assumption) ?_
  rotate_left
  · intro W hSw
    obtain ⟨q0, q1, q2, q3, q4, q5, q6, q7, q8, q9, q10, q11, q12, q13, q14, q15, q16, q17, q18⟩ := HF.out _ hSw
    clear hSw
    go_simp
    try with_reducible rfl
  simp only [Act.put, List.setIfInBounds_toArray, List.set_cons_zero, List.set_cons_succ]
  refine wpAnyH_take (i := 33) (oi := { dst := some 95, op := Op.pick (Operand.tmp 88) (Operand.const (Value.bool true)) (Operand.tmp 94), type := 4, pos := "outright.go:94", after := #[{ on := 26, ground := Ground.data }, { on := 32, ground := Ground.data }], guard := none }) (v := ?_) rfl (by kernel_rfl) (by kernel_rfl) (by kernel_rfl) (fun _ _ _ h => h) (Or.inl ⟨by rfl, ?_⟩) (by assumption) ?_
  rotate_left
  · intro W hSw
    clear hSw
    go_simp
    try with_reducible rfl
  simp only [Act.put, List.setIfInBounds_toArray, List.set_cons_zero, List.set_cons_succ]
  refine wpAnyH_take (i := 34) (oi := { dst := some 96, op := Op.move (Operand.tmp 95), type := 4, pos := "outright.go:94", after := #[{ on := 33, ground := Ground.data }, { on := 26, ground := Ground.chain }], guard := none }) (v := ?_) rfl (by kernel_rfl) (by kernel_rfl) (by kernel_rfl) (fun _ _ _ h => h) (Or.inl ⟨by rfl, ?_⟩) (by assumption) ?_
  rotate_left
  · intro W hSw
    clear hSw
    go_simp
    try with_reducible rfl
  simp only [Act.put, List.setIfInBounds_toArray, List.set_cons_zero, List.set_cons_succ]
  refine wpAnyH_take (i := 35) (oi := { dst := some 97, op := Op.fieldAddr 33 (Operand.tmp 5) 3, type := 0, pos := "outright.go:94", after := #[{ on := 34, ground := Ground.guard }], guard := some (34, false) }) (v := ?_) rfl (by kernel_rfl) (by kernel_rfl) (by kernel_rfl) (fun _ _ _ h => h) (Or.inl ⟨by rfl, ?_⟩) (by assumption) ?_
  rotate_left
  · intro W hSw
    clear hSw
    go_simp
    try with_reducible rfl
  simp only [Act.put, List.setIfInBounds_toArray, List.set_cons_zero, List.set_cons_succ]
  refine wpAnyH_take (i := 36) (oi := { dst := some 98, op := Op.load 31 (Operand.tmp 97), type := 31, pos := "outright.go:94", after := #[{ on := 35, ground := Ground.data }, { on := 34, ground := Ground.guard }], guard := some (34, false) }) (v := ?_) rfl (by kernel_rfl) (by kernel_rfl) (by kernel_rfl) (fun _ _ _ h => h) (Or.inl ⟨by rfl, ?_⟩) (by assumption) ?_
  rotate_left
  · intro W hSw
    obtain ⟨q0, q1, q2, q3, q4, q5, q6, q7, q8, q9, q10, q11, q12, q13, q14, q15, q16, q17, q18⟩ := HF.out _ hSw
    clear hSw
    go_simp
    try with_reducible rfl
  simp only [Act.put, List.setIfInBounds_toArray, List.set_cons_zero, List.set_cons_succ]
  refine wpAnyH_take (i := 37) (oi := { dst := some 99, op := Op.call { callee := Callee.builtin Builtin.len, args := #[Operand.tmp 98], argTypes := #[31] }, type := 3, pos := "outright.go:94", after := #[{ on := 36, ground := Ground.data }, { on := 34, ground := Ground.guard }], guard := some (34, false) }) (v := ?_) rfl (by kernel_rfl) (by kernel_rfl) (by kernel_rfl) (fun _ _ _ h => h) (Or.inl ⟨by rfl, ?_⟩) (by assumption) ?_
  rotate_left
  · intro W hSw
    clear hSw
    go_simp
    try with_reducible rfl
  simp only [Act.put, List.setIfInBounds_toArray, List.set_cons_zero, List.set_cons_succ]
  refine wpAnyH_take (i := 38) (oi := { dst := some 100, op := Op.binOp BinOp.neq 3 (Operand.tmp 99) (Operand.const (Value.int IntKind.i64 1)) 3, type := 4, pos := "outright.go:94", after := #[{ on := 37, ground := Ground.data }, { on := 34, ground := Ground.guard }], guard := some (34, false) }) (v := ?_) rfl (by kernel_rfl) (by kernel_rfl) (by kernel_rfl) (fun _ _ _ h => h) (Or.inl ⟨by rfl, ?_⟩) (by assumption) ?_
  rotate_left
  · intro W hSw
    clear hSw
    go_simp
    try with_reducible rfl
  simp only [Act.put, List.setIfInBounds_toArray, List.set_cons_zero, List.set_cons_succ]
  refine wpAnyH_take (i := 39) (oi := { dst := some 101, op := Op.pick (Operand.tmp 96) (Operand.const (Value.bool true)) (Operand.tmp 100), type := 4, pos := "outright.go:94", after := #[{ on := 34, ground := Ground.data }, { on := 38, ground := Ground.data }], guard := none }) (v := ?_) rfl (by kernel_rfl) (by kernel_rfl) (by kernel_rfl) (fun _ _ _ h => h) (Or.inl ⟨by rfl, ?_⟩) (by assumption) ?_
  rotate_left
  · intro W hSw
    clear hSw
    go_simp
    try with_reducible rfl
  simp only [Act.put, List.setIfInBounds_toArray, List.set_cons_zero, List.set_cons_succ]
  refine wpAnyH_take (i := 40) (oi := { dst := some 102, op := Op.move (Operand.tmp 101), type := 4, pos := "outright.go:94", after := #[{ on := 39, ground := Ground.data }, { on := 34, ground := Ground.chain }], guard := none }) (v := ?_) rfl (by kernel_rfl) (by kernel_rfl) (by kernel_rfl) (fun _ _ _ h => h) (Or.inl ⟨by rfl, ?_⟩) (by assumption) ?_
  rotate_left
  · intro W hSw
    clear hSw
    go_simp
    try with_reducible rfl
  simp only [Act.put, List.setIfInBounds_toArray, List.set_cons_zero, List.set_cons_succ]
  refine wpAnyH_take (i := 41) (oi := { dst := some 103, op := Op.fieldAddr 33 (Operand.tmp 5) 3, type := 0, pos := "outright.go:94", after := #[{ on := 40, ground := Ground.guard }], guard := some (40, false) }) (v := ?_) rfl (by kernel_rfl) (by kernel_rfl) (by kernel_rfl) (fun _ _ _ h => h) (Or.inl ⟨by rfl, ?_⟩) (by assumption) ?_
  rotate_left
  · intro W hSw
    clear hSw
    go_simp
    try with_reducible rfl
  simp only [Act.put, List.setIfInBounds_toArray, List.set_cons_zero, List.set_cons_succ]
  refine wpAnyH_take (i := 42) (oi := { dst := some 104, op := Op.load 31 (Operand.tmp 103), type := 31, pos := "outright.go:94", after := #[{ on := 41, ground := Ground.data }, { on := 40, ground := Ground.guard }], guard := some (40, false) }) (v := ?_) rfl (by kernel_rfl) (by kernel_rfl) (by kernel_rfl) (fun _ _ _ h => h) (Or.inl ⟨by rfl, ?_⟩) (by assumption) ?_
  rotate_left
  · intro W hSw
    obtain ⟨q0, q1, q2, q3, q4, q5, q6, q7, q8, q9, q10, q11, q12, q13, q14, q15, q16, q17, q18⟩ := HF.out _ hSw
    clear hSw
    go_simp
    try with_reducible rfl
  simp only [Act.put, List.setIfInBounds_toArray, List.set_cons_zero, List.set_cons_succ]
  refine wpAnyH_take (i := 43) (oi := { dst := some 105, op := Op.indexAddr 31 (Operand.tmp 104) (Operand.const (Value.int IntKind.i64 0)), type := 0, pos := "outright.go:94", after := #[{ on := 42, ground := Ground.data }, { on := 40, ground := Ground.guard }], guard := some (40, false) }) (v := ?_) rfl (by kernel_rfl) (by kernel_rfl) (by kernel_rfl) (fun _ _ _ h => h) (Or.inl ⟨by rfl, ?_⟩) (by assumption) ?_
  rotate_left
  · intro W hSw
    obtain ⟨q0, q1, q2, q3, q4, q5, q6, q7, q8, q9, q10, q11, q12, q13, q14, q15, q16, q17, q18⟩ := HF.out _ hSw
    clear hSw
    go_simp
    try with_reducible rfl
  simp only [Act.put, List.setIfInBounds_toArray, List.set_cons_zero, List.set_cons_succ]
  refine wpAnyH_take (i := 44) (oi := { dst := some 106, op := Op.load 129 (Operand.tmp 105), type := 129, pos := "outright.go:94", after := #[{ on := 43, ground := Ground.data }, { on := 40, ground := Ground.guard }], guard := some (40, false) }) (v := ?_) rfl (by kernel_rfl) (by kernel_rfl) (by kernel_rfl) (fun _ _ _ h => h) (Or.inl ⟨by rfl, ?_⟩) (by assumption) ?_
  rotate_left
  · intro W hSw
    obtain ⟨q0, q1, q2, q3, q4, q5, q6, q7, q8, q9, q10, q11, q12, q13, q14, q15, q16, q17, q18⟩ := HF.out _ hSw
    clear hSw
    go_simp
    try with_reducible rfl
  simp only [Act.put, List.setIfInBounds_toArray, List.set_cons_zero, List.set_cons_succ]
  refine wpAnyH_take (i := 45) (oi := { dst := some 107, op := Op.load 129 (Operand.tmp 9), type := 129, pos := "outright.go:94", after := #[{ on := 40, ground := Ground.guard }], guard := some (40, false) }) (v := ?_) rfl (by kernel_rfl) (by kernel_rfl) (by kernel_rfl) (fun _ _ _ h => h) (Or.inl ⟨by rfl, ?_⟩) (by assumption) ?_
  rotate_left
  · intro W hSw
    obtain ⟨q0, q1, q2, q3, q4, q5, q6, q7, q8, q9, q10, q11, q12, q13, q14, q15, q16, q17, q18⟩ := HF.out _ hSw
    clear hSw
    go_simp
    try with_reducible rfl
  simp only [Act.put, List.setIfInBounds_toArray, List.set_cons_zero, List.set_cons_succ]
  refine wpAnyH_take (i := 46) (oi := { dst := some 108, op := Op.binOp BinOp.neq 129 (Operand.tmp 106) (Operand.tmp 107) 129, type := 4, pos := "outright.go:94", after := #[{ on := 44, ground := Ground.data }, { on := 45, ground := Ground.data }, { on := 40, ground := Ground.guard }], guard := some (40, false) }) (v := ?_) rfl (by kernel_rfl) (by kernel_rfl) (by kernel_rfl) (fun _ _ _ h => h) (Or.inl ⟨by rfl, ?_⟩) (by assumption) ?_
  rotate_left
  · intro W hSw
    obtain ⟨q0, q1, q2, q3, q4, q5, q6, q7, q8, q9, q10, q11, q12, q13, q14, q15, q16, q17, q18⟩ := HF.out _ hSw
    clear hSw
    go_simp
    try with_reducible rfl
  simp only [Act.put, List.setIfInBounds_toArray, List.set_cons_zero, List.set_cons_succ]
  refine wpAnyH_take (i := 47) (oi := { dst := some 109, op := Op.pick (Operand.tmp 102) (Operand.const (Value.bool true)) (Operand.tmp 108), type := 4, pos := "outright.go:94", after := #[{ on := 40, ground := Ground.data }, { on := 46, ground := Ground.data }], guard := none }) (v := ?_) rfl (by kernel_rfl) (by kernel_rfl) (by kernel_rfl) (fun _ _ _ h => h) (Or.inl ⟨by rfl, ?_⟩) (by assumption) ?_
  rotate_left
  · intro W hSw
    clear hSw
    go_simp
    try with_reducible rfl
  simp only [Act.put, List.setIfInBounds_toArray, List.set_cons_zero, List.set_cons_succ]
  refine wpAnyH_take (i := 48) (oi := { dst := some 110, op := Op.move (Operand.tmp 109), type := 4, pos := "outright.go:94", after := #[{ on := 47, ground := Ground.data }, { on := 40, ground := Ground.chain }], guard := none }) (v := ?_) rfl (by kernel_rfl) (by kernel_rfl) (by kernel_rfl) (fun _ _ _ h => h) (Or.inl ⟨by rfl, ?_⟩) (by assumption) ?_
  rotate_left
  · intro W hSw
    clear hSw
    go_simp
    try with_reducible rfl
  simp only [Act.put, List.setIfInBounds_toArray, List.set_cons_zero, List.set_cons_succ]
  refine wpAnyH_take (i := 49) (oi := { dst := some 111, op := Op.fieldAddr 33 (Operand.tmp 6) 3, type := 0, pos := "outright.go:94", after := #[{ on := 48, ground := Ground.guard }], guard := some (48, false) }) (v := ?_) rfl (by kernel_rfl) (by kernel_rfl) (by kernel_rfl) (fun _ _ _ h => h) (Or.inl ⟨by rfl, ?_⟩) (by assumption) ?_
  rotate_left
  · intro W hSw
    clear hSw
    go_simp
    try with_reducible rfl
  simp only [Act.put, List.setIfInBounds_toArray, List.set_cons_zero, List.set_cons_succ]
  refine wpAnyH_take (i := 50) (oi := { dst := some 112, op := Op.load 31 (Operand.tmp 111), type := 31, pos := "outright.go:94", after := #[{ on := 49, ground := Ground.data }, { on := 48, ground := Ground.guard }], guard := some (48, false) }) (v := ?_) rfl (by kernel_rfl) (by kernel_rfl) (by kernel_rfl) (fun _ _ _ h => h) (Or.inl ⟨by rfl, ?_⟩) (by assumption) ?_
  rotate_left
  · intro W hSw
    obtain ⟨q0, q1, q2, q3, q4, q5, q6, q7, q8, q9, q10, q11, q12, q13, q14, q15, q16, q17, q18⟩ := HF.out _ hSw
    clear hSw
    go_simp
    try with_reducible rfl
  simp only [Act.put, List.setIfInBounds_toArray, List.set_cons_zero, List.set_cons_succ]
  refine wpAnyH_take (i := 51) (oi := { dst := some 113, op := Op.call { callee := Callee.builtin Builtin.len, args := #[Operand.tmp 112], argTypes := #[31] }, type := 3, pos := "outright.go:94", after := #[{ on := 50, ground := Ground.data }, { on := 48, ground := Ground.guard }], guard := some (48, false) }) (v := ?_) rfl (by kernel_rfl) (by kernel_rfl) (by kernel_rfl) (fun _ _ _ h => h) (Or.inl ⟨by rfl, ?_⟩) (by assumption) ?_
  rotate_left
  · intro W hSw
    clear hSw
    go_simp
    try with_reducible rfl
  simp only [Act.put, List.setIfInBounds_toArray, List.set_cons_zero, List.set_cons_succ]
  refine wpAnyH_take (i := 52) (oi := { dst := some 114, op := Op.binOp BinOp.neq 3 (Operand.tmp 113) (Operand.const (Value.int IntKind.i64 1)) 3, type := 4, pos := "outright.go:94", after := #[{ on := 51, ground := Ground.data }, { on := 48, ground := Ground.guard }], guard := some (48, false) }) (v := ?_) rfl (by kernel_rfl) (by kernel_rfl) (by kernel_rfl) (fun _ _ _ h => h) (Or.inl ⟨by rfl, ?_⟩) (by assumption) ?_
  rotate_left
  · intro W hSw
    clear hSw
    go_simp
    try with_reducible rfl
  simp only [Act.put, List.setIfInBounds_toArray, List.set_cons_zero, List.set_cons_succ]
  refine wpAnyH_take (i := 53) (oi := { dst := some 115, op := Op.pick (Operand.tmp 110) (Operand.const (Value.bool true)) (Operand.tmp 114), type := 4, pos := "outright.go:94", after := #[{ on := 48, ground := Ground.data }, { on := 52, ground := Ground.data }], guard := none }) (v := ?_) rfl (by kernel_rfl) (by kernel_rfl) (by kernel_rfl) (fun _ _ _ h => h) (Or.inl ⟨by rfl, ?_⟩) (by assumption) ?_
  rotate_left
  · intro W hSw
    clear hSw
    go_simp
    try with_reducible rfl
  simp only [Act.put, List.setIfInBounds_toArray, List.set_cons_zero, List.set_cons_succ]
  refine wpAnyH_take (i := 54) (oi := { dst := some 116, op := Op.move (Operand.tmp 115), type := 4, pos := "outright.go:94", after := #[{ on := 53, ground := Ground.data }, { on := 48, ground := Ground.chain }], guard := none }) (v := ?_) rfl (by kernel_rfl) (by kernel_rfl) (by kernel_rfl) (fun _ _ _ h => h) (Or.inl ⟨by rfl, ?_⟩) (by assumption) ?_
  rotate_left
  · intro W hSw
    clear hSw
    go_simp
    try with_reducible rfl
  simp only [Act.put, List.setIfInBounds_toArray, List.set_cons_zero, List.set_cons_succ]
  refine wpAnyH_take (i := 55) (oi := { dst := some 117, op := Op.fieldAddr 33 (Operand.tmp 6) 3, type := 0, pos := "outright.go:94", after := #[{ on := 54, ground := Ground.guard }], guard := some (54, false) }) (v := ?_) rfl (by kernel_rfl) (by kernel_rfl) (by kernel_rfl) (fun _ _ _ h => h) (Or.inl ⟨by rfl, ?_⟩) (by assumption) ?_
  rotate_left
  · intro W hSw
    clear hSw
    go_simp
    try with_reducible rfl
  simp only [Act.put, List.setIfInBounds_toArray, List.set_cons_zero, List.set_cons_succ]
  refine wpAnyH_take (i := 56) (oi := { dst := some 118, op := Op.load 31 (Operand.tmp 117), type := 31, pos := "outright.go:94", after := #[{ on := 55, ground := Ground.data }, { on := 54, ground := Ground.guard }], guard := some (54, false) }) (v := ?_) rfl (by kernel_rfl) (by kernel_rfl) (by kernel_rfl) (fun _ _ _ h => h) (Or.inl ⟨by rfl, ?_⟩) (by assumption) ?_
  rotate_left
  · intro W hSw
    obtain ⟨q0, q1, q2, q3, q4, q5, q6, q7, q8, q9, q10, q11, q12, q13, q14, q15, q16, q17, q18⟩ := HF.out _ hSw
    clear hSw
    go_simp
    try with_reducible rfl
  simp only [Act.put, List.setIfInBounds_toArray, List.set_cons_zero, List.set_cons_succ]
  refine wpAnyH_take (i := 57) (oi := { dst := some 119, op := Op.indexAddr 31 (Operand.tmp 118) (Operand.const (Value.int IntKind.i64 0)), type := 0, pos := "outright.go:94", after := #[{ on := 56, ground := Ground.data }, { on := 54, ground := Ground.guard }], guard := some (54, false) }) (v := ?_) rfl (by kernel_rfl) (by kernel_rfl) (by kernel_rfl) (fun _ _ _ h => h) (Or.inl ⟨by rfl, ?_⟩) (by assumption) ?_
  rotate_left
  · intro W hSw
    obtain ⟨q0, q1, q2, q3, q4, q5, q6, q7, q8, q9, q10, q11, q12, q13, q14, q15, q16, q17, q18⟩ := HF.out _ hSw
    clear hSw
    go_simp
    try with_reducible rfl
  simp only [Act.put, List.setIfInBounds_toArray, List.set_cons_zero, List.set_cons_succ]
  refine wpAnyH_take (i := 58) (oi := { dst := some 120, op := Op.load 129 (Operand.tmp 119), type := 129, pos := "outright.go:94", after := #[{ on := 57, ground := Ground.data }, { on := 54, ground := Ground.guard }], guard := some (54, false) }) (v := ?_) rfl (by kernel_rfl) (by kernel_rfl) (by kernel_rfl) (fun _ _ _ h => h) (Or.inl ⟨by rfl, ?_⟩) (by assumption) ?_
  rotate_left
  · intro W hSw
    obtain ⟨q0, q1, q2, q3, q4, q5, q6, q7, q8, q9, q10, q11, q12, q13, q14, q15, q16, q17, q18⟩ := HF.out _ hSw
    clear hSw
    go_simp
    try with_reducible rfl
  simp only [Act.put, List.setIfInBounds_toArray, List.set_cons_zero, List.set_cons_succ]
  refine wpAnyH_take (i := 59) (oi := { dst := some 121, op := Op.load 129 (Operand.tmp 8), type := 129, pos := "outright.go:94", after := #[{ on := 54, ground := Ground.guard }], guard := some (54, false) }) (v := ?_) rfl (by kernel_rfl) (by kernel_rfl) (by kernel_rfl) (fun _ _ _ h => h) (Or.inl ⟨by rfl, ?_⟩) (by assumption) ?_
  rotate_left
  · intro W hSw
    obtain ⟨q0, q1, q2, q3, q4, q5, q6, q7, q8, q9, q10, q11, q12, q13, q14, q15, q16, q17, q18⟩ := HF.out _ hSw
    clear hSw
    go_simp
    try with_reducible rfl
  simp only [Act.put, List.setIfInBounds_toArray, List.set_cons_zero, List.set_cons_succ]
  refine wpAnyH_take (i := 60) (oi := { dst := some 122, op := Op.binOp BinOp.neq 129 (Operand.tmp 120) (Operand.tmp 121) 129, type := 4, pos := "outright.go:94", after := #[{ on := 58, ground := Ground.data }, { on := 59, ground := Ground.data }, { on := 54, ground := Ground.guard }], guard := some (54, false) }) (v := ?_) rfl (by kernel_rfl) (by kernel_rfl) (by kernel_rfl) (fun _ _ _ h => h) (Or.inl ⟨by rfl, ?_⟩) (by assumption) ?_
  rotate_left
  · intro W hSw
    obtain ⟨q0, q1, q2, q3, q4, q5, q6, q7, q8, q9, q10, q11, q12, q13, q14, q15, q16, q17, q18⟩ := HF.out _ hSw
    clear hSw
    go_simp
    try with_reducible rfl
  simp only [Act.put, List.setIfInBounds_toArray, List.set_cons_zero, List.set_cons_succ]
  refine wpAnyH_take (i := 61) (oi := { dst := some 123, op := Op.pick (Operand.tmp 116) (Operand.const (Value.bool true)) (Operand.tmp 122), type := 4, pos := "outright.go:94", after := #[{ on := 54, ground := Ground.data }, { on := 60, ground := Ground.data }], guard := none }) (v := ?_) rfl (by kernel_rfl) (by kernel_rfl) (by kernel_rfl) (fun _ _ _ h => h) (Or.inl ⟨by rfl, ?_⟩) (by assumption) ?_
  rotate_left
  · intro W hSw
    clear hSw
    go_simp
    try with_reducible rfl
  simp only [Act.put, List.setIfInBounds_toArray, List.set_cons_zero, List.set_cons_succ]
  refine wpAnyH_take (i := 62) (oi := { dst := some 124, op := Op.move (Operand.tmp 123), type := 4, pos := "outright.go:94", after := #[{ on := 61, ground := Ground.data }, { on := 54, ground := Ground.chain }], guard := none }) (v := ?_) rfl (by kernel_rfl) (by kernel_rfl) (by kernel_rfl) (fun _ _ _ h => h) (Or.inl ⟨by rfl, ?_⟩) (by assumption) ?_
  rotate_left
  · intro W hSw
    clear hSw
    go_simp
    try with_reducible rfl
  simp only [Act.put, List.setIfInBounds_toArray, List.set_cons_zero, List.set_cons_succ]
  refine wpAnyH_take (i := 63) (oi := { dst := some 125, op := Op.fieldAddr 33 (Operand.tmp 7) 3, type := 0, pos := "outright.go:94", after := #[{ on := 62, ground := Ground.guard }], guard := some (62, false) }) (v := ?_) rfl (by kernel_rfl) (by kernel_rfl) (by kernel_rfl) (fun _ _ _ h => h) (Or.inl ⟨by rfl, ?_⟩) (by assumption) ?_
  rotate_left
  · intro W hSw
    clear hSw
    go_simp
    try with_reducible rfl
  simp only [Act.put, List.setIfInBounds_toArray, List.set_cons_zero, List.set_cons_succ]
  refine wpAnyH_take (i := 64) (oi := { dst := some 126, op := Op.load 31 (Operand.tmp 125), type := 31, pos := "outright.go:94", after := #[{ on := 63, ground := Ground.data }, { on := 62, ground := Ground.guard }], guard := some (62, false) }) (v := ?_) rfl (by kernel_rfl) (by kernel_rfl) (by kernel_rfl) (fun _ _ _ h => h) (Or.inl ⟨by rfl, ?_⟩) (by assumption) ?_
  rotate_left
  · intro W hSw
    obtain ⟨q0, q1, q2, q3, q4, q5, q6, q7, q8, q9, q10, q11, q12, q13, q14, q15, q16, q17, q18⟩ := HF.out _ hSw
    clear hSw
    go_simp
    try with_reducible rfl
  simp only [Act.put, List.setIfInBounds_toArray, List.set_cons_zero, List.set_cons_succ]
  refine wpAnyH_take (i := 65) (oi := { dst := some 127, op := Op.call { callee := Callee.builtin Builtin.len, args := #[Operand.tmp 126], argTypes := #[31] }, type := 3, pos := "outright.go:94", after := #[{ on := 64, ground := Ground.data }, { on := 62, ground := Ground.guard }], guard := some (62, false) }) (v := ?_) rfl (by kernel_rfl) (by kernel_rfl) (by kernel_rfl) (fun _ _ _ h => h) (Or.inl ⟨by rfl, ?_⟩) (by assumption) ?_
  rotate_left
  · intro W hSw
    clear hSw
    go_simp
    try with_reducible rfl
  simp only [Act.put, List.setIfInBounds_toArray, List.set_cons_zero, List.set_cons_succ]
  refine wpAnyH_take (i := 66) (oi := { dst := some 128, op := Op.binOp BinOp.neq 3 (Operand.tmp 127) (Operand.const (Value.int IntKind.i64 0)) 3, type := 4, pos := "outright.go:94", after := #[{ on := 65, ground := Ground.data }, { on := 62, ground := Ground.guard }], guard := some (62, false) }) (v := ?_) rfl (by kernel_rfl) (by kernel_rfl) (by kernel_rfl) (fun _ _ _ h => h) (Or.inl ⟨by rfl, ?_⟩) (by assumption) ?_
  rotate_left
  · intro W hSw
    clear hSw
    go_simp
    try with_reducible rfl
  simp only [Act.put, List.setIfInBounds_toArray, List.set_cons_zero, List.set_cons_succ]
  refine wpAnyH_take (i := 67) (oi := { dst := some 129, op := Op.pick (Operand.tmp 124) (Operand.const (Value.bool true)) (Operand.tmp 128), type := 4, pos := "outright.go:94", after := #[{ on := 62, ground := Ground.data }, { on := 66, ground := Ground.data }], guard := none }) (v := ?_) rfl (by kernel_rfl) (by kernel_rfl) (by kernel_rfl) (fun _ _ _ h => h) (Or.inl ⟨by rfl, ?_⟩) (by assumption) ?_
  rotate_left
  · intro W hSw
    clear hSw
    go_simp
    try with_reducible rfl
  simp only [Act.put, List.setIfInBounds_toArray, List.set_cons_zero, List.set_cons_succ]
  refine wpAnyH_take (i := 68) (oi := { dst := some 130, op := Op.move (Operand.tmp 129), type := 4, pos := "outright.go:94", after := #[{ on := 67, ground := Ground.data }, { on := 62, ground := Ground.chain }], guard := none }) (v := ?_) rfl (by kernel_rfl) (by kernel_rfl) (by kernel_rfl) (fun _ _ _ h => h) (Or.inl ⟨by rfl, ?_⟩) (by assumption) ?_
  rotate_left
  · intro W hSw
    clear hSw
    go_simp
    try with_reducible rfl
  simp only [Act.put, List.setIfInBounds_toArray, List.set_cons_zero, List.set_cons_succ]
  refine wpAnyH_take (i := 69) (oi := { dst := some 131, op := Op.move (Operand.tmp 0), type := 22, pos := "outright.go:94", after := #[{ on := 68, ground := Ground.guard }], guard := some (68, false) }) (v := ?_) rfl (by kernel_rfl) (by kernel_rfl) (by kernel_rfl) (fun _ _ _ h => h) (Or.inl ⟨by rfl, ?_⟩) (by assumption) ?_
  rotate_left
  · intro W hSw
    clear hSw
    go_simp
    try with_reducible rfl
  simp only [Act.put, List.setIfInBounds_toArray, List.set_cons_zero, List.set_cons_succ]
  refine wpAnyH_ready (rs := [70]) (by kernel_rfl) (by simp) (AllReadyH.cons (o := { dst := some 132, op := Op.call { callee := Callee.value (Operand.func 29), args := #[Operand.const (Value.int IntKind.u8 1), Operand.const (Value.int IntKind.i64 0), Operand.const (Value.string { data := #[] }), Operand.const (Value.string { data := #[] })], argTypes := #[5, 3, 9, 9] }, type := 36, pos := "outright.go:94", after := #[{ on := 68, ground := Ground.chain }, { on := 68, ground := Ground.guard }], guard := some (68, false) }) rfl (fun K hK => ?_) AllReadyH.nil)
  have HCL := Lib.hid (on_c 1 1 rfl 0 { data := #[] } { data := #[] } Wd)
  go_simp
  refine HCL.out.mono ?_
  rintro e w22 ⟨rfl, hb⟩
  replace HQ := Lib.hid (HQ.out.later hb)
  replace HB := Lib.hid (stepB HB.out hb)
  replace HKP := Lib.hid (HKP.out.trans (Kp.of_below hb))
  clear hb hHeld HCL
  refine hK.out _ _ (HKP.out) (fun hHeld => ?_)
  clear hK K
  refine wpAnyH_ready (rs := [71]) (by kernel_rfl) (by simp) (AllReadyH.cons (o := { dst := some 133, op := Op.call { callee := Callee.value (Operand.func 30), args := #[Operand.tmp 131, Operand.const (Value.int IntKind.i64 0), Operand.tmp 132, Operand.const (Value.int IntKind.i64 0), Operand.const (Value.bool false), Operand.const (Value.string { data := #[] })], argTypes := #[22, 3, 36, 30, 4, 9] }, type := 4, pos := "outright.go:94", after := #[{ on := 69, ground := Ground.data }, { on := 70, ground := Ground.data }, { on := 70, ground := Ground.chain }, { on := 68, ground := Ground.guard }], guard := some (68, false) }) rfl (fun K hK => ?_) AllReadyH.nil)
  have HCL := Lib.hid (mq_is HQ.out fl5 0 0 0 { data := #[] } { data := #[] } { data := #[] } 1 0 1 0 rfl rfl (cok_of (x := (1, 0, { data := #[] }, { data := #[] }, { data := #[] }, 0, 0)) (by decide) (by decide) (by decide) (by decide) (by decide) (by decide) (by decide)) 0 false { data := #[] } fd5)
  go_simp
  refine HCL.out.mono ?_
  rintro e w23 ⟨rfl, hq, hkp, hbl⟩
  replace HB := Lib.hid (hbl _ _ HB.out (Nat.le_refl _))
  replace HQ := Lib.hid hq
  replace HKP := Lib.hid (HKP.out.trans hkp)
  clear hq hkp hbl hHeld HCL
  refine hK.out _ _ (HKP.out) (fun hHeld => ?_)
  clear hK K
  refine wpAnyH_take (i := 72) (oi := { dst := some 134, op := Op.unOp UnOp.not 4 (Operand.tmp 133), type := 4, pos := "outright.go:94", after := #[{ on := 71, ground := Ground.data }, { on := 68, ground := Ground.guard }], guard := some (68, false) }) (v := ?_) rfl (by kernel_rfl) (by kernel_rfl) (by kernel_rfl) (fun _ _ _ h => h) (Or.inl ⟨by rfl, ?_⟩) (by assumption) ?_
  rotate_left
  · intro W hSw
    clear hSw
    go_simp
    try with_reducible rfl
  simp only [Act.put, List.setIfInBounds_toArray, List.set_cons_zero, List.set_cons_succ]
  refine wpAnyH_take (i := 73) (oi := { dst := some 135, op := Op.pick (Operand.tmp 130) (Operand.const (Value.bool true)) (Operand.tmp 134), type := 4, pos := "outright.go:94", after := #[{ on := 68, ground := Ground.data }, { on := 72, ground := Ground.data }], guard := none }) (v := ?_) rfl (by kernel_rfl) (by kernel_rfl) (by kernel_rfl) (fun _ _ _ h => h) (Or.inl ⟨by rfl, ?_⟩) (by assumption) ?_
  rotate_left
  · intro W hSw
    clear hSw
    go_simp
    try with_reducible rfl
  simp only [Act.put, List.setIfInBounds_toArray, List.set_cons_zero, List.set_cons_succ]
  refine wpAnyH_take (i := 74) (oi := { dst := some 136, op := Op.move (Operand.tmp 135), type := 4, pos := "outright.go:94", after := #[{ on := 73, ground := Ground.data }, { on := 71, ground := Ground.chain }], guard := none }) (v := ?_) rfl (by kernel_rfl) (by kernel_rfl) (by kernel_rfl) (fun _ _ _ h => h) (Or.inl ⟨by rfl, ?_⟩) (by assumption) ?_
  rotate_left
  · intro W hSw
    clear hSw
    go_simp
    try with_reducible rfl
  simp only [Act.put, List.setIfInBounds_toArray, List.set_cons_zero, List.set_cons_succ]
  refine wpAnyH_take (i := 75) (oi := { dst := some 137, op := Op.move (Operand.tmp 0), type := 22, pos := "outright.go:94", after := #[{ on := 74, ground := Ground.guard }], guard := some (74, false) }) (v := ?_) rfl (by kernel_rfl) (by kernel_rfl) (by kernel_rfl) (fun _ _ _ h => h) (Or.inl ⟨by rfl, ?_⟩) (by assumption) ?_
  rotate_left
  · intro W hSw
    clear hSw
    go_simp
    try with_reducible rfl
  simp only [Act.put, List.setIfInBounds_toArray, List.set_cons_zero, List.set_cons_succ]
  refine wpAnyH_ready (rs := [76]) (by kernel_rfl) (by simp) (AllReadyH.cons (o := { dst := some 138, op := Op.call { callee := Callee.value (Operand.func 29), args := #[Operand.const (Value.int IntKind.u8 1), Operand.const (Value.int IntKind.i64 0), Operand.const (Value.string { data := #[] }), Operand.const (Value.string { data := #[] })], argTypes := #[5, 3, 9, 9] }, type := 36, pos := "outright.go:94", after := #[{ on := 74, ground := Ground.chain }, { on := 74, ground := Ground.guard }], guard := some (74, false) }) rfl (fun K hK => ?_) AllReadyH.nil)
  have HCL := Lib.hid (on_c 1 1 rfl 0 { data := #[] } { data := #[] } w23)
  go_simp
  refine HCL.out.mono ?_
  rintro e w24 ⟨rfl, hb⟩
  replace HQ := Lib.hid (HQ.out.later hb)
  replace HB := Lib.hid (stepB HB.out hb)
  replace HKP := Lib.hid (HKP.out.trans (Kp.of_below hb))
  clear hb hHeld HCL
  refine hK.out _ _ (HKP.out) (fun hHeld => ?_)
  clear hK K
  refine wpAnyH_ready (rs := [77]) (by kernel_rfl) (by simp) (AllReadyH.cons (o := { dst := some 139, op := Op.call { callee := Callee.value (Operand.func 30), args := #[Operand.tmp 137, Operand.const (Value.int IntKind.i64 1), Operand.tmp 138, Operand.const (Value.int IntKind.i64 34), Operand.const (Value.bool false), Operand.const (Value.string { data := #[] })], argTypes := #[22, 3, 36, 30, 4, 9] }, type := 4, pos := "outright.go:94", after := #[{ on := 75, ground := Ground.data }, { on := 76, ground := Ground.data }, { on := 76, ground := Ground.chain }, { on := 74, ground := Ground.guard }], guard := some (74, false) }) rfl (fun K hK => ?_) AllReadyH.nil)
  have HCL := Lib.hid (mq_is HQ.out fl6 1 0 0 { data := #[] } { data := #[] } { data := #[] } 1 0 1 0 rfl rfl (cok_of (x := (1, 0, { data := #[] }, { data := #[] }, { data := #[] }, 0, 0)) (by decide) (by decide) (by decide) (by decide) (by decide) (by decide) (by decide)) 34 false { data := #[] } fd6)
  go_simp
  refine HCL.out.mono ?_
  rintro e w25 ⟨rfl, hq, hkp, hbl⟩
  replace HB := Lib.hid (hbl _ _ HB.out (Nat.le_refl _))
  replace HQ := Lib.hid hq
  replace HKP := Lib.hid (HKP.out.trans hkp)
  clear hq hkp hbl hHeld HCL
  refine hK.out _ _ (HKP.out) (fun hHeld => ?_)
  clear hK K
  refine wpAnyH_take (i := 78) (oi := { dst := some 140, op := Op.unOp UnOp.not 4 (Operand.tmp 139), type := 4, pos := "outright.go:94", after := #[{ on := 77, ground := Ground.data }, { on := 74, ground := Ground.guard }], guard := some (74, false) }) (v := ?_) rfl (by kernel_rfl) (by kernel_rfl) (by kernel_rfl) (fun _ _ _ h => h) (Or.inl ⟨by rfl, ?_⟩) (by assumption) ?_
  rotate_left
  · intro W hSw
    clear hSw
    go_simp
    try with_reducible rfl
  simp only [Act.put, List.setIfInBounds_toArray, List.set_cons_zero, List.set_cons_succ]
  refine wpAnyH_take (i := 79) (oi := { dst := some 141, op := Op.pick (Operand.tmp 136) (Operand.const (Value.bool true)) (Operand.tmp 140), type := 4, pos := "outright.go:94", after := #[{ on := 74, ground := Ground.data }, { on := 78, ground := Ground.data }], guard := none }) (v := ?_) rfl (by kernel_rfl) (by kernel_rfl) (by kernel_rfl) (fun _ _ _ h => h) (Or.inl ⟨by rfl, ?_⟩) (by assumption) ?_
  rotate_left
  · intro W hSw
    clear hSw
    go_simp
    try with_reducible rfl
  simp only [Act.put, List.setIfInBounds_toArray, List.set_cons_zero, List.set_cons_succ]
  refine wpAnyH_take (i := 80) (oi := { dst := some 142, op := Op.move (Operand.tmp 141), type := 4, pos := "outright.go:94", after := #[{ on := 79, ground := Ground.data }, { on := 77, ground := Ground.chain }], guard := none }) (v := ?_) rfl (by kernel_rfl) (by kernel_rfl) (by kernel_rfl) (fun _ _ _ h => h) (Or.inl ⟨by rfl, ?_⟩) (by assumption) ?_
  rotate_left
  · intro W hSw
    clear hSw
    go_simp
    try with_reducible rfl
  simp only [Act.put, List.setIfInBounds_toArray, List.set_cons_zero, List.set_cons_succ]
  refine wpAnyH_take (i := 81) (oi := { dst := some 143, op := Op.move (Operand.tmp 0), type := 22, pos := "outright.go:94", after := #[{ on := 80, ground := Ground.guard }], guard := some (80, false) }) (v := ?_) rfl (by kernel_rfl) (by kernel_rfl) (by kernel_rfl) (fun _ _ _ h => h) (Or.inl ⟨by rfl, ?_⟩) (by assumption) ?_
  rotate_left
  · intro W hSw
    clear hSw
    go_simp
    try with_reducible rfl
  simp only [Act.put, List.setIfInBounds_toArray, List.set_cons_zero, List.set_cons_succ]
  refine wpAnyH_ready (rs := [82]) (by kernel_rfl) (by simp) (AllReadyH.cons (o := { dst := some 144, op := Op.call { callee := Callee.value (Operand.func 29), args := #[Operand.const (Value.int IntKind.u8 6), Operand.const (Value.int IntKind.i64 2), Operand.const (Value.string { data := #[] }), Operand.const (Value.string { data := #[] })], argTypes := #[5, 3, 9, 9] }, type := 36, pos := "outright.go:94", after := #[{ on := 80, ground := Ground.chain }, { on := 80, ground := Ground.guard }], guard := some (80, false) }) rfl (fun K hK => ?_) AllReadyH.nil)
  have HCL := Lib.hid (on_c 6 6 rfl 2 { data := #[] } { data := #[] } w25)
  go_simp
  refine HCL.out.mono ?_
  rintro e w26 ⟨rfl, hb⟩
  replace HQ := Lib.hid (HQ.out.later hb)
  replace HB := Lib.hid (stepB HB.out hb)
  replace HKP := Lib.hid (HKP.out.trans (Kp.of_below hb))
  clear hb hHeld HCL
  refine hK.out _ _ (HKP.out) (fun hHeld => ?_)
  clear hK K
  refine wpAnyH_ready (rs := [83]) (by kernel_rfl) (by simp) (AllReadyH.cons (o := { dst := some 145, op := Op.call { callee := Callee.value (Operand.func 30), args := #[Operand.tmp 143, Operand.const (Value.int IntKind.i64 0), Operand.tmp 144, Operand.const (Value.int IntKind.i64 0), Operand.const (Value.bool false), Operand.const (Value.string { data := #[] })], argTypes := #[22, 3, 36, 30, 4, 9] }, type := 4, pos := "outright.go:94", after := #[{ on := 81, ground := Ground.data }, { on := 82, ground := Ground.data }, { on := 82, ground := Ground.chain }, { on := 80, ground := Ground.guard }], guard := some (80, false) }) rfl (fun K hK => ?_) AllReadyH.nil)
  have HCL := Lib.hid (mq_is HQ.out fl7 0 2 0 { data := #[] } { data := #[] } { data := #[] } 6 0 6 0 rfl rfl (cok_of (x := (6, 2, { data := #[] }, { data := #[] }, { data := #[] }, 0, 0)) (by decide) (by decide) (by decide) (by decide) (by decide) (by decide) (by decide)) 0 false { data := #[] } fd7)
  go_simp
  refine HCL.out.mono ?_
  rintro e w27 ⟨rfl, hq, hkp, hbl⟩
  replace HB := Lib.hid (hbl _ _ HB.out (Nat.le_refl _))
  replace HQ := Lib.hid hq
  replace HKP := Lib.hid (HKP.out.trans hkp)
  clear hq hkp hbl hHeld HCL
  refine hK.out _ _ (HKP.out) (fun hHeld => ?_)
  clear hK K
  refine wpAnyH_take (i := 84) (oi := { dst := some 146, op := Op.unOp UnOp.not 4 (Operand.tmp 145), type := 4, pos := "outright.go:94", after := #[{ on := 83, ground := Ground.data }, { on := 80, ground := Ground.guard }], guard := some (80, false) }) (v := ?_) rfl (by kernel_rfl) (by kernel_rfl) (by kernel_rfl) (fun _ _ _ h => h) (Or.inl ⟨by rfl, ?_⟩) (by assumption) ?_
  rotate_left
  · intro W hSw
    clear hSw
    go_simp
    try with_reducible rfl
  simp only [Act.put, List.setIfInBounds_toArray, List.set_cons_zero, List.set_cons_succ]
  refine wpAnyH_take (i := 85) (oi := { dst := some 147, op := Op.pick (Operand.tmp 142) (Operand.const (Value.bool true)) (Operand.tmp 146), type := 4, pos := "outright.go:94", after := #[{ on := 80, ground := Ground.data }, { on := 84, ground := Ground.data }], guard := none }) (v := ?_) rfl (by kernel_rfl) (by kernel_rfl) (by kernel_rfl) (fun _ _ _ h => h) (Or.inl ⟨by rfl, ?_⟩) (by assumption) ?_
  rotate_left
  · intro W hSw
    clear hSw
    go_simp
    try with_reducible rfl
  simp only [Act.put, List.setIfInBounds_toArray, List.set_cons_zero, List.set_cons_succ]
  refine wpAnyH_done (by kernel_rfl) (NoPanic.normal ?_) _
  clear hHeld HKP HF ii00 ii01 ii10 ii20 ii30 e4 e1
  go_wp2_with fail
  refine (on_c 1 1 rfl 0 { data := #[] } { data := #[] } _).mono ?_
  rintro e w28 ⟨rfl, hb⟩
  replace HB := Lib.hid (stepB HB.out hb)
  replace HQ := Lib.hid (HQ.out.later hb)
  clear hb
  go_wp2_with fail
  refine (mq_is HQ.out fl8 0 0 0 { data := #[] } { data := #[] } { data := #[] } 1 0 1 0 rfl rfl (cok_of (x := (1, 0, { data := #[] }, { data := #[] }, { data := #[] }, 0, 0)) (by decide) (by decide) (by decide) (by decide) (by decide) (by decide) (by decide)) 0 false { data := #[] } fd8).mono ?_
  rintro e w29 ⟨rfl, hq, hkp, hbl⟩
  replace HB := Lib.hid (hbl _ _ HB.out (Nat.le_refl _))
  replace HQ := Lib.hid hq
  clear hq hkp hbl
  go_wp2_with fail
  refine (on_c 3 3 rfl 3 { data := #[97] } { data := #[53] } _).mono ?_
  rintro e w30 ⟨rfl, hb⟩
  replace HB := Lib.hid (stepB HB.out hb)
  replace HQ := Lib.hid (HQ.out.later hb)
  clear hb
  go_wp2_with fail
  refine (mq_is HQ.out fl9 0 3 0 { data := #[97] } { data := #[] } { data := #[53] } 3 0 3 0 rfl rfl (cok_of (x := (3, 3, { data := #[97] }, { data := #[] }, { data := #[53] }, 0, 0)) (by decide) (by decide) (by decide) (by decide) (by decide) (by decide) (by decide)) 33 false { data := #[] } fd9).mono ?_
  rintro e w31 ⟨rfl, hq, hkp, hbl⟩
  replace HB := Lib.hid (hbl _ _ HB.out (Nat.le_refl _))
  replace HQ := Lib.hid hq
  clear hq hkp hbl
  go_wp2_with fail
  refine (on_c 3 3 rfl 4 { data := #[97] } { data := #[53] } _).mono ?_
  rintro e w32 ⟨rfl, hb⟩
  replace HB := Lib.hid (stepB HB.out hb)
  replace HQ := Lib.hid (HQ.out.later hb)
  clear hb
  go_wp2_with fail
  refine (mq_is HQ.out fl10 0 4 0 { data := #[97] } { data := #[] } { data := #[53] } 3 0 3 0 rfl rfl (cok_of (x := (3, 4, { data := #[97] }, { data := #[] }, { data := #[53] }, 0, 0)) (by decide) (by decide) (by decide) (by decide) (by decide) (by decide) (by decide)) 0 false { data := #[] } fd10).mono ?_
  rintro e w33 ⟨rfl, hq, hkp, hbl⟩
  replace HB := Lib.hid (hbl _ _ HB.out (Nat.le_refl _))
  replace HQ := Lib.hid hq
  clear hq hkp hbl
  go_wp2_with fail
  refine (on_c 6 6 rfl 4 { data := #[] } { data := #[] } _).mono ?_
  rintro e w34 ⟨rfl, hb⟩
  replace HB := Lib.hid (stepB HB.out hb)
  replace HQ := Lib.hid (HQ.out.later hb)
  clear hb
  go_wp2_with fail
  refine (mq_is HQ.out fl11 0 4 0 { data := #[] } { data := #[] } { data := #[] } 6 0 6 0 rfl rfl (cok_of (x := (6, 4, { data := #[] }, { data := #[] }, { data := #[] }, 0, 0)) (by decide) (by decide) (by decide) (by decide) (by decide) (by decide) (by decide)) 0 false { data := #[] } fd11).mono ?_
  rintro e w35 ⟨rfl, hq, hkp, hbl⟩
  replace HB := Lib.hid (hbl _ _ HB.out (Nat.le_refl _))
  replace HQ := Lib.hid hq
  clear hq hkp hbl
  go_wp2_with fail
  refine (on_c 1 1 rfl 0 { data := #[] } { data := #[] } _).mono ?_
  rintro e w36 ⟨rfl, hb⟩
  replace HB := Lib.hid (stepB HB.out hb)
  replace HQ := Lib.hid (HQ.out.later hb)
  clear hb
  go_wp2_with fail
  refine (mq_is HQ.out fl12 0 0 0 { data := #[] } { data := #[] } { data := #[] } 1 0 1 0 rfl rfl (cok_of (x := (1, 0, { data := #[] }, { data := #[] }, { data := #[] }, 0, 0)) (by decide) (by decide) (by decide) (by decide) (by decide) (by decide) (by decide)) 0 false { data := #[] } fd12).mono ?_
  rintro e w37 ⟨rfl, hq, hkp, hbl⟩
  replace HB := Lib.hid (hbl _ _ HB.out (Nat.le_refl _))
  replace HQ := Lib.hid hq
  clear hq hkp hbl
  go_wp2_with fail
  refine (on_c 3 3 rfl 5 { data := #[97] } { data := #[54] } _).mono ?_
  rintro e w38 ⟨rfl, hb⟩
  replace HB := Lib.hid (stepB HB.out hb)
  replace HQ := Lib.hid (HQ.out.later hb)
  clear hb
  go_wp2_with fail
  refine (mq_is HQ.out fl13 0 5 0 { data := #[97] } { data := #[] } { data := #[54] } 3 0 3 0 rfl rfl (cok_of (x := (3, 5, { data := #[97] }, { data := #[] }, { data := #[54] }, 0, 0)) (by decide) (by decide) (by decide) (by decide) (by decide) (by decide) (by decide)) 34 false { data := #[] } fd13).mono ?_
  rintro e w39 ⟨rfl, hq, hkp, hbl⟩
  replace HB := Lib.hid (hbl _ _ HB.out (Nat.le_refl _))
  replace HQ := Lib.hid hq
  clear hq hkp hbl
  go_wp2_with fail
  refine (on_c 4 4 rfl 5 { data := #[97] } { data := #[] } _).mono ?_
  rintro e w40 ⟨rfl, hb⟩
  replace HB := Lib.hid (stepB HB.out hb)
  replace HQ := Lib.hid (HQ.out.later hb)
  clear hb
  go_wp2_with fail
  refine (mq_is HQ.out fl14 0 5 0 { data := #[97] } { data := #[] } { data := #[] } 4 0 4 0 rfl rfl (cok_of (x := (4, 5, { data := #[97] }, { data := #[] }, { data := #[] }, 0, 0)) (by decide) (by decide) (by decide) (by decide) (by decide) (by decide) (by decide)) 34 false { data := #[] } fd14).mono ?_
  rintro e w41 ⟨rfl, hq, hkp, hbl⟩
  replace HB := Lib.hid (hbl _ _ HB.out (Nat.le_refl _))
  replace HQ := Lib.hid hq
  clear hq hkp hbl
  go_wp2_with fail
  refine (on_c 7 7 rfl 3 { data := #[] } { data := #[] } _).mono ?_
  rintro e w42 ⟨rfl, hb⟩
  replace HB := Lib.hid (stepB HB.out hb)
  replace HQ := Lib.hid (HQ.out.later hb)
  clear hb
  go_wp2_with fail
  refine (mq_is HQ.out fl15 0 3 0 { data := #[] } { data := #[] } { data := #[] } 7 0 7 0 rfl rfl (cok_of (x := (7, 3, { data := #[] }, { data := #[] }, { data := #[] }, 0, 0)) (by decide) (by decide) (by decide) (by decide) (by decide) (by decide) (by decide)) 0 false { data := #[] } fd15).mono ?_
  rintro e w43 ⟨rfl, hq, hkp, hbl⟩
  replace HB := Lib.hid (hbl _ _ HB.out (Nat.le_refl _))
  replace HQ := Lib.hid hq
  clear hq hkp hbl
  go_wp2_with fail
  refine (on_c 8 8 rfl 0 { data := #[] } { data := #[] } _).mono ?_
  rintro e w44 ⟨rfl, hb⟩
  replace HB := Lib.hid (stepB HB.out hb)
  replace HQ := Lib.hid (HQ.out.later hb)
  clear hb
  go_wp2_with fail
  refine (mq_is HQ.out fl16 0 0 0 { data := #[] } { data := #[] } { data := #[] } 8 0 8 0 rfl rfl (cok_of (x := (8, 0, { data := #[] }, { data := #[] }, { data := #[] }, 0, 0)) (by decide) (by decide) (by decide) (by decide) (by decide) (by decide) (by decide)) 0 false { data := #[] } fd16).mono ?_
  rintro e w45 ⟨rfl, hq, hkp, hbl⟩
  replace HB := Lib.hid (hbl _ _ HB.out (Nat.le_refl _))
  replace HQ := Lib.hid hq
  clear hq hkp hbl
  go_wp2_with fail
  refine (mq_floor HQ.out).mono ?_
  rintro e w46 ⟨rfl, rfl⟩
  rw [fk_floor]
  go_wp2_with fail
  refine (mq_versions HQ.out { data := #[97] } (by decide)).mono ?_
  rintro e w47 ⟨vv, rfl, hro, hb⟩
  rw [fk_vers] at hro
  obtain ⟨Av, cv, rfl, _, _⟩ := own_vrow hro
  clear hro
  replace HB := Lib.hid (stepB HB.out hb)
  replace HQ := Lib.hid (HQ.out.later hb)
  clear hb
  go_wp2_with fail
  refine (on_c 3 3 rfl 5 { data := #[97] } { data := #[54] } _).mono ?_
  rintro e w48 ⟨rfl, hb⟩
  replace HB := Lib.hid (stepB HB.out hb)
  replace HQ := Lib.hid (HQ.out.later hb)
  clear hb
  go_wp2_with fail
  refine (mq_is HQ.out fl17 0 5 0 { data := #[97] } { data := #[] } { data := #[54] } 3 0 3 0 rfl rfl (cok_of (x := (3, 5, { data := #[97] }, { data := #[] }, { data := #[54] }, 0, 0)) (by decide) (by decide) (by decide) (by decide) (by decide) (by decide) (by decide)) 0 false { data := #[] } fd17).mono ?_
  rintro e w49 ⟨rfl, hq, hkp, hbl⟩
  replace HB := Lib.hid (hbl _ _ HB.out (Nat.le_refl _))
  replace HQ := Lib.hid hq
  clear hq hkp hbl
  go_wp2_with fail
  refine (mq_intent HQ.out { data := #[97] } (by decide)).mono ?_
  rw [fk_int]
  rintro e w50 ⟨rfl, hb⟩
  unfold Ver.agg
  replace HB := Lib.hid (stepB HB.out hb)
  replace HQ := Lib.hid (HQ.out.later hb)
  clear hb
  have hb : Below w50.heap.size w50 (w50.alloc (.cells #[.int .i64 5, .int .i64 0, .bool false, .string { data := #[54] }] 26)) := (Below.refl _ _).alloc (Nat.le_refl _) _
  have KI : Hid (Blk (w50.alloc (.cells #[.int .i64 5, .int .i64 0, .bool false, .string { data := #[54] }] 26)) w50.heap.size #[.int .i64 5, .int .i64 0, .bool false, .string { data := #[54] }] 26) := Lib.hid (Blk.new w50 _ 26)
  replace HB := Lib.hid (stepB HB.out hb)
  replace HQ := Lib.hid (HQ.out.later hb)
  clear hb
  go_upto_region 16 with (fail)
  generalize w50.alloc (.cells #[.int .i64 5, .int .i64 0, .bool false, .string { data := #[54] }] 26) = wz at *
  generalize w50.heap.size = bz at *
  have z0 := KI.out.cell 0
  have z1 := KI.out.cell 1
  have z2 := KI.out.cell 2
  have z3 := KI.out.cell 3
  simp only [List.getElem?_toArray, List.getElem?_cons_zero, List.getElem?_cons_succ] at z0 z1 z2 z3
  have eq := eq26 ⟨5, 0, false, { data := #[54] }⟩
  go_wp2_with fail
  refine (mq_active HQ.out fl18).mono ?_
  rw [fk_act]
  rintro e wy ⟨rfl, hb⟩
  have HBF := Lib.hid (stepB HB.out hb)
  clear hb
  go_wp2
  go_ret
  exact ⟨rfl, HBF.out⟩
end Go.Proofs.Ytoinjnocopejjaa
