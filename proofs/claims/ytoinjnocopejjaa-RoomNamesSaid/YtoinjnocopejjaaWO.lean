/- WO, WP, WK in one. -/
import Derived.Test.YtoinjnocopejjaaOC
import Derived.Test.YtoinjnocopejjaaSA
import Derived.StillTailTactics
import Derived.Test.YtoinjnocopejjaaNB
import Derived.Test.YtoinjnocopejjaaNV
/- The examples: config, calls; is a call answered so? -/
namespace Go.Proofs.Ytoinjnocopejjaa
open Go.ChangeShapes Go.WideShapes Go.ChangeAt Go.RowKit Go.Maps
set_option linter.unusedVariables false
set_option linter.unusedSimpArgs false
def cfS : Conf := ⟨2, 2, 2, 2, 2, 2, 2, 3⟩
def onC (k : Nat) (tx : Int) (ke va : ByteArray) : Cl := (k, tx, ke, ⟨#[]⟩, va, 0, 0)
set_option maxRecDepth 100000 in
set_option maxHeartbeats 1600000 in
theorem on_any (k : Nat) (tx : Int) (ke va : ByteArray) (w : World) : Calls Try.prog 29 #[.int .u8 (k : Int), .int .i64 tx, .string ke, .string va] w fun e w' => e = .returned (clV (onC k tx ke va)) ∧ Below w.heap.size w w' := by
  go_enter Try.func29, Try.ntmps29
  go_wp2
  refine bodyPost_ret (results_cell_row rfl _ _ w.heap.size 36 _ (0, 0) _ rfl (Blk.new w _ 36) Try.underlying36 rfl (by kernel_rfl)) rfl ?_
  exact ⟨rfl, (Below.refl _ _).alloc (Nat.le_refl _) _⟩
set_option maxRecDepth 100000 in
set_option maxHeartbeats 1600000 in
theorem small_any (w : World) : Calls Try.prog 27 #[] w fun e w' => e = .returned (Conf.val cfS) ∧ Below w.heap.size w w' := by
  go_enter Try.func27, Try.ntmps27
  go_wp2
  refine bodyPost_ret (results_cell_row rfl _ _ w.heap.size 45 _ (0, 0) _ rfl (Blk.new w _ 45) Try.underlying45 rfl (by kernel_rfl)) rfl ?_
  exact ⟨rfl, (Below.refl _ _).alloc (Nat.le_refl _) _⟩
set_option maxRecDepth 100000 in
set_option maxHeartbeats 1600000 in
theorem is_yes (B p : Nat) (s : MS) (S : Nat → Prop) (t : Int) (tx li : Int) (ke en va : ByteArray) (kn eg : Nat) (w : World) (h : MR w B p s S) (hn : s.txns.length ≤ 100000) (hx : COk (kn, tx, ke, en, va, li, eg)) (er : Int) (f : Bool) (v : ByteArray) (ha : (doM s t (kn, tx, ke, en, va, li, eg)).2 = (er, f, v, [])) : Calls Try.prog 30 #[.pointer (some ⟨p, 0, none⟩), .int .i64 t, .agg #[.int .u8 (kn : Int), .int .i64 tx, .string ke, .string en, .string va, .int .i64 li, .int .u8 (eg : Int)], .int .i64 er, .bool f, .string v] w fun e w' => e = .returned (.bool true) ∧ Mv (doM s t (kn, tx, ke, en, va, li, eg)).1 B p S w w' := by
  have hb1 : Below w.heap.size w (w.alloc (.cells #[.int .u8 (kn : Int), .int .i64 tx, .string ke, .string en, .string va, .int .i64 li, .int .u8 (eg : Int)] 36)) := (Below.refl _ _).alloc (Nat.le_refl _) _
  have HB := Lib.hid hb1
  have K1 : Hid (Blk (w.alloc (.cells #[.int .u8 (kn : Int), .int .i64 tx, .string ke, .string en, .string va, .int .i64 li, .int .u8 (eg : Int)] 36)) w.heap.size #[.int .u8 (kn : Int), .int .i64 tx, .string ke, .string en, .string va, .int .i64 li, .int .u8 (eg : Int)] 36) := Lib.hid (Blk.new w _ 36)
  have HM := Lib.hid h
  have HDO : Hid (∀ W : World, Below w.heap.size w W → Calls Try.prog 18 #[.pointer (some ⟨p, 0, none⟩), .int .i64 t, .agg #[.int .u8 (kn : Int), .int .i64 tx, .string ke, .string en, .string va, .int .i64 li, .int .u8 (eg : Int)]] W (AnEnd (doM s t (kn, tx, ke, en, va, li, eg)).2 (doM s t (kn, tx, ke, en, va, li, eg)).1 B p S W)) := Lib.hid (fun W hW => do_any B p s S t tx li ke en va kn eg W (h.later hW) hn hx)
  rw [ha] at HDO
  generalize (doM s t (kn, tx, ke, en, va, li, eg)).1 = s' at *
  have g0 : (er == er) = true := beq_self_eq_true _
  have g1 : (f == f) = true := beq_self_eq_true _
  have g2 := tl_eq (rfl : v = v)
  clear hb1 h hn hx ha
  go_enter Try.func30, Try.ntmps30
  go_upto_region 1 with (fail)
  generalize (w.alloc (.cells #[.int .u8 (kn : Int), .int .i64 tx, .string ke, .string en, .string va, .int .i64 li, .int .u8 (eg : Int)] 36)) = w1 at *
  have z0 := K1.out.cell 0
  have z1 := K1.out.cell 1
  have z2 := K1.out.cell 2
  have z3 := K1.out.cell 3
  have z4 := K1.out.cell 4
  have z5 := K1.out.cell 5
  have z6 := K1.out.cell 6
  simp only [List.getElem?_toArray, List.getElem?_cons_zero, List.getElem?_cons_succ] at z0 z1 z2 z3 z4 z5 z6
  go_wp2_with fail
  refine (HDO.out _ HB.out).mono ?_
  rintro e w3 ⟨vv, rfl, hro, hmv⟩
  obtain ⟨A, c, rfl, _, _⟩ := hro.sl
  have HMV := Lib.hid (hmv.after HB.out)
  clear hmv hro HDO z0 z1 z2 z3 z4 z5 z6
  have HBA : Hid (Below w3.heap.size w3 (w3.alloc (.cells #[.int .i64 er, .bool f, .string v, .slice A 0 c] 33))) := Lib.hid ((Below.refl _ _).alloc (Nat.le_refl _) _)
  go_wp2
  go_ret
  exact ⟨rfl, HMV.out.later HBA.out⟩
end Go.Proofs.Ytoinjnocopejjaa

/- The examples: what each call makes of the model. -/
namespace Go.Proofs.Ytoinjnocopejjaa
open Go.ChangeShapes Go.WideShapes Go.ChangeAt Go.RowKit Go.Maps
set_option linter.unusedVariables false
set_option linter.unusedSimpArgs false
theorem is_c {B p : Nat} {s s' : MS} {S : Nat → Prop} (t : Int) (k : Nat) (kI : Int) (hk : kI = k) (tx : Int) (ke va : ByteArray) (w : World) (h : MR w B p s S) (hn : s.txns.length ≤ 100000) (hx : k ≤ 255) (ht : 0 ≤ tx ∧ tx ≤ 1000) (h1 : ke.size ≤ 1000) (h2 : va.size ≤ 1000) (er : Int) (f : Bool) (v : ByteArray) (ha : doM s t (onC k tx ke va) = (s', (er, f, v, []))) :
    Calls Try.prog 30 #[.pointer (some ⟨p, 0, none⟩), .int .i64 t, .agg #[.int .u8 kI, .int .i64 tx, .string ke, .string ⟨#[]⟩, .string va, .int .i64 0, .int .u8 0], .int .i64 er, .bool f, .string v] w fun e w' => e = .returned (.bool true) ∧ Mv s' B p S w w' := by
  subst hk
  have hm : (1000 : Nat) ≤ maxLen := by decide
  have := is_yes B p s S t tx 0 ke ⟨#[]⟩ va k 0 w h hn ⟨hx, Nat.zero_le _, by simp only; omega, by simp only; omega, Nat.le_trans h1 hm, Nat.zero_le _, Nat.le_trans h2 hm⟩ er f v (by show (doM s t (onC k tx ke va)).2 = _; rw [ha])
  have e : (doM s t (k, tx, ke, ⟨#[]⟩, va, 0, 0)).1 = s' := by show (doM s t (onC k tx ke va)).1 = _; rw [ha]
  rw [e] at this
  exact this
theorem on_c (k : Nat) (kI : Int) (hk : kI = k) (tx : Int) (ke va : ByteArray) (w : World) : Calls Try.prog 29 #[.int .u8 kI, .int .i64 tx, .string ke, .string va] w fun e w' => e = .returned (.agg #[.int .u8 kI, .int .i64 tx, .string ke, .string ⟨#[]⟩, .string va, .int .i64 0, .int .u8 0]) ∧ Below w.heap.size w w' := by
  subst hk
  exact on_any k tx ke va w
theorem new_ok {c : Conf} {w w' : World} {e : Ending} (h : NewEnd c w e w') (hc : mayB c = true) : ∃ p S, e = .returned (.tuple #[.pointer (some ⟨p, 0, none⟩), .int .i64 0]) ∧ MR w' w.heap.size p (newM c) S := by
  rcases h.2 with ⟨_, h⟩ | ⟨h, _⟩
  · exact h
  · rw [hc] at h; cases h
theorem wk_step {n0 p : Nat} {w0 w w' : World} {s s' : MS} {S : Nat → Prop} (HB : Below n0 w0 w) (hn : n0 ≤ w.heap.size) (HM : MR w n0 p s S) (hmv : Mv s' n0 p S w w') : ∃ S', MR w' n0 p s' S' ∧ Below n0 w0 w' := by
  obtain ⟨S', h1, hf, _⟩ := hmv
  exact ⟨S', h1, hf.below HB hn (fun i hi => (HM.lt i hi).1)⟩
def zs0 : MS := newM cfS
def zs1 : MS := (doM zs0 0 (onC 1 0 ⟨#[]⟩ ⟨#[]⟩)).1
def zs2 : MS := (doM zs1 0 (onC 3 1 ⟨#[97]⟩ ⟨#[49]⟩)).1
def zs3 : MS := (doM zs2 1 (onC 1 0 ⟨#[]⟩ ⟨#[]⟩)).1
def zs4 : MS := (doM zs3 1 (onC 2 1 ⟨#[97]⟩ ⟨#[]⟩)).1
def zs5 : MS := (doM zs4 1 (onC 3 1 ⟨#[97]⟩ ⟨#[50]⟩)).1
def zs6 : MS := (doM zs5 0 (onC 6 1 ⟨#[]⟩ ⟨#[]⟩)).1
def zs7 : MS := (doM zs6 1 (onC 2 1 ⟨#[97]⟩ ⟨#[]⟩)).1
def zs8 : MS := (doM zs7 1 (onC 3 1 ⟨#[97]⟩ ⟨#[50]⟩)).1
def zs9 : MS := (doM zs8 1 (onC 7 1 ⟨#[]⟩ ⟨#[]⟩)).1
def zs10 : MS := (doM zs9 1 (onC 1 0 ⟨#[]⟩ ⟨#[]⟩)).1
def zs11 : MS := (doM zs10 1 (onC 2 2 ⟨#[97]⟩ ⟨#[]⟩)).1
def zs12 : MS := (doM zs11 1 (onC 4 2 ⟨#[97]⟩ ⟨#[]⟩)).1
def zs13 : MS := (doM zs12 1 (onC 2 2 ⟨#[97]⟩ ⟨#[]⟩)).1
def zs14 : MS := (doM zs13 1 (onC 6 2 ⟨#[]⟩ ⟨#[]⟩)).1
def zs15 : MS := (doM zs14 0 (onC 1 0 ⟨#[]⟩ ⟨#[]⟩)).1
def zs16 : MS := (doM zs15 0 (onC 3 2 ⟨#[98]⟩ ⟨#[]⟩)).1
def zs17 : MS := (doM zs16 0 (onC 6 2 ⟨#[]⟩ ⟨#[]⟩)).1
def zs18 : MS := (doM zs17 0 (onC 8 0 ⟨#[]⟩ ⟨#[]⟩)).1
theorem zd0 : doM zs0 0 (onC 1 0 ⟨#[]⟩ ⟨#[]⟩) = (zs1, (0, false, ⟨#[]⟩, [])) := by kernel_rfl
theorem zl0 : zs0.txns.length ≤ 100000 := Nat.le_of_ble_eq_true (by kernel_rfl)
theorem zd1 : doM zs1 0 (onC 3 1 ⟨#[97]⟩ ⟨#[49]⟩) = (zs2, (0, false, ⟨#[]⟩, [])) := by kernel_rfl
theorem zl1 : zs1.txns.length ≤ 100000 := Nat.le_of_ble_eq_true (by kernel_rfl)
theorem zd2 : doM zs2 1 (onC 1 0 ⟨#[]⟩ ⟨#[]⟩) = (zs3, (0, false, ⟨#[]⟩, [])) := by kernel_rfl
theorem zl2 : zs2.txns.length ≤ 100000 := Nat.le_of_ble_eq_true (by kernel_rfl)
theorem zd3 : doM zs3 1 (onC 2 1 ⟨#[97]⟩ ⟨#[]⟩) = (zs4, (0, false, ⟨#[]⟩, [])) := by kernel_rfl
theorem zl3 : zs3.txns.length ≤ 100000 := Nat.le_of_ble_eq_true (by kernel_rfl)
theorem zd4 : doM zs4 1 (onC 3 1 ⟨#[97]⟩ ⟨#[50]⟩) = (zs5, (33, false, ⟨#[]⟩, [])) := by kernel_rfl
theorem zl4 : zs4.txns.length ≤ 100000 := Nat.le_of_ble_eq_true (by kernel_rfl)
theorem zd5 : doM zs5 0 (onC 6 1 ⟨#[]⟩ ⟨#[]⟩) = (zs6, (0, false, ⟨#[]⟩, [])) := by kernel_rfl
theorem zl5 : zs5.txns.length ≤ 100000 := Nat.le_of_ble_eq_true (by kernel_rfl)
theorem zd6 : doM zs6 1 (onC 2 1 ⟨#[97]⟩ ⟨#[]⟩) = (zs7, (0, false, ⟨#[]⟩, [])) := by kernel_rfl
theorem zl6 : zs6.txns.length ≤ 100000 := Nat.le_of_ble_eq_true (by kernel_rfl)
theorem zd7 : doM zs7 1 (onC 3 1 ⟨#[97]⟩ ⟨#[50]⟩) = (zs8, (33, false, ⟨#[]⟩, [])) := by kernel_rfl
theorem zl7 : zs7.txns.length ≤ 100000 := Nat.le_of_ble_eq_true (by kernel_rfl)
theorem zd8 : doM zs8 1 (onC 7 1 ⟨#[]⟩ ⟨#[]⟩) = (zs9, (0, false, ⟨#[]⟩, [])) := by kernel_rfl
theorem zl8 : zs8.txns.length ≤ 100000 := Nat.le_of_ble_eq_true (by kernel_rfl)
theorem zd9 : doM zs9 1 (onC 1 0 ⟨#[]⟩ ⟨#[]⟩) = (zs10, (0, false, ⟨#[]⟩, [])) := by kernel_rfl
theorem zl9 : zs9.txns.length ≤ 100000 := Nat.le_of_ble_eq_true (by kernel_rfl)
theorem zd10 : doM zs10 1 (onC 2 2 ⟨#[97]⟩ ⟨#[]⟩) = (zs11, (0, true, ⟨#[49]⟩, [])) := by kernel_rfl
theorem zl10 : zs10.txns.length ≤ 100000 := Nat.le_of_ble_eq_true (by kernel_rfl)
theorem zd11 : doM zs11 1 (onC 4 2 ⟨#[97]⟩ ⟨#[]⟩) = (zs12, (0, true, ⟨#[]⟩, [])) := by kernel_rfl
theorem zl11 : zs11.txns.length ≤ 100000 := Nat.le_of_ble_eq_true (by kernel_rfl)
theorem zd12 : doM zs12 1 (onC 2 2 ⟨#[97]⟩ ⟨#[]⟩) = (zs13, (0, false, ⟨#[]⟩, [])) := by kernel_rfl
theorem zl12 : zs12.txns.length ≤ 100000 := Nat.le_of_ble_eq_true (by kernel_rfl)
theorem zd13 : doM zs13 1 (onC 6 2 ⟨#[]⟩ ⟨#[]⟩) = (zs14, (0, false, ⟨#[]⟩, [])) := by kernel_rfl
theorem zl13 : zs13.txns.length ≤ 100000 := Nat.le_of_ble_eq_true (by kernel_rfl)
theorem zd14 : doM zs14 0 (onC 1 0 ⟨#[]⟩ ⟨#[]⟩) = (zs15, (0, false, ⟨#[]⟩, [])) := by kernel_rfl
theorem zl14 : zs14.txns.length ≤ 100000 := Nat.le_of_ble_eq_true (by kernel_rfl)
theorem zd15 : doM zs15 0 (onC 3 2 ⟨#[98]⟩ ⟨#[]⟩) = (zs16, (0, false, ⟨#[]⟩, [])) := by kernel_rfl
theorem zl15 : zs15.txns.length ≤ 100000 := Nat.le_of_ble_eq_true (by kernel_rfl)
theorem zd16 : doM zs16 0 (onC 6 2 ⟨#[]⟩ ⟨#[]⟩) = (zs17, (35, false, ⟨#[]⟩, [])) := by kernel_rfl
theorem zl16 : zs16.txns.length ≤ 100000 := Nat.le_of_ble_eq_true (by kernel_rfl)
theorem zd17 : doM zs17 0 (onC 8 0 ⟨#[]⟩ ⟨#[]⟩) = (zs18, (0, false, ⟨#[]⟩, [])) := by kernel_rfl
theorem zl17 : zs17.txns.length ≤ 100000 := Nat.le_of_ble_eq_true (by kernel_rfl)
theorem zk_clock : zs6.clock = 1 := by kernel_rfl
theorem zk_keys : zs18.rows = [] := by kernel_rfl
end Go.Proofs.Ytoinjnocopejjaa

/- The examples. -/
namespace Go.Proofs.Ytoinjnocopejjaa
open Go.ChangeShapes Go.WideShapes Go.ChangeAt Go.RowKit Go.Maps
set_option linter.unusedVariables false
set_option linter.unusedSimpArgs false
set_option maxRecDepth 100000 in
set_option maxHeartbeats 1600000 in
theorem works_any (w : World) : Calls Try.prog 17 #[] w fun e w' => e = .returned (.bool true) ∧ Below w.heap.size w w' := by
  go_enter Try.func17, Try.ntmps17
  go_wp2_with fail
  refine (small_any _).mono ?_
  rintro e w1 ⟨rfl, hb1⟩
  unfold Conf.val
  go_wp2_with fail
  refine (new_any cfS _).mono ?_
  rintro e w2 ⟨hb2, hnew⟩
  obtain ⟨p, S0, rfl, hm0⟩ := new_ok ⟨hb2, hnew⟩ (show mayB cfS = true by kernel_rfl)
  have HB2 := Lib.hid (stepB hb1 hb2)
  have HM0 := Lib.hid (hm0.base hb1.size)
  clear hb1 hb2 hm0 hnew
  go_wp2_with fail
  refine (on_c 1 1 rfl 0 ⟨#[]⟩ ⟨#[]⟩ _).mono ?_
  rintro e w4 ⟨rfl, hb⟩
  have HBa := Lib.hid (stepB HB2.out hb)
  have HMa := Lib.hid (HM0.out.later hb)
  clear hb HM0 HB2
  go_wp2_with fail
  refine (is_c 0 1 1 rfl 0 ⟨#[]⟩ ⟨#[]⟩ _ HMa.out zl0 (by decide) (by decide) (by decide) (by decide) 0 false ⟨#[]⟩ zd0).mono ?_
  rintro e w5 ⟨rfl, hmv⟩
  obtain ⟨S1, hm1, hb1⟩ := wk_step HBa.out HBa.out.size HMa.out hmv
  have HM1 := Lib.hid hm1
  have HB5 := Lib.hid hb1
  clear hmv hm1 hb1 HMa HBa
  go_wp2_with fail
  refine (on_c 3 3 rfl 1 ⟨#[97]⟩ ⟨#[49]⟩ _).mono ?_
  rintro e w6 ⟨rfl, hb⟩
  have HBa := Lib.hid (stepB HB5.out hb)
  have HMa := Lib.hid (HM1.out.later hb)
  clear hb HM1 HB5
  go_wp2_with fail
  refine (is_c 0 3 3 rfl 1 ⟨#[97]⟩ ⟨#[49]⟩ _ HMa.out zl1 (by decide) (by decide) (by decide) (by decide) 0 false ⟨#[]⟩ zd1).mono ?_
  rintro e w7 ⟨rfl, hmv⟩
  obtain ⟨S2, hm1, hb1⟩ := wk_step HBa.out HBa.out.size HMa.out hmv
  have HM2 := Lib.hid hm1
  have HB7 := Lib.hid hb1
  clear hmv hm1 hb1 HMa HBa
  go_wp2_with fail
  refine (on_c 1 1 rfl 0 ⟨#[]⟩ ⟨#[]⟩ _).mono ?_
  rintro e w8 ⟨rfl, hb⟩
  have HBa := Lib.hid (stepB HB7.out hb)
  have HMa := Lib.hid (HM2.out.later hb)
  clear hb HM2 HB7
  go_wp2_with fail
  refine (is_c 1 1 1 rfl 0 ⟨#[]⟩ ⟨#[]⟩ _ HMa.out zl2 (by decide) (by decide) (by decide) (by decide) 0 false ⟨#[]⟩ zd2).mono ?_
  rintro e w9 ⟨rfl, hmv⟩
  obtain ⟨S3, hm1, hb1⟩ := wk_step HBa.out HBa.out.size HMa.out hmv
  have HM3 := Lib.hid hm1
  have HB9 := Lib.hid hb1
  clear hmv hm1 hb1 HMa HBa
  go_wp2_with fail
  refine (on_c 2 2 rfl 1 ⟨#[97]⟩ ⟨#[]⟩ _).mono ?_
  rintro e w10 ⟨rfl, hb⟩
  have HBa := Lib.hid (stepB HB9.out hb)
  have HMa := Lib.hid (HM3.out.later hb)
  clear hb HM3 HB9
  go_wp2_with fail
  refine (is_c 1 2 2 rfl 1 ⟨#[97]⟩ ⟨#[]⟩ _ HMa.out zl3 (by decide) (by decide) (by decide) (by decide) 0 false ⟨#[]⟩ zd3).mono ?_
  rintro e w11 ⟨rfl, hmv⟩
  obtain ⟨S4, hm1, hb1⟩ := wk_step HBa.out HBa.out.size HMa.out hmv
  have HM4 := Lib.hid hm1
  have HB11 := Lib.hid hb1
  clear hmv hm1 hb1 HMa HBa
  go_wp2_with fail
  refine (on_c 3 3 rfl 1 ⟨#[97]⟩ ⟨#[50]⟩ _).mono ?_
  rintro e w12 ⟨rfl, hb⟩
  have HBa := Lib.hid (stepB HB11.out hb)
  have HMa := Lib.hid (HM4.out.later hb)
  clear hb HM4 HB11
  go_wp2_with fail
  refine (is_c 1 3 3 rfl 1 ⟨#[97]⟩ ⟨#[50]⟩ _ HMa.out zl4 (by decide) (by decide) (by decide) (by decide) 33 false ⟨#[]⟩ zd4).mono ?_
  rintro e w13 ⟨rfl, hmv⟩
  obtain ⟨S5, hm1, hb1⟩ := wk_step HBa.out HBa.out.size HMa.out hmv
  have HM5 := Lib.hid hm1
  have HB13 := Lib.hid hb1
  clear hmv hm1 hb1 HMa HBa
  go_wp2_with fail
  refine (on_c 6 6 rfl 1 ⟨#[]⟩ ⟨#[]⟩ _).mono ?_
  rintro e w14 ⟨rfl, hb⟩
  have HBa := Lib.hid (stepB HB13.out hb)
  have HMa := Lib.hid (HM5.out.later hb)
  clear hb HM5 HB13
  go_wp2_with fail
  refine (is_c 0 6 6 rfl 1 ⟨#[]⟩ ⟨#[]⟩ _ HMa.out zl5 (by decide) (by decide) (by decide) (by decide) 0 false ⟨#[]⟩ zd5).mono ?_
  rintro e w15 ⟨rfl, hmv⟩
  obtain ⟨S6, hm1, hb1⟩ := wk_step HBa.out HBa.out.size HMa.out hmv
  have HM6 := Lib.hid hm1
  have HB15 := Lib.hid hb1
  clear hmv hm1 hb1 HMa HBa
  go_wp2_with fail
  refine (clock_any w.heap.size p zs6 S6 _ HM6.out).mono ?_
  rintro e w15' ⟨rfl, rfl⟩
  rw [zk_clock]
  go_wp2_with fail
  refine (on_c 2 2 rfl 1 ⟨#[97]⟩ ⟨#[]⟩ _).mono ?_
  rintro e w16 ⟨rfl, hb⟩
  have HBa := Lib.hid (stepB HB15.out hb)
  have HMa := Lib.hid (HM6.out.later hb)
  clear hb HM6 HB15
  go_wp2_with fail
  refine (is_c 1 2 2 rfl 1 ⟨#[97]⟩ ⟨#[]⟩ _ HMa.out zl6 (by decide) (by decide) (by decide) (by decide) 0 false ⟨#[]⟩ zd6).mono ?_
  rintro e w17 ⟨rfl, hmv⟩
  obtain ⟨S7, hm1, hb1⟩ := wk_step HBa.out HBa.out.size HMa.out hmv
  have HM7 := Lib.hid hm1
  have HB17 := Lib.hid hb1
  clear hmv hm1 hb1 HMa HBa
  go_wp2_with fail
  refine (on_c 3 3 rfl 1 ⟨#[97]⟩ ⟨#[50]⟩ _).mono ?_
  rintro e w18 ⟨rfl, hb⟩
  have HBa := Lib.hid (stepB HB17.out hb)
  have HMa := Lib.hid (HM7.out.later hb)
  clear hb HM7 HB17
  go_wp2_with fail
  refine (is_c 1 3 3 rfl 1 ⟨#[97]⟩ ⟨#[50]⟩ _ HMa.out zl7 (by decide) (by decide) (by decide) (by decide) 33 false ⟨#[]⟩ zd7).mono ?_
  rintro e w19 ⟨rfl, hmv⟩
  obtain ⟨S8, hm1, hb1⟩ := wk_step HBa.out HBa.out.size HMa.out hmv
  have HM8 := Lib.hid hm1
  have HB19 := Lib.hid hb1
  clear hmv hm1 hb1 HMa HBa
  go_wp2_with fail
  refine (on_c 7 7 rfl 1 ⟨#[]⟩ ⟨#[]⟩ _).mono ?_
  rintro e w20 ⟨rfl, hb⟩
  have HBa := Lib.hid (stepB HB19.out hb)
  have HMa := Lib.hid (HM8.out.later hb)
  clear hb HM8 HB19
  go_wp2_with fail
  refine (is_c 1 7 7 rfl 1 ⟨#[]⟩ ⟨#[]⟩ _ HMa.out zl8 (by decide) (by decide) (by decide) (by decide) 0 false ⟨#[]⟩ zd8).mono ?_
  rintro e w21 ⟨rfl, hmv⟩
  obtain ⟨S9, hm1, hb1⟩ := wk_step HBa.out HBa.out.size HMa.out hmv
  have HM9 := Lib.hid hm1
  have HB21 := Lib.hid hb1
  clear hmv hm1 hb1 HMa HBa
  go_wp2_with fail
  refine (on_c 1 1 rfl 0 ⟨#[]⟩ ⟨#[]⟩ _).mono ?_
  rintro e w22 ⟨rfl, hb⟩
  have HBa := Lib.hid (stepB HB21.out hb)
  have HMa := Lib.hid (HM9.out.later hb)
  clear hb HM9 HB21
  go_wp2_with fail
  refine (is_c 1 1 1 rfl 0 ⟨#[]⟩ ⟨#[]⟩ _ HMa.out zl9 (by decide) (by decide) (by decide) (by decide) 0 false ⟨#[]⟩ zd9).mono ?_
  rintro e w23 ⟨rfl, hmv⟩
  obtain ⟨S10, hm1, hb1⟩ := wk_step HBa.out HBa.out.size HMa.out hmv
  have HM10 := Lib.hid hm1
  have HB23 := Lib.hid hb1
  clear hmv hm1 hb1 HMa HBa
  go_wp2_with fail
  refine (on_c 2 2 rfl 2 ⟨#[97]⟩ ⟨#[]⟩ _).mono ?_
  rintro e w24 ⟨rfl, hb⟩
  have HBa := Lib.hid (stepB HB23.out hb)
  have HMa := Lib.hid (HM10.out.later hb)
  clear hb HM10 HB23
  go_wp2_with fail
  refine (is_c 1 2 2 rfl 2 ⟨#[97]⟩ ⟨#[]⟩ _ HMa.out zl10 (by decide) (by decide) (by decide) (by decide) 0 true ⟨#[49]⟩ zd10).mono ?_
  rintro e w25 ⟨rfl, hmv⟩
  obtain ⟨S11, hm1, hb1⟩ := wk_step HBa.out HBa.out.size HMa.out hmv
  have HM11 := Lib.hid hm1
  have HB25 := Lib.hid hb1
  clear hmv hm1 hb1 HMa HBa
  go_wp2_with fail
  refine (on_c 4 4 rfl 2 ⟨#[97]⟩ ⟨#[]⟩ _).mono ?_
  rintro e w26 ⟨rfl, hb⟩
  have HBa := Lib.hid (stepB HB25.out hb)
  have HMa := Lib.hid (HM11.out.later hb)
  clear hb HM11 HB25
  go_wp2_with fail
  refine (is_c 1 4 4 rfl 2 ⟨#[97]⟩ ⟨#[]⟩ _ HMa.out zl11 (by decide) (by decide) (by decide) (by decide) 0 true ⟨#[]⟩ zd11).mono ?_
  rintro e w27 ⟨rfl, hmv⟩
  obtain ⟨S12, hm1, hb1⟩ := wk_step HBa.out HBa.out.size HMa.out hmv
  have HM12 := Lib.hid hm1
  have HB27 := Lib.hid hb1
  clear hmv hm1 hb1 HMa HBa
  go_wp2_with fail
  refine (on_c 2 2 rfl 2 ⟨#[97]⟩ ⟨#[]⟩ _).mono ?_
  rintro e w28 ⟨rfl, hb⟩
  have HBa := Lib.hid (stepB HB27.out hb)
  have HMa := Lib.hid (HM12.out.later hb)
  clear hb HM12 HB27
  go_wp2_with fail
  refine (is_c 1 2 2 rfl 2 ⟨#[97]⟩ ⟨#[]⟩ _ HMa.out zl12 (by decide) (by decide) (by decide) (by decide) 0 false ⟨#[]⟩ zd12).mono ?_
  rintro e w29 ⟨rfl, hmv⟩
  obtain ⟨S13, hm1, hb1⟩ := wk_step HBa.out HBa.out.size HMa.out hmv
  have HM13 := Lib.hid hm1
  have HB29 := Lib.hid hb1
  clear hmv hm1 hb1 HMa HBa
  go_wp2_with fail
  refine (on_c 6 6 rfl 2 ⟨#[]⟩ ⟨#[]⟩ _).mono ?_
  rintro e w30 ⟨rfl, hb⟩
  have HBa := Lib.hid (stepB HB29.out hb)
  have HMa := Lib.hid (HM13.out.later hb)
  clear hb HM13 HB29
  go_wp2_with fail
  refine (is_c 1 6 6 rfl 2 ⟨#[]⟩ ⟨#[]⟩ _ HMa.out zl13 (by decide) (by decide) (by decide) (by decide) 0 false ⟨#[]⟩ zd13).mono ?_
  rintro e w31 ⟨rfl, hmv⟩
  obtain ⟨S14, hm1, hb1⟩ := wk_step HBa.out HBa.out.size HMa.out hmv
  have HM14 := Lib.hid hm1
  have HB31 := Lib.hid hb1
  clear hmv hm1 hb1 HMa HBa
  go_wp2_with fail
  refine (versions_any w.heap.size p zs14 S14 ⟨#[97]⟩ _ HM14.out (by decide)).mono ?_
  rintro e w32 ⟨vv, rfl, hro, hb⟩
  have HBv := Lib.hid (stepB HB31.out hb)
  have HMv := Lib.hid (HM14.out.later hb)
  rw [show (getR zs14 ⟨#[97]⟩).1 = [⟨3, 2, true, ⟨#[]⟩⟩, ⟨1, 1, false, ⟨#[49]⟩⟩] from by kernel_rfl] at hro
  obtain ⟨A, c, rfl, hc, hvr⟩ := own_vrow hro
  obtain ⟨g, off, rfl, hg, hv⟩ := (vrow_vers hvr).2 (by decide)
  have v0 := (hv 0 (by decide)).c2
  have v1 := (hv 0 (by decide)).c1
  have v2 := (hv 1 (by decide)).c3
  have v3 := (hv 1 (by decide)).c1
  simp only [List.getD_cons_zero, List.getD_cons_succ, Nat.zero_mul, Nat.add_zero, Nat.one_mul] at v0 v1 v2 v3
  have i0 := index_run g off 2 c 0 0 rfl (by decide)
  have i1 := index_run g off 2 c 1 1 rfl (by decide)
  simp only [Nat.zero_mul, Nat.add_zero, Nat.one_mul] at i0 i1
  clear hb hro hvr hv hg HM14
  go_upto_region 11 with (fail)
  clear v0 v1 v2 v3 i0 i1
  have HB32 := HBv
  have HM14 := HMv
  clear HMv
  go_wp2_with fail
  refine (on_c 1 1 rfl 0 ⟨#[]⟩ ⟨#[]⟩ _).mono ?_
  rintro e w33 ⟨rfl, hb⟩
  have HBa := Lib.hid (stepB HB32.out hb)
  have HMa := Lib.hid (HM14.out.later hb)
  clear hb HM14 HB32
  go_wp2_with fail
  refine (is_c 0 1 1 rfl 0 ⟨#[]⟩ ⟨#[]⟩ _ HMa.out zl14 (by decide) (by decide) (by decide) (by decide) 0 false ⟨#[]⟩ zd14).mono ?_
  rintro e w34 ⟨rfl, hmv⟩
  obtain ⟨S15, hm1, hb1⟩ := wk_step HBa.out HBa.out.size HMa.out hmv
  have HM15 := Lib.hid hm1
  have HB34 := Lib.hid hb1
  clear hmv hm1 hb1 HMa HBa
  go_wp2_with fail
  refine (on_c 3 3 rfl 2 ⟨#[98]⟩ ⟨#[]⟩ _).mono ?_
  rintro e w35 ⟨rfl, hb⟩
  have HBa := Lib.hid (stepB HB34.out hb)
  have HMa := Lib.hid (HM15.out.later hb)
  clear hb HM15 HB34
  go_wp2_with fail
  refine (is_c 0 3 3 rfl 2 ⟨#[98]⟩ ⟨#[]⟩ _ HMa.out zl15 (by decide) (by decide) (by decide) (by decide) 0 false ⟨#[]⟩ zd15).mono ?_
  rintro e w36 ⟨rfl, hmv⟩
  obtain ⟨S16, hm1, hb1⟩ := wk_step HBa.out HBa.out.size HMa.out hmv
  have HM16 := Lib.hid hm1
  have HB36 := Lib.hid hb1
  clear hmv hm1 hb1 HMa HBa
  go_wp2_with fail
  refine (on_c 6 6 rfl 2 ⟨#[]⟩ ⟨#[]⟩ _).mono ?_
  rintro e w37 ⟨rfl, hb⟩
  have HBa := Lib.hid (stepB HB36.out hb)
  have HMa := Lib.hid (HM16.out.later hb)
  clear hb HM16 HB36
  go_wp2_with fail
  refine (is_c 0 6 6 rfl 2 ⟨#[]⟩ ⟨#[]⟩ _ HMa.out zl16 (by decide) (by decide) (by decide) (by decide) 35 false ⟨#[]⟩ zd16).mono ?_
  rintro e w38 ⟨rfl, hmv⟩
  obtain ⟨S17, hm1, hb1⟩ := wk_step HBa.out HBa.out.size HMa.out hmv
  have HM17 := Lib.hid hm1
  have HB38 := Lib.hid hb1
  clear hmv hm1 hb1 HMa HBa
  go_wp2_with fail
  refine (on_c 8 8 rfl 0 ⟨#[]⟩ ⟨#[]⟩ _).mono ?_
  rintro e w39 ⟨rfl, hb⟩
  have HBa := Lib.hid (stepB HB38.out hb)
  have HMa := Lib.hid (HM17.out.later hb)
  clear hb HM17 HB38
  go_wp2_with fail
  refine (is_c 0 8 8 rfl 0 ⟨#[]⟩ ⟨#[]⟩ _ HMa.out zl17 (by decide) (by decide) (by decide) (by decide) 0 false ⟨#[]⟩ zd17).mono ?_
  rintro e w40 ⟨rfl, hmv⟩
  obtain ⟨S18, hm1, hb1⟩ := wk_step HBa.out HBa.out.size HMa.out hmv
  have HM18 := Lib.hid hm1
  have HB40 := Lib.hid hb1
  clear hmv hm1 hb1 HMa HBa
  go_wp2_with fail
  refine (keys_any w.heap.size p zs18 S18 _ HM18.out).mono ?_
  rintro e wz ⟨vv, rfl, ho, hb⟩
  rw [zk_keys] at ho
  have HBz := Lib.hid (stepB HB40.out hb)
  clear hb
  obtain ⟨A, c, rfl, _⟩ := ho.sl
  go_wp2
  go_ret
  exact ⟨rfl, HBz.out⟩
end Go.Proofs.Ytoinjnocopejjaa
