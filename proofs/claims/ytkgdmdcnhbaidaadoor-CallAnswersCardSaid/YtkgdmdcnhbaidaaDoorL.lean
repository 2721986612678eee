/- Show of what is no call; Show, whole. -/
import Derived.Test.YtkgdmdcnhbaidaaDoorH
namespace Go.Proofs.YtkgdmdcnhbaidaaDoor
open Go.ChangeShapes Go.WideShapes Go.ChangeAt Go.RowKit
set_option linter.unusedVariables false
set_option linter.unusedSimpArgs false

set_option maxRecDepth 100000 in
set_option maxHeartbeats 4000000 in
theorem show_no (kn : Nat) (tx : Int) (ke en va : ByteArray) (li : Int) (egn : Nat) (w : World) (hk : kn ≤ 255) (he : egn ≤ 255) (hg : Gl w) (hm : mayC (kn, tx, ke, en, va, li, egn) = false) : Calls Tryd.prog 12 #[clV (kn, tx, ke, en, va, li, egn)] w fun e w' => e = .returned (.string emp) ∧ Below w.heap.size w w' := by
  show Calls Tryd.prog 12 #[.agg #[.int .u8 (kn : Int), .int .i64 tx, .string ke, .string en, .string va, .int .i64 li, .int .u8 (egn : Int)]] w _
  have HB : Hid (Below w.heap.size w (w.alloc (.cells #[.int .u8 (kn : Int), .int .i64 tx, .string ke, .string en, .string va, .int .i64 li, .int .u8 (egn : Int)] 24))) := (Below.refl _ _).alloc (Nat.le_refl _) _
  have HK : Hid (Blk (w.alloc (.cells #[.int .u8 (kn : Int), .int .i64 tx, .string ke, .string en, .string va, .int .i64 li, .int .u8 (egn : Int)] 24)) w.heap.size #[.int .u8 (kn : Int), .int .i64 tx, .string ke, .string en, .string va, .int .i64 li, .int .u8 (egn : Int)] 24) := Blk.new _ _ _
  have hmy := may_any (kn, tx, ke, en, va, li, egn) (w.alloc (.cells #[.int .u8 (kn : Int), .int .i64 tx, .string ke, .string en, .string va, .int .i64 li, .int .u8 (egn : Int)] 24)) hk he (hg.later HB.out)
  rw [hm] at hmy
  unfold clV at hmy
  simp only at hmy
  have HMY := Lib.hid hmy
  clear hg hm hmy
  go_enter Tryd.func12, Tryd.ntmps12
  go_upto_region 1 with (fail)
  generalize w.alloc (.cells #[.int .u8 (kn : Int), .int .i64 tx, .string ke, .string en, .string va, .int .i64 li, .int .u8 (egn : Int)] 24) = w1 at *
  obtain ⟨px, hpx⟩ : ∃ x, w.heap.size = x := ⟨_, rfl⟩
  rw [hpx] at HK ⊢
  have c0 := HK.out.cell 0
  have c1 := HK.out.cell 1
  have c2 := HK.out.cell 2
  have c3 := HK.out.cell 3
  have c4 := HK.out.cell 4
  have c5 := HK.out.cell 5
  have c6 := HK.out.cell 6
  simp only [List.getElem?_toArray, List.getElem?_cons_zero, List.getElem?_cons_succ] at c0 c1 c2 c3 c4 c5 c6
  rw [← hpx] at HK
  clear hpx
  go_wp2_with fail
  refine HMY.out.mono ?_
  rintro e w2 ⟨rfl, hb⟩
  have HB2 := Lib.hid (stepB HB.out hb)
  clear hb HMY HK c0 c1 c2 c3 c4 c5 c6
  go_wp2
  go_ret
  exact ⟨rfl, HB2.out⟩
/-- a call's text -/
def showP (x : Cl) : ByteArray := if mayC x then joinW (showL x) else emp
/-- numbers and texts within bounds -/
def ClOk (x : Cl) : Prop := x.1 ≤ 255 ∧ x.2.2.2.2.2.2 ≤ 255 ∧ (-9223372036854775808 ≤ x.2.1 ∧ x.2.1 ≤ 9223372036854775807) ∧ (-9223372036854775808 ≤ x.2.2.2.2.2.1 ∧ x.2.2.2.2.2.1 ≤ 9223372036854775807) ∧ x.2.2.1.size ≤ 100000 ∧ x.2.2.2.1.size ≤ 100000 ∧ x.2.2.2.2.1.size ≤ 100000
theorem may_kind {x : Cl} (h : mayC x = true) : x.1 < 10 := by
  unfold mayC at h
  simp only [Bool.and_eq_true, decide_eq_true_eq] at h
  omega
theorem show_any (x : Cl) (w : World) (hx : ClOk x) (hg : Gl w) (hjl : (joinW (showL x)).size ≤ 140737488355328) : Calls Tryd.prog 12 #[clV x] w fun e w' => e = .returned (.string (showP x)) ∧ Below w.heap.size w w' := by
  obtain ⟨kn, tx, ke, en, va, li, egn⟩ := x
  obtain ⟨h1, h2, h3, h4, h5, h6, h7⟩ := hx
  unfold showP
  cases hm : mayC (kn, tx, ke, en, va, li, egn) with
  | true => exact show_yes kn tx ke en va li egn w (may_kind hm) h2 hg hm h3 h4 h5 h6 h7 hjl
  | false => exact show_no kn tx ke en va li egn w h1 h2 hg hm
end Go.Proofs.YtkgdmdcnhbaidaaDoor
