/- The examples. -/
import Derived.Test.YtbnbhhmgfogjeaaGS
namespace Go.Proofs.Ytbnbhhmgfogjeaa
open Go.ChangeShapes Go.WideShapes Go.ChangeAt Go.RowKit Go.Maps
set_option linter.unusedVariables false
set_option linter.unusedSimpArgs false

/-- the examples' arena -/
def kA0 : AS := (0, [], [])
def kA1 : AS := (alA 2000 kA0).1
def kA2 : AS := (alA 2000 kA1).1
def kA3 : AS := (alA 2000 kA2).1
def kA4 : AS := frA 1 kA3
def kA5 : AS := (alA 2000 kA4).1
def kA6 : AS := wrA 2000 2 ⟨#[97, 98]⟩ kA5
theorem k1 : (alA 2000 kA0).2 = (1, 0) := by decide +kernel
theorem k2 : (alA 2000 kA1).2 = (8589934592001, 0) := by decide +kernel
theorem k3 : (alA 2000 kA2).2 = (281474976710657, 0) := by decide +kernel
theorem k4 : frAE 1 kA3 = 0 := by decide +kernel
theorem k5 : (alA 2000 kA4).2 = (2, 0) := by decide +kernel
theorem k6 : isA kA5 1 = false := by decide +kernel
theorem k7 : wrAE 2000 2 ⟨#[97, 98]⟩ kA5 = 0 := by decide +kernel
theorem k8 : isA kA6 2 = true := by decide +kernel
theorem k9 : (rdA 2000 2 kA6).data.toList = (padT 2000 ⟨#[97, 98]⟩).data.toList := by decide +kernel
theorem k9' : rdA 2000 2 kA6 = padT 2000 ⟨#[97, 98]⟩ := ByteArray.ext (Array.toList_inj.1 k9)
theorem k10 : usA kA6 = 3 := by decide +kernel
theorem k11 : kA6.2.1.length = 2 := by decide +kernel
theorem kG : kA0.2.2.length < 1000000000 ∧ kA1.2.2.length < 1000000000 ∧ kA2.2.2.length < 1000000000 ∧ kA4.2.2.length < 1000000000 := by decide +kernel
set_option maxRecDepth 100000 in
set_option maxHeartbeats 4000000 in
theorem works_any (w : World) : Calls Try.prog 12 #[] w fun e w' => e = .returned (.bool true) ∧ Below w.heap.size w w' := by
  go_enter Try.func12, Try.ntmps12
  go_wp2_with fail
  refine (arnew_any 2000 w (by decide) (by decide)).mono ?_
  rintro e w0 ⟨a, S0, rfl, hA, hb⟩
  have HA0 : Hid (AR w0 w.heap.size a 2000 kA0 S0) := hA
  have HB0 : Hid (Below w.heap.size w w0) := hb
  clear hA hb
  have AL0 := Lib.hid (alloc_any w.heap.size a 2000 kA0 S0 w0 HA0.out (by decide) (by decide) kG.1)
  rw [k1] at AL0
  go_wp2_with fail
  refine AL0.out.mono ?_
  rintro e w1 ⟨rfl, S1, hA, hS, hF⟩
  have HA1 : Hid (AR w1 w.heap.size a 2000 kA1 S1) := hA
  have HB1 : Hid (Below w.heap.size w w1) := Lib.hid (HA0.out.frBelow hF HB0.out (Nat.le_refl _) HB0.out.size)
  clear hA hS hF
  have AL1 := Lib.hid (alloc_any w.heap.size a 2000 kA1 S1 w1 HA1.out (by decide) (by decide) kG.2.1)
  rw [k2] at AL1
  go_wp2_with fail
  refine AL1.out.mono ?_
  rintro e w2 ⟨rfl, S2, hA, hS, hF⟩
  have HA2 : Hid (AR w2 w.heap.size a 2000 kA2 S2) := hA
  have HB2 : Hid (Below w.heap.size w w2) := Lib.hid (HA1.out.frBelow hF HB1.out (Nat.le_refl _) HB1.out.size)
  clear hA hS hF
  have AL2 := Lib.hid (alloc_any w.heap.size a 2000 kA2 S2 w2 HA2.out (by decide) (by decide) kG.2.2.1)
  rw [k3] at AL2
  go_wp2_with fail
  refine AL2.out.mono ?_
  rintro e w3 ⟨rfl, S3, hA, hS, hF⟩
  have HA3 : Hid (AR w3 w.heap.size a 2000 kA3 S3) := hA
  have HB3 : Hid (Below w.heap.size w w3) := Lib.hid (HA2.out.frBelow hF HB2.out (Nat.le_refl _) HB2.out.size)
  clear hA hS hF
  clear AL0 AL1 AL2
  go_wp2_with fail
  refine (handle_x 0 0 1 _ (by decide) (by decide) (by decide) (by decide) (by decide) (by decide)).mono ?_
  rintro e w' ⟨rfl, rfl⟩
  go_wp2_with fail
  refine (handle_x 0 2000 1 _ (by decide) (by decide) (by decide) (by decide) (by decide) (by decide)).mono ?_
  rintro e w' ⟨rfl, rfl⟩
  go_wp2_with fail
  refine (handle_x 1 0 1 _ (by decide) (by decide) (by decide) (by decide) (by decide) (by decide)).mono ?_
  rintro e w' ⟨rfl, rfl⟩
  have AF3 := Lib.hid (arfree_any w.heap.size a 2000 kA3 S3 w3 HA3.out 1 (by decide) (by decide) (by decide))
  rw [k4] at AF3
  go_wp2_with fail
  refine AF3.out.mono ?_
  rintro e w4 ⟨rfl, S4, hA, hS, hF⟩
  have HA4 : Hid (AR w4 w.heap.size a 2000 kA4 S4) := hA
  have HB4 : Hid (Below w.heap.size w w4) := Lib.hid (HA3.out.frBelow hF HB3.out (Nat.le_refl _) HB3.out.size)
  clear hA hS hF
  have AL4 := Lib.hid (alloc_any w.heap.size a 2000 kA4 S4 w4 HA4.out (by decide) (by decide) kG.2.2.2)
  rw [k5] at AL4
  go_wp2_with fail
  refine AL4.out.mono ?_
  rintro e w5 ⟨rfl, S5, hA, hS, hF⟩
  have HA5 : Hid (AR w5 w.heap.size a 2000 kA5 S5) := hA
  have HB5 : Hid (Below w.heap.size w w5) := Lib.hid (HA4.out.frBelow hF HB4.out (Nat.le_refl _) HB4.out.size)
  clear hA hS hF
  have AR5 := Lib.hid (arread_any w.heap.size a 2000 kA5 S5 w5 HA5.out 1 (by decide) (by decide))
  rw [show rdAE 1 kA5 = 5 from by unfold rdAE; rw [k6]; rfl] at AR5
  obtain ⟨tt, htt⟩ : ∃ tt, rdA 2000 1 kA5 = tt := ⟨_, rfl⟩
  rw [htt] at AR5
  go_wp2_with fail
  refine AR5.out.mono ?_
  rintro e w6 ⟨rfl, hb⟩
  have HA6 := Lib.hid (HA5.out.later hb)
  have HB6 := Lib.hid (stepB HB5.out hb)
  clear hb htt AR5 AL4 AF3
  go_wp2_with fail
  refine (handle_x 0 0 2 _ (by decide) (by decide) (by decide) (by decide) (by decide) (by decide)).mono ?_
  rintro e w' ⟨rfl, rfl⟩
  have AW6 := Lib.hid (arwrite_any w.heap.size a 2000 kA5 S5 w6 HA6.out 2 (by decide) (by decide) ⟨#[97, 98]⟩ (by decide))
  rw [k7] at AW6
  go_wp2_with fail
  refine AW6.out.mono ?_
  rintro e w7 ⟨rfl, S7, hA, hS, hF⟩
  have HA7 : Hid (AR w7 w.heap.size a 2000 kA6 S7) := hA
  have HB7 : Hid (Below w.heap.size w w7) := Lib.hid (HA6.out.frBelow hF HB6.out (Nat.le_refl _) HB6.out.size)
  clear hA hS hF
  go_wp2_with fail
  refine (reads_yes w.heap.size a 2000 kA6 S7 w7 HA7.out 2 ⟨#[97, 98]⟩ (by decide) (by decide) k8 k9' (by decide) (by decide)).mono ?_
  rintro e w8 ⟨rfl, hb⟩
  have HA8 := Lib.hid (HA7.out.later hb)
  have HB8 := Lib.hid (stepB HB7.out hb)
  clear hb
  have AU := Lib.hid (arused_any w.heap.size a 2000 kA6 S7 w8 HA8.out)
  rw [k10] at AU
  go_wp2_with fail
  refine AU.out.mono ?_
  rintro e w9 ⟨rfl, rfl⟩
  have AP := Lib.hid (arpages_any w.heap.size a 2000 kA6 S7 w8 HA8.out)
  rw [k11] at AP
  go_wp2_with fail
  refine AP.out.mono ?_
  rintro e w9 ⟨rfl, rfl⟩
  go_wp2
  go_ret
  exact ⟨rfl, HB8.out⟩
end Go.Proofs.Ytbnbhhmgfogjeaa
