/- number, hex, unhex. -/
import Derived.Test.YtkgdmdcnhbaidaaDoorB
import Derived.Test.YtkgdmdcnhbaidaaDoorS
import Derived.Lib.AppendIntMem
import Derived.Lib.AtoiErrMem
import Derived.Lib.AtoiAllCases
namespace Go.Proofs.YtkgdmdcnhbaidaaDoor
open Go.ChangeShapes Go.WideShapes Go.ChangeAt Go.RowKit
set_option linter.unusedVariables false
set_option linter.unusedSimpArgs false

set_option maxRecDepth 100000 in
set_option maxHeartbeats 4000000 in
theorem itoa_any (v : Int) (w : World) (h : -9223372036854775808 ≤ v ∧ v ≤ 9223372036854775807) (hg : Gl w) : Calls Tryd.prog 38 #[.int .i64 v] w fun e w' => e = .returned (.string (ofL (Lib.itoa v))) ∧ Below w.heap.size w w' := by
  refine (Tryd.strconv_Itoa v h.1 h.2 w hg.pow).mono ?_
  rintro e w' ⟨rfl, k, os, rfl⟩
  exact ⟨rfl, Lib.below_grow _ w (Nat.le_refl _) k os⟩
theorem ofL_eq {l : List UInt8} {s : ByteArray} : (ofL l).toList = s.toList ↔ l = s.data.toList := by
  rw [ByteArray.toList_eq, ByteArray.toList_eq]; rfl
set_option maxRecDepth 100000 in
set_option maxHeartbeats 4000000 in
theorem number_any (s : ByteArray) (w : World) (hg : Gl w) (hs : s.size ≤ 281474976710656) : Calls Tryd.prog 53 #[.string s] w fun e w' => e = .returned (.tuple #[.int .i64 ((numP s).getD 0), .bool (numP s).isSome]) ∧ Below w.heap.size w w' := by
  have HG := Lib.hid hg
  cases h : Lib.atoiAll s.data.toList with
  | ok v =>
    have HV := Lib.hid (Lib.atoiAll_bounds h)
    have HC := Lib.hid (Tryd.strconv_Atoi_ok s (by omega) v h w)
    have hnp : numP s = if Lib.itoa v = s.data.toList then some v else none := by unfold numP; rw [h]
    rw [hnp]
    clear hg h hnp
    by_cases he : Lib.itoa v = s.data.toList
    · rw [if_pos he]
      have e1 : ((ofL (Lib.itoa v)).toList == s.toList) = true := by rw [beq_iff_eq]; exact ofL_eq.2 he
      clear he
      go_enter Tryd.func53, Tryd.ntmps53
      go_wp2_with fail
      refine HC.out.mono ?_
      rintro e w1 ⟨rfl, hw⟩
      have HB : Hid (Below w.heap.size w w1) := by
        rcases hw with rfl | ⟨t, rfl⟩
        · exact Below.refl _ _
        · exact Lib.bytesWorld_below _ _ _
      have HG1 := Lib.hid (HG.out.later HB.out)
      clear hw HC
      go_wp2_with fail
      refine (itoa_any v w1 HV.out HG1.out).mono ?_
      rintro e w2 ⟨rfl, hb⟩
      have HB2 := Lib.hid (stepB HB.out hb)
      clear hb
      generalize ofL (Lib.itoa v) = z at *
      go_wp2
      go_ret2
      exact ⟨rfl, HB2.out⟩
    · rw [if_neg he]
      have e1 : ((ofL (Lib.itoa v)).toList == s.toList) = false := by rw [beq_eq_false_iff_ne]; exact fun e => he (ofL_eq.1 e)
      clear he
      go_enter Tryd.func53, Tryd.ntmps53
      go_wp2_with fail
      refine HC.out.mono ?_
      rintro e w1 ⟨rfl, hw⟩
      have HB : Hid (Below w.heap.size w w1) := by
        rcases hw with rfl | ⟨t, rfl⟩
        · exact Below.refl _ _
        · exact Lib.bytesWorld_below _ _ _
      have HG1 := Lib.hid (HG.out.later HB.out)
      clear hw HC
      go_wp2_with fail
      refine (itoa_any v w1 HV.out HG1.out).mono ?_
      rintro e w2 ⟨rfl, hb⟩
      have HB2 := Lib.hid (stepB HB.out hb)
      clear hb
      generalize ofL (Lib.itoa v) = z at *
      go_wp2
      go_ret2
      exact ⟨rfl, HB2.out⟩
  | «syntax» =>
    obtain ⟨t, p, hv⟩ := hg.syn
    have HC := Lib.hid (Tryd.strconv_Atoi_syntax_var s hs h t p w hv)
    have hnp : numP s = none := by unfold numP; rw [h]
    rw [hnp]
    clear hg h hnp hv
    go_enter Tryd.func53, Tryd.ntmps53
    go_wp2_with fail
    refine HC.out.mono ?_
    rintro e w1 ⟨M, rfl, _, _, hb⟩
    have HB := Lib.hid hb
    clear hb HC
    go_wp2
    go_ret2
    exact ⟨rfl, HB.out⟩
  | range =>
    obtain ⟨t, p, hv⟩ := hg.rng
    have HC := Lib.hid (Tryd.strconv_Atoi_range_var s hs h t p w hv)
    have hnp : numP s = none := by unfold numP; rw [h]
    rw [hnp]
    clear hg h hnp hv
    generalize Lib.atoiSat s.data.toList = z at *
    go_enter Tryd.func53, Tryd.ntmps53
    go_wp2_with fail
    refine HC.out.mono ?_
    rintro e w1 ⟨M, rfl, _, _, hb⟩
    have HB := Lib.hid hb
    clear hb HC
    go_wp2
    go_ret2
    exact ⟨rfl, HB.out⟩
end Go.Proofs.YtkgdmdcnhbaidaaDoor
