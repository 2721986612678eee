/-
The examples, the bounds of timestamps, and what is asked of nil.
-/
import Derived.Test.YtmkgipbepipjkaaDoorM
import Derived.Test.YtmkgipbepipjkaaDoorTie
import Derived.Test.YtmkgipbepipjkaaDoorCards
import Derived.SevenTiedAt
import Derived.Lay
import Derived.LaidLaws
import Derived.LaidHandle
namespace Go.Proofs.YtmkgipbepipjkaaDoor.statusNames
open Go.ChangeShapes Go.WideShapes Go.ChangeAt Go.RowKit
set_option linter.unusedVariables false
set_option linter.unusedSimpArgs false
theorem own : ownKnob Tryd.prog.godebug = none := by kernel_rfl
theorem laidOut : laidOutB Tryd.prog = true := by kernel_rfl

set_option maxRecDepth 100000 in
set_option maxHeartbeats 4000000 in
theorem begin_n (w : World) : Calls Tryd.prog 9 #[.pointer none] w fun x w' => x = .returned (.int .i64 0) ∧ w = w' := by
  go_enter Tryd.func9, Tryd.ntmps9
  go_wp2
  go_ret
  exact ⟨rfl, rfl⟩
set_option maxRecDepth 100000 in
set_option maxHeartbeats 4000000 in
theorem busy_n (w : World) : Calls Tryd.prog 14 #[.pointer none] w fun x w' => x = .returned (.slice none 0 0) ∧ w = w' := by
  go_enter Tryd.func14, Tryd.ntmps14
  go_wp2
  go_ret
  exact ⟨rfl, rfl⟩
set_option maxRecDepth 100000 in
set_option maxHeartbeats 4000000 in
theorem active_n (w : World) : Calls Tryd.prog 15 #[.pointer none] w fun x w' => x = .returned (.int .i64 0) ∧ w = w' := by
  go_enter Tryd.func15, Tryd.ntmps15
  go_wp2
  go_ret
  exact ⟨rfl, rfl⟩
set_option maxRecDepth 100000 in
set_option maxHeartbeats 4000000 in
theorem high_n (w : World) : Calls Tryd.prog 16 #[.pointer none] w fun x w' => x = .returned (.int .i64 0) ∧ w = w' := by
  go_enter Tryd.func16, Tryd.ntmps16
  go_wp2
  go_ret
  exact ⟨rfl, rfl⟩
set_option maxRecDepth 100000 in
set_option maxHeartbeats 4000000 in
theorem last_n (w : World) : Calls Tryd.prog 17 #[.pointer none] w fun x w' => x = .returned (.int .i64 0) ∧ w = w' := by
  go_enter Tryd.func17, Tryd.ntmps17
  go_wp2
  go_ret
  exact ⟨rfl, rfl⟩
set_option maxRecDepth 100000 in
set_option maxHeartbeats 4000000 in
theorem copy_n (w : World) : Calls Tryd.prog 18 #[.pointer none] w fun x w' => x = .returned (.pointer none) ∧ w = w' := by
  go_enter Tryd.func18, Tryd.ntmps18
  go_wp2
  go_ret
  exact ⟨rfl, rfl⟩
set_option maxRecDepth 100000 in
set_option maxHeartbeats 4000000 in
theorem turn_n (i st ts : Int) (w : World) : Calls Tryd.prog 31 #[.pointer none, .int .i64 i, .int .u8 st, .int .i64 ts] w fun x w' => x = .returned (.int .i64 2) ∧ w = w' := by
  go_enter Tryd.func31, Tryd.ntmps31
  go_wp2
  go_ret
  exact ⟨rfl, rfl⟩
set_option maxRecDepth 100000 in
set_option maxHeartbeats 4000000 in
theorem commit_n (i ts : Int) (w : World) : Calls Tryd.prog 10 #[.pointer none, .int .i64 i, .int .i64 ts] w fun x w' => x = .returned (.int .i64 2) ∧ w = w' := by
  go_enter Tryd.func10, Tryd.ntmps10
  go_wp2_with fail
  refine (turn_n i 3 ts w).mono ?_
  rintro x _ ⟨rfl, rfl⟩
  go_wp2
  go_ret
  exact ⟨rfl, rfl⟩
set_option maxRecDepth 100000 in
set_option maxHeartbeats 4000000 in
theorem fall_n (i : Int) (w : World) : Calls Tryd.prog 11 #[.pointer none, .int .i64 i] w fun x w' => x = .returned (.int .i64 2) ∧ w = w' := by
  go_enter Tryd.func11, Tryd.ntmps11
  go_wp2_with fail
  refine (turn_n i 2 0 w).mono ?_
  rintro x _ ⟨rfl, rfl⟩
  go_wp2
  go_ret
  exact ⟨rfl, rfl⟩
set_option maxRecDepth 100000 in
set_option maxHeartbeats 4000000 in
theorem fallen_n (i : Int) (w : World) : Calls Tryd.prog 12 #[.pointer none, .int .i64 i] w fun x w' => x = .returned (.int .i64 2) ∧ w = w' := by
  go_enter Tryd.func12, Tryd.ntmps12
  go_wp2_with fail
  refine (turn_n i 4 0 w).mono ?_
  rintro x _ ⟨rfl, rfl⟩
  go_wp2
  go_ret
  exact ⟨rfl, rfl⟩
set_option maxRecDepth 100000 in
set_option maxHeartbeats 4000000 in
theorem of_n (i : Int) (w : World) : Calls Tryd.prog 29 #[.pointer none, .int .i64 i] w fun x w' => x = .returned (.tuple #[.int .u8 0, .int .i64 0]) ∧ w = w' := by
  go_enter Tryd.func29, Tryd.ntmps29
  go_wp2
  go_ret2
  exact ⟨rfl, rfl⟩
set_option maxRecDepth 100000 in
set_option maxHeartbeats 4000000 in
theorem is_n (i : Int) (w : World) : Calls Tryd.prog 13 #[.pointer none, .int .i64 i, .int .i64 0, .int .i64 0] w fun x w' => x = .returned (.bool true) ∧ w = w' := by
  go_enter Tryd.func13, Tryd.ntmps13
  go_wp2_with fail
  refine (of_n i w).mono ?_
  rintro x _ ⟨rfl, rfl⟩
  go_wp2
  go_ret
  exact ⟨rfl, rfl⟩
set_option maxRecDepth 100000 in
set_option maxHeartbeats 8000000 in
theorem walk (w : World) (hT : TabAt w) : Calls Tryd.prog 3 #[] w fun x w' => x = .returned (.bool true) ∧ Below w.heap.size w w' := by
  go_enter Tryd.func3, Tryd.ntmps3
  go_wp2_with fail
  refine (works_any w hT).mono ?_
  rintro x w1 ⟨rfl, hb⟩
  have HT1 := Lib.hid (hT.later hb)
  have HB1 := Lib.hid hb
  have hpos := hT.lt
  clear hb hT
  go_wp2_with fail
  refine (begin_n w1).mono ?_
  rintro x _ ⟨rfl, rfl⟩
  go_wp2_with fail
  refine (commit_n 1 1 w1).mono ?_
  rintro x _ ⟨rfl, rfl⟩
  go_wp2_with fail
  refine (fall_n 1 w1).mono ?_
  rintro x _ ⟨rfl, rfl⟩
  go_wp2_with fail
  refine (fallen_n 1 w1).mono ?_
  rintro x _ ⟨rfl, rfl⟩
  go_wp2_with fail
  refine (is_n 1 w1).mono ?_
  rintro x _ ⟨rfl, rfl⟩
  go_wp2_with fail
  refine (busy_n w1).mono ?_
  rintro x _ ⟨rfl, rfl⟩
  go_wp2_with fail
  refine (active_n w1).mono ?_
  rintro x _ ⟨rfl, rfl⟩
  go_wp2_with fail
  refine (high_n w1).mono ?_
  rintro x _ ⟨rfl, rfl⟩
  go_wp2_with fail
  refine (last_n w1).mono ?_
  rintro x _ ⟨rfl, rfl⟩
  go_wp2_with fail
  refine (copy_n w1).mono ?_
  rintro x _ ⟨rfl, rfl⟩
  go_wp2_with fail
  refine (new_any w1).mono ?_
  rintro x w0 ⟨rfl, ho, hb⟩
  have O0 := Lib.hid (ho.base HB1.out.size)
  have T0 := Lib.hid (HT1.out.later hb)
  have HB0 := Lib.hid (stepB HB1.out hb)
  generalize w1.heap.size = p at *
  clear ho hb HT1 HB1
  go_wp2_with fail
  refine (high_k (c := 1) O0.out (by decide) (by decide)).mono ?_
  rintro x w1 ⟨rfl, hb⟩
  have O1 := Lib.hid (O0.out.later hb)
  have T1 := Lib.hid (T0.out.later hb)
  have HB1 := Lib.hid (stepB HB0.out hb)
  clear hb O0 T0 HB0
  go_wp2_with fail
  refine (last_k O1.out).mono ?_
  rintro x w2 ⟨rfl, hb⟩
  have O2 := Lib.hid (O1.out.later hb)
  have T2 := Lib.hid (T1.out.later hb)
  have HB2 := Lib.hid (stepB HB1.out hb)
  clear hb O1 T1 HB1
  go_wp2_with fail
  refine (commit_k 1 1 (M := []) (lb := 0) (c := 5) O2.out T2.out hpos (by decide) (by decide +kernel) (by decide +kernel) (by decide +kernel)).mono ?_
  rintro x w3 ⟨rfl, v3, en3, ho, hf⟩
  have O3 := Lib.hid ho
  have T3 := Lib.hid (T2.out.fr O2.out hf hpos)
  have HB3 := Lib.hid (Fr.below HB2.out hf (HB2.out.size) (O2.out.hp) (fun k hk => (O2.out.own.lt k hk).1))
  clear ho hf O2 T2 HB2
  go_wp2_with fail
  refine (fall_k 0 (M := []) (lb := 0) (c := 5) O3.out T3.out hpos (by decide) (by decide +kernel) (by decide +kernel) (by decide +kernel)).mono ?_
  rintro x w4 ⟨rfl, v4, en4, ho, hf⟩
  have O4 := Lib.hid ho
  have T4 := Lib.hid (T3.out.fr O3.out hf hpos)
  have HB4 := Lib.hid (Fr.below HB3.out hf (HB3.out.size) (O3.out.hp) (fun k hk => (O3.out.own.lt k hk).1))
  clear ho hf O3 T3 HB3
  go_wp2_with fail
  refine (fallen_k (-1) (M := []) (lb := 0) (c := 5) O4.out T4.out hpos (by decide) (by decide +kernel) (by decide +kernel) (by decide +kernel)).mono ?_
  rintro x w5 ⟨rfl, v5, en5, ho, hf⟩
  have O5 := Lib.hid ho
  have T5 := Lib.hid (T4.out.fr O4.out hf hpos)
  have HB5 := Lib.hid (Fr.below HB4.out hf (HB4.out.size) (O4.out.hp) (fun k hk => (O4.out.own.lt k hk).1))
  clear ho hf O4 T4 HB4
  go_wp2_with fail
  refine (begin_k (M := [(1, 0)]) (c := 1) O5.out (by decide) HB5.out.size (by decide) rfl).mono ?_
  rintro x w6 ⟨rfl, v6, en6, ho, hf⟩
  have O6 := Lib.hid ho
  have T6 := Lib.hid (T5.out.fr O5.out hf hpos)
  have HB6 := Lib.hid (Fr.below HB5.out hf (HB5.out.size) (O5.out.hp) (fun k hk => (O5.out.own.lt k hk).1))
  clear ho hf O5 T5 HB5
  go_wp2_with fail
  refine (is_k 1 1 0 (b := true) O6.out (by decide) (by decide +kernel)).mono ?_
  rintro x w7 ⟨rfl, hb⟩
  have O7 := Lib.hid (O6.out.later hb)
  have T7 := Lib.hid (T6.out.later hb)
  have HB7 := Lib.hid (stepB HB6.out hb)
  clear hb O6 T6 HB6
  go_wp2_with fail
  refine (fallen_k 1 (M := [(1, 0)]) (lb := 0) (c := 7) O7.out T7.out hpos (by decide) (by decide +kernel) (by decide +kernel) (by decide +kernel)).mono ?_
  rintro x w8 ⟨rfl, v8, en8, ho, hf⟩
  have O8 := Lib.hid ho
  have T8 := Lib.hid (T7.out.fr O7.out hf hpos)
  have HB8 := Lib.hid (Fr.below HB7.out hf (HB7.out.size) (O7.out.hp) (fun k hk => (O7.out.own.lt k hk).1))
  clear ho hf O7 T7 HB7
  go_wp2_with fail
  refine (commit_k 1 (-1) (M := [(1, 0)]) (lb := 0) (c := 1) O8.out T8.out hpos (by decide) (by decide +kernel) (by decide +kernel) (by decide +kernel)).mono ?_
  rintro x w9 ⟨rfl, v9, en9, ho, hf⟩
  have O9 := Lib.hid ho
  have T9 := Lib.hid (T8.out.fr O8.out hf hpos)
  have HB9 := Lib.hid (Fr.below HB8.out hf (HB8.out.size) (O8.out.hp) (fun k hk => (O8.out.own.lt k hk).1))
  clear ho hf O8 T8 HB8
  go_wp2_with fail
  refine (commit_k 1 1048577 (M := [(1, 0)]) (lb := 0) (c := 1) O9.out T9.out hpos (by decide) (by decide +kernel) (by decide +kernel) (by decide +kernel)).mono ?_
  rintro x w10 ⟨rfl, v10, en10, ho, hf⟩
  have O10 := Lib.hid ho
  have T10 := Lib.hid (T9.out.fr O9.out hf hpos)
  have HB10 := Lib.hid (Fr.below HB9.out hf (HB9.out.size) (O9.out.hp) (fun k hk => (O9.out.own.lt k hk).1))
  clear ho hf O9 T9 HB9
  go_wp2_with fail
  refine (commit_k 1 1048576 (M := [(3, 1048576)]) (lb := 1048576) (c := 0) O10.out T10.out hpos (by decide) (by decide +kernel) (by decide +kernel) (by decide +kernel)).mono ?_
  rintro x w11 ⟨rfl, v11, en11, ho, hf⟩
  have O11 := Lib.hid ho
  have T11 := Lib.hid (T10.out.fr O10.out hf hpos)
  have HB11 := Lib.hid (Fr.below HB10.out hf (HB10.out.size) (O10.out.hp) (fun k hk => (O10.out.own.lt k hk).1))
  clear ho hf O10 T10 HB10
  go_wp2_with fail
  refine (fall_k 1 (M := [(3, 1048576)]) (lb := 1048576) (c := 7) O11.out T11.out hpos (by decide) (by decide +kernel) (by decide +kernel) (by decide +kernel)).mono ?_
  rintro x w12 ⟨rfl, v12, en12, ho, hf⟩
  have O12 := Lib.hid ho
  have T12 := Lib.hid (T11.out.fr O11.out hf hpos)
  have HB12 := Lib.hid (Fr.below HB11.out hf (HB11.out.size) (O11.out.hp) (fun k hk => (O11.out.own.lt k hk).1))
  clear ho hf O11 T11 HB11
  go_wp2_with fail
  refine (begin_k (M := [(3, 1048576), (1, 0)]) (c := 2) O12.out (by decide) HB12.out.size (by decide) rfl).mono ?_
  rintro x w13 ⟨rfl, v13, en13, ho, hf⟩
  have O13 := Lib.hid ho
  have T13 := Lib.hid (T12.out.fr O12.out hf hpos)
  have HB13 := Lib.hid (Fr.below HB12.out hf (HB12.out.size) (O12.out.hp) (fun k hk => (O12.out.own.lt k hk).1))
  clear ho hf O12 T12 HB12
  go_wp2_with fail
  refine (commit_k 2 1048576 (M := [(3, 1048576), (1, 0)]) (lb := 1048576) (c := 1) O13.out T13.out hpos (by decide) (by decide +kernel) (by decide +kernel) (by decide +kernel)).mono ?_
  rintro x w14 ⟨rfl, v14, en14, ho, hf⟩
  have O14 := Lib.hid ho
  have T14 := Lib.hid (T13.out.fr O13.out hf hpos)
  have HB14 := Lib.hid (Fr.below HB13.out hf (HB13.out.size) (O13.out.hp) (fun k hk => (O13.out.own.lt k hk).1))
  clear ho hf O13 T13 HB13
  go_wp2_with fail
  refine (commit_k 2 0 (M := [(3, 1048576), (3, 0)]) (lb := 1048576) (c := 0) O14.out T14.out hpos (by decide) (by decide +kernel) (by decide +kernel) (by decide +kernel)).mono ?_
  rintro x w15 ⟨rfl, v15, en15, ho, hf⟩
  have O15 := Lib.hid ho
  have T15 := Lib.hid (T14.out.fr O14.out hf hpos)
  have HB15 := Lib.hid (Fr.below HB14.out hf (HB14.out.size) (O14.out.hp) (fun k hk => (O14.out.own.lt k hk).1))
  clear ho hf O14 T14 HB14
  go_wp2_with fail
  refine (is_k 2 3 0 (b := true) O15.out (by decide) (by decide +kernel)).mono ?_
  rintro x w16 ⟨rfl, hb⟩
  have O16 := Lib.hid (O15.out.later hb)
  have T16 := Lib.hid (T15.out.later hb)
  have HB16 := Lib.hid (stepB HB15.out hb)
  clear hb O15 T15 HB15
  go_wp2_with fail
  refine (last_k O16.out).mono ?_
  rintro x w17 ⟨rfl, hb⟩
  have O17 := Lib.hid (O16.out.later hb)
  have T17 := Lib.hid (T16.out.later hb)
  have HB17 := Lib.hid (stepB HB16.out hb)
  clear hb O16 T16 HB16
  go_wp2_with fail
  refine (begin_k (M := [(3, 1048576), (3, 0), (1, 0)]) (c := 3) O17.out (by decide) HB17.out.size (by decide) rfl).mono ?_
  rintro x w18 ⟨rfl, v18, en18, ho, hf⟩
  have O18 := Lib.hid ho
  have T18 := Lib.hid (T17.out.fr O17.out hf hpos)
  have HB18 := Lib.hid (Fr.below HB17.out hf (HB17.out.size) (O17.out.hp) (fun k hk => (O17.out.own.lt k hk).1))
  clear ho hf O17 T17 HB17
  go_wp2_with fail
  refine (fall_k 3 (M := [(3, 1048576), (3, 0), (2, 0)]) (lb := 1048576) (c := 0) O18.out T18.out hpos (by decide) (by decide +kernel) (by decide +kernel) (by decide +kernel)).mono ?_
  rintro x w19 ⟨rfl, v19, en19, ho, hf⟩
  have O19 := Lib.hid ho
  have T19 := Lib.hid (T18.out.fr O18.out hf hpos)
  have HB19 := Lib.hid (Fr.below HB18.out hf (HB18.out.size) (O18.out.hp) (fun k hk => (O18.out.own.lt k hk).1))
  clear ho hf O18 T18 HB18
  go_wp2_with fail
  refine (fall_k 3 (M := [(3, 1048576), (3, 0), (2, 0)]) (lb := 1048576) (c := 7) O19.out T19.out hpos (by decide) (by decide +kernel) (by decide +kernel) (by decide +kernel)).mono ?_
  rintro x w20 ⟨rfl, v20, en20, ho, hf⟩
  have O20 := Lib.hid ho
  have T20 := Lib.hid (T19.out.fr O19.out hf hpos)
  have HB20 := Lib.hid (Fr.below HB19.out hf (HB19.out.size) (O19.out.hp) (fun k hk => (O19.out.own.lt k hk).1))
  clear ho hf O19 T19 HB19
  go_wp2_with fail
  refine (is_k 3 2 0 (b := true) O20.out (by decide) (by decide +kernel)).mono ?_
  rintro x w21 ⟨rfl, hb⟩
  have O21 := Lib.hid (O20.out.later hb)
  have T21 := Lib.hid (T20.out.later hb)
  have HB21 := Lib.hid (stepB HB20.out hb)
  clear hb O20 T20 HB20
  go_wp2_with fail
  refine (fallen_k 3 (M := [(3, 1048576), (3, 0), (4, 0)]) (lb := 1048576) (c := 0) O21.out T21.out hpos (by decide) (by decide +kernel) (by decide +kernel) (by decide +kernel)).mono ?_
  rintro x w22 ⟨rfl, v22, en22, ho, hf⟩
  have O22 := Lib.hid ho
  have T22 := Lib.hid (T21.out.fr O21.out hf hpos)
  have HB22 := Lib.hid (Fr.below HB21.out hf (HB21.out.size) (O21.out.hp) (fun k hk => (O21.out.own.lt k hk).1))
  clear ho hf O21 T21 HB21
  go_wp2_with fail
  refine (fallen_k 3 (M := [(3, 1048576), (3, 0), (4, 0)]) (lb := 1048576) (c := 7) O22.out T22.out hpos (by decide) (by decide +kernel) (by decide +kernel) (by decide +kernel)).mono ?_
  rintro x w23 ⟨rfl, v23, en23, ho, hf⟩
  have O23 := Lib.hid ho
  have T23 := Lib.hid (T22.out.fr O22.out hf hpos)
  have HB23 := Lib.hid (Fr.below HB22.out hf (HB22.out.size) (O22.out.hp) (fun k hk => (O22.out.own.lt k hk).1))
  clear ho hf O22 T22 HB22
  go_wp2_with fail
  refine (commit_k 3 0 (M := [(3, 1048576), (3, 0), (4, 0)]) (lb := 1048576) (c := 7) O23.out T23.out hpos (by decide) (by decide +kernel) (by decide +kernel) (by decide +kernel)).mono ?_
  rintro x w24 ⟨rfl, v24, en24, ho, hf⟩
  have O24 := Lib.hid ho
  have T24 := Lib.hid (T23.out.fr O23.out hf hpos)
  have HB24 := Lib.hid (Fr.below HB23.out hf (HB23.out.size) (O23.out.hp) (fun k hk => (O23.out.own.lt k hk).1))
  clear ho hf O23 T23 HB23
  go_wp2_with fail
  refine (commit_k 4 0 (M := [(3, 1048576), (3, 0), (4, 0)]) (lb := 1048576) (c := 5) O24.out T24.out hpos (by decide) (by decide +kernel) (by decide +kernel) (by decide +kernel)).mono ?_
  rintro x w25 ⟨rfl, v25, en25, ho, hf⟩
  have O25 := Lib.hid ho
  have T25 := Lib.hid (T24.out.fr O24.out hf hpos)
  have HB25 := Lib.hid (Fr.below HB24.out hf (HB24.out.size) (O24.out.hp) (fun k hk => (O24.out.own.lt k hk).1))
  clear ho hf O24 T24 HB24
  go_wp2
  go_ret
  exact ⟨rfl, HB25.out⟩


set_option maxRecDepth 100000 in
theorem lifted (os : Os) (started : os.Started) (H : Type) (enc : TypeId × Value → H) :
    ReturnsInHanded {} Tryd.checked os 3 .any (fun w args => (Rows.statusNamesSpec.pre enc Tryd.prog Tryd.f3 Rows.statusNamesRow.domain false w args ∧ laidMetH Tryd.prog Rows.statusNamesRow.laid w) ∧ sizedMet enc Tryd.prog Tryd.f3 (OpenSpec.ofChange Rows.statusNamesSpec) false w args) (Rows.statusNamesSpec.post enc Tryd.prog Tryd.f3 false true false false) := by
  refine returnsInHanded_of_change_and (C := Tryd.checked) (X := fun w _ => laidMetH Tryd.prog Rows.statusNamesRow.laid w) (fun _ _ _ hh h => h.of_heap hh) own started (by kernel_rfl) Tryd.func3
    (ChangeSpec.witness_shaped (enc := enc) (C := Tryd.checked) (os := os) (X := fun w _ => laidMetH Tryd.prog Rows.statusNamesRow.laid w) false (World.laidAll Tryd.prog os Rows.statusNamesRow.laid) #[] 8 (World.laidAll_os _ _ _)
      (World.shaped_of_ZipB (by kernel_rfl) (by kernel_rfl)) (by kernel_rfl) (by kernel_rfl) (by kernel_rfl)
      (by rw [MakeChecks.laidMetH_plain _ _ _ (by kernel_rfl)]; exact laidMet_laidAll _ (by kernel_rfl) (by kernel_rfl))) ?_
  intro W base args ds gs before hval0 hW _ hsz hL _
  have hval : ∀ (j : Nat) t v, Tryd.f3.params[j]? = some t → args[j]? = some v → Value.okWide Tryd.prog W .any base t v := hval0
  have hW' := hW
  obtain ⟨p, q, hA0, hV, hbef, _, _⟩ := hW
  have hA : DataW.TrodAll enc Tryd.prog W 0 (fun _ => true) true Tryd.f3.params.toList args.toList ds p := hA0
  rw [Tryd.params3] at hA hval
  obtain ⟨h1, rfl, rfl⟩ := trodAll_nil hA
  obtain rfl : args = #[] := by cases args; simp_all
  obtain ⟨rfl, rfl⟩ := trodVars_none hV

  refine (walk W (tab_of_laid hL)).mono fun e W' ⟨he, hb⟩ => ?_
  subst he
  exact ⟨_, rfl, law_post laidOut (of_decide_eq_true (by kernel_rfl)) rfl Tryd.underlying4 rfl rfl hW' hb⟩

theorem over : Rows.statusNamesRow.holds Tryd.pinned (OpenSpec.ofChange Rows.statusNamesSpec) :=
  OpenClaim.holds_of_wide 3 Tryd.f3 rfl rfl rfl rfl rfl rfl rfl ⟨rfl, rfl, rfl, rfl, rfl⟩ rfl rfl rfl rfl rfl (by kernel_rfl) Tryd.func3 (by kernel_rfl)
    (of_decide_eq_true (by kernel_rfl)) (by unfold Func.isWrapper; first | (rw [if_pos (by decide +kernel)]; kernel_rfl) | (rw [if_neg (by decide +kernel)]; exact ⟨rfl, rfl⟩))
    (fun os started H enc _ => lifted os started H enc)
theorem card : Rows.StatusNamesCardSaid :=
  Claim7.holds_tied_plain_at .later [] [.data] true (true, "b1f80fd74cd5558cecf8c137d8407ecb493cf558ae174e6cefbb4fc2bec1b4f4") false over (fun _ h => by cases h) (by kernel_rfl) (fun _ h => by cases h) statusNames_row_tie rfl ⟨rfl, rfl⟩ (by kernel_rfl) rfl
    (fun f fn hf hfn => by
      obtain rfl : f = 3 := Option.some.inj ((show Tryd.prog.funcNamed "ferryman/ferrymanlaw08.StatusNames" = some 3 by kernel_rfl).symm.trans hf) |>.symm
      obtain rfl : fn = Tryd.f3 := (Option.some.inj (Tryd.func3.symm.trans hfn)).symm
      exact ⟨by kernel_rfl, fun j t ht => by
        rw [Tryd.params3] at ht
        simp at ht⟩)
    (by kernel_rfl)
end Go.Proofs.YtmkgipbepipjkaaDoor.statusNames
namespace Go.Proofs.YtmkgipbepipjkaaDoor
theorem statusNames_holds : Rows.StatusNamesCardSaid := statusNames.card
end Go.Proofs.YtmkgipbepipjkaaDoor
