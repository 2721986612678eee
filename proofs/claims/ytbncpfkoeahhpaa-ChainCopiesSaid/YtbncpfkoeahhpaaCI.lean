/- Change; nobody's engine. -/
import Derived.Test.YtbncpfkoeahhpaaCH
namespace Go.Proofs.Ytbncpfkoeahhpaa
open Go.ChangeShapes Go.WideShapes Go.ChangeAt Go.RowKit Go.Maps
set_option linter.unusedVariables false
set_option linter.unusedSimpArgs false

set_option maxRecDepth 100000 in
set_option maxHeartbeats 8000000 in
theorem chchange_bad (B q : Nat) (cf : Conf) (a m : Nat) (st : AS) (S : Nat → Prop) (w : World) (h : CR w B q cf a m st S) (x : Int) (wr_ t : Int) (b : Bool) (v : ByteArray) (hs : v.size ≤ maxLen) (hmay : mayV m (wr_, t, b, v) = false) : Calls Try.prog 11 #[.pointer (some ⟨q, 0, none⟩), .int .u64 x, .agg #[.int .i64 wr_, .int .i64 t, .bool b, .string v]] w fun e w' => e = .returned (.int .i64 1) ∧ Below w.heap.size w w' := by
  have hb0 : Below w.heap.size w (w.alloc (.cells #[.int .i64 wr_, .int .i64 t, .bool b, .string v] 29)) := (Below.refl _ _).alloc (Nat.le_refl _) _
  have HB0 := Lib.hid hb0
  have HK0 : Hid (Blk (w.alloc (.cells #[.int .i64 wr_, .int .i64 t, .bool b, .string v] 29)) w.heap.size #[.int .i64 wr_, .int .i64 t, .bool b, .string v] 29) := Blk.new _ _ _
  have HR0 := Lib.hid (h.later hb0)
  have HMY : Hid (∀ W, CR W B q cf a m st S → Calls Try.prog 26 #[.pointer (some ⟨q, 0, none⟩), .agg #[.int .i64 wr_, .int .i64 t, .bool b, .string v]] W fun e w' => e = .returned (.bool (mayV m (wr_, t, b, v))) ∧ Below W.heap.size W w') := fun W hc => chmay_any B q cf a m st S W hc wr_ t b v hs
  rw [hmay] at HMY
  clear h hb0 hmay
  go_enter Try.func11, Try.ntmps11
  go_upto_region 1 with (fail)
  generalize w.alloc (.cells #[.int .i64 wr_, .int .i64 t, .bool b, .string v] 29) = w1 at *
  obtain ⟨r, hr⟩ : ∃ r, w.heap.size = r := ⟨_, rfl⟩
  have HWR : Hid (w.heap.size ≤ r) := by rw [hr]; exact Nat.le_refl _
  rw [hr] at HK0
  try rw [hr]
  clear hr
  have c0 := HK0.out.cell 0
  have c1 := HK0.out.cell 1
  have c2 := HK0.out.cell 2
  have c3 := HK0.out.cell 3
  simp only [List.getElem?_toArray, List.getElem?_cons_zero, List.getElem?_cons_succ] at c0 c1 c2 c3
  go_wp2_with fail
  refine (HMY.out _ HR0.out).mono ?_
  rintro e w2 ⟨rfl, hb⟩
  have HB2 := Lib.hid (stepB HB0.out hb)
  have HK2 := Lib.hid (HK0.out.later hb)
  have HR2 := Lib.hid (HR0.out.later hb)
  clear hb HMY HB0 HK0 HR0 c0 c1 c2 c3
  go_wp2
  go_ret
  exact ⟨rfl, HB2.out⟩
set_option maxRecDepth 100000 in
set_option maxHeartbeats 8000000 in
theorem chchange_no (B q : Nat) (cf : Conf) (a m : Nat) (st : AS) (S : Nat → Prop) (nd : Int → Nd) (U : List Int) (K : Nat) (w : World) (h : CR w B q cf a m st S) (hi : CI m st nd U K) (x : Int) (hx : hR x) (wr_ t : Int) (b : Bool) (v : ByteArray) (hs : v.size ≤ maxLen) (hmay : mayV m (wr_, t, b, v) = true) (hn : isA st x = false) : Calls Try.prog 11 #[.pointer (some ⟨q, 0, none⟩), .int .u64 x, .agg #[.int .i64 wr_, .int .i64 t, .bool b, .string v]] w fun e w' => e = .returned (.int .i64 5) ∧ Below w.heap.size w w' := by
  have hb0 : Below w.heap.size w (w.alloc (.cells #[.int .i64 wr_, .int .i64 t, .bool b, .string v] 29)) := (Below.refl _ _).alloc (Nat.le_refl _) _
  have HB0 := Lib.hid hb0
  have HK0 : Hid (Blk (w.alloc (.cells #[.int .i64 wr_, .int .i64 t, .bool b, .string v] 29)) w.heap.size #[.int .i64 wr_, .int .i64 t, .bool b, .string v] 29) := Blk.new _ _ _
  have HR0 := Lib.hid (h.later hb0)
  have HMY : Hid (∀ W, CR W B q cf a m st S → Calls Try.prog 26 #[.pointer (some ⟨q, 0, none⟩), .agg #[.int .i64 wr_, .int .i64 t, .bool b, .string v]] W fun e w' => e = .returned (.bool (mayV m (wr_, t, b, v))) ∧ Below W.heap.size W w') := fun W hc => chmay_any B q cf a m st S W hc wr_ t b v hs
  rw [hmay] at HMY
  have HC := Lib.hid (fun W (hc : CR W B q cf a m st S) fv => change_no B q cf a m st S nd U K W hc hi x hx hn fv)
  clear h hb0 hmay hi hx hn
  go_enter Try.func11, Try.ntmps11
  go_upto_region 1 with (fail)
  generalize w.alloc (.cells #[.int .i64 wr_, .int .i64 t, .bool b, .string v] 29) = w1 at *
  obtain ⟨r, hr⟩ : ∃ r, w.heap.size = r := ⟨_, rfl⟩
  have HWR : Hid (w.heap.size ≤ r) := by rw [hr]; exact Nat.le_refl _
  rw [hr] at HK0
  try rw [hr]
  clear hr
  have c0 := HK0.out.cell 0
  have c1 := HK0.out.cell 1
  have c2 := HK0.out.cell 2
  have c3 := HK0.out.cell 3
  simp only [List.getElem?_toArray, List.getElem?_cons_zero, List.getElem?_cons_succ] at c0 c1 c2 c3
  go_wp2_with fail
  refine (HMY.out _ HR0.out).mono ?_
  rintro e w2 ⟨rfl, hb⟩
  have HB2 := Lib.hid (stepB HB0.out hb)
  have HK2 := Lib.hid (HK0.out.later hb)
  have HR2 := Lib.hid (HR0.out.later hb)
  clear hb HMY HB0 HK0 HR0 c0 c1 c2 c3
  go_wp2_with fail
  refine (HC.out _ HR2.out _).mono ?_
  rintro e w3 ⟨rfl, hb⟩
  have HB3 := Lib.hid (stepB HB2.out hb)
  clear hb
  go_wp2
  go_ret
  exact ⟨rfl, HB3.out⟩
set_option maxRecDepth 100000 in
set_option maxHeartbeats 8000000 in
theorem chchange_yes (B q : Nat) (cf : Conf) (a m : Nat) (st : AS) (S : Nat → Prop) (nd : Int → Nd) (U : List Int) (K : Nat) (w : World) (h : CR w B q cf a m st S) (hi : CI m st nd U K) (x : Int) (hx : hR x) (wr_ t : Int) (b : Bool) (v : ByteArray) (hs : v.size ≤ maxLen) (hmay : mayV m (wr_, t, b, v) = true) (hw : wr_ ≤ 9223372036854775807) (hn : isA st x = true) : Calls Try.prog 11 #[.pointer (some ⟨q, 0, none⟩), .int .u64 x, .agg #[.int .i64 wr_, .int .i64 t, .bool b, .string v]] w (CEnd B q cf a m (wrA (27 + m) x (encT ((wr_, t, b, v), (nd x).2)) st) S (.int .i64 0) w) := by
  have hv0 := (hi.val x hx hn).1
  have hv : VN m ((wr_, t, b, v), (nd x).2) := mayV_VN hmay hw hv0.2.2.2.2
  have hb0 : Below w.heap.size w (w.alloc (.cells #[.int .i64 wr_, .int .i64 t, .bool b, .string v] 29)) := (Below.refl _ _).alloc (Nat.le_refl _) _
  have HB0 := Lib.hid hb0
  have HK0 : Hid (Blk (w.alloc (.cells #[.int .i64 wr_, .int .i64 t, .bool b, .string v] 29)) w.heap.size #[.int .i64 wr_, .int .i64 t, .bool b, .string v] 29) := Blk.new _ _ _
  have HR0 := Lib.hid (h.later hb0)
  have HMY : Hid (∀ W, CR W B q cf a m st S → Calls Try.prog 26 #[.pointer (some ⟨q, 0, none⟩), .agg #[.int .i64 wr_, .int .i64 t, .bool b, .string v]] W fun e w' => e = .returned (.bool (mayV m (wr_, t, b, v))) ∧ Below W.heap.size W w') := fun W hc => chmay_any B q cf a m st S W hc wr_ t b v hs
  rw [hmay] at HMY
  have HC := Lib.hid (fun W (hc : CR W B q cf a m st S) g (hk : Blk W g #[.int .i64 wr_, .int .i64 t, .bool b, .string v] 29) => change_yes B q cf a m st S nd U K W hc hi x hx hn 33 #[.pointer (some ⟨g, 0, none⟩)] (fun n => ((wr_, t, b, v), n.2)) cf33 (clo_change g wr_ t b v W hk) hv)
  generalize wrA (27 + m) x (encT ((wr_, t, b, v), (nd x).2)) st = st2 at *
  clear h hb0 hmay hi hx hn hv hv0 hw
  go_enter Try.func11, Try.ntmps11
  go_upto_region 1 with (fail)
  generalize w.alloc (.cells #[.int .i64 wr_, .int .i64 t, .bool b, .string v] 29) = w1 at *
  obtain ⟨r, hr⟩ : ∃ r, w.heap.size = r := ⟨_, rfl⟩
  have HWR : Hid (w.heap.size ≤ r) := by rw [hr]; exact Nat.le_refl _
  rw [hr] at HK0
  try rw [hr]
  clear hr
  have c0 := HK0.out.cell 0
  have c1 := HK0.out.cell 1
  have c2 := HK0.out.cell 2
  have c3 := HK0.out.cell 3
  simp only [List.getElem?_toArray, List.getElem?_cons_zero, List.getElem?_cons_succ] at c0 c1 c2 c3
  go_wp2_with fail
  refine (HMY.out _ HR0.out).mono ?_
  rintro e w2 ⟨rfl, hb⟩
  have HB2 := Lib.hid (stepB HB0.out hb)
  have HK2 := Lib.hid (HK0.out.later hb)
  have HR2 := Lib.hid (HR0.out.later hb)
  clear hb HMY HB0 HK0 HR0 c0 c1 c2 c3
  go_wp2_with fail
  refine (HC.out _ HR2.out r HK2.out).mono ?_
  rintro e w3 ⟨rfl, hE⟩
  have HE := Lib.hid (CEnd.from HB2.out (⟨rfl, hE⟩ : CEnd B q cf a m st2 S (.int .i64 0) _ _ w3))
  clear hE
  go_wp2
  go_ret
  exact HE.out
set_option maxRecDepth 100000 in
set_option maxHeartbeats 4000000 in
theorem nil_make (x : Int) (wr_ t : Int) (b : Bool) (v : ByteArray) (w : World) : Calls Try.prog 8 #[.pointer none, .agg #[.int .i64 wr_, .int .i64 t, .bool b, .string v], .int .u64 x] w fun e w' => e = .returned (.tuple #[.int .u64 0, .int .i64 2]) ∧ Below w.heap.size w w' := by
  have HB0 : Hid (Below w.heap.size w (w.alloc (.cells #[.int .i64 wr_, .int .i64 t, .bool b, .string v] 29))) := (Below.refl _ _).alloc (Nat.le_refl _) _
  go_enter Try.func8, Try.ntmps8
  go_wp2
  go_ret2
  exact ⟨rfl, HB0.out⟩
set_option maxRecDepth 100000 in
set_option maxHeartbeats 4000000 in
theorem nil_change (x : Int) (wr_ t : Int) (b : Bool) (v : ByteArray) (w : World) : Calls Try.prog 11 #[.pointer none, .int .u64 x, .agg #[.int .i64 wr_, .int .i64 t, .bool b, .string v]] w fun e w' => e = .returned (.int .i64 2) ∧ Below w.heap.size w w' := by
  have HB0 : Hid (Below w.heap.size w (w.alloc (.cells #[.int .i64 wr_, .int .i64 t, .bool b, .string v] 29))) := (Below.refl _ _).alloc (Nat.le_refl _) _
  go_enter Try.func11, Try.ntmps11
  go_wp2
  go_ret
  exact ⟨rfl, HB0.out⟩
set_option maxRecDepth 100000 in
set_option maxHeartbeats 4000000 in
theorem nil_stamp (x ts : Int) (w : World) : Calls Try.prog 12 #[.pointer none, .int .u64 x, .int .i64 ts] w fun e w' => e = .returned (.int .i64 2) ∧ Below w.heap.size w w' := by
  have HB0 : Hid (Below w.heap.size w (w.alloc (.cells #[.int .i64 ts] 3))) := (Below.refl _ _).alloc (Nat.le_refl _) _
  go_enter Try.func12, Try.ntmps12
  go_wp2
  go_ret
  exact ⟨rfl, HB0.out⟩
set_option maxRecDepth 100000 in
set_option maxHeartbeats 4000000 in
theorem nil_cut (x : Int) (w : World) : Calls Try.prog 13 #[.pointer none, .int .u64 x] w fun e w' => e = .returned (.int .i64 2) ∧ Below w.heap.size w w' := by
  go_enter Try.func13, Try.ntmps13
  go_wp2
  go_ret
  exact ⟨rfl, Below.refl _ _⟩
set_option maxRecDepth 100000 in
set_option maxHeartbeats 4000000 in
theorem nil_free (x : Int) (w : World) : Calls Try.prog 14 #[.pointer none, .int .u64 x] w fun e w' => e = .returned (.int .i64 2) ∧ Below w.heap.size w w' := by
  go_enter Try.func14, Try.ntmps14
  go_wp2
  go_ret
  exact ⟨rfl, Below.refl _ _⟩
set_option maxRecDepth 100000 in
set_option maxHeartbeats 4000000 in
theorem nil_used  (w : World) : Calls Try.prog 16 #[.pointer none] w fun e w' => e = .returned (.int .i64 0) ∧ Below w.heap.size w w' := by
  go_enter Try.func16, Try.ntmps16
  go_wp2
  go_ret
  exact ⟨rfl, Below.refl _ _⟩
set_option maxRecDepth 100000 in
set_option maxHeartbeats 4000000 in
theorem nil_copy  (w : World) : Calls Try.prog 17 #[.pointer none] w fun e w' => e = .returned (.pointer none) ∧ Below w.heap.size w w' := by
  go_enter Try.func17, Try.ntmps17
  go_wp2
  go_ret
  exact ⟨rfl, Below.refl _ _⟩
end Go.Proofs.Ytbncpfkoeahhpaa
