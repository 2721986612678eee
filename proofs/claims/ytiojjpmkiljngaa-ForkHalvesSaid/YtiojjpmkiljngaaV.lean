/- The document's word on fences; whether two nodes are the same, by the program. -/
import Derived.Test.YtiojjpmkiljngaaJ4
namespace Go.Proofs.Ytiojjpmkiljngaa
open Go.ChangeShapes Go.WideShapes Go.ChangeAt Go.RowKit
set_option linter.unusedVariables false
set_option linter.unusedSimpArgs false
set_option maxRecDepth 100000 in
set_option maxHeartbeats 1000000 in
theorem rFence_inner (A B C : Option Addr) (n c m d k e : Nat) (xs : List ByteArray) (kid : Int) (w : World) (hs : Rd sv w.heap.size w A n xs) (hn : n ≤ 1000000) (hm : m ≤ 1000000) (hk : k ≤ 1000000) :
    Calls Try.prog 23 #[.agg #[.bool false, .slice A n c, .slice B m d, .slice C k e], .int .i64 kid] w (FenceEnd false xs m k kid w) := by
  have b0 := Blk.new w #[.bool false, .slice A n c, .slice B m d, .slice C k e] 47
  have hB0 : Below w.heap.size w (w.alloc (.cells #[.bool false, .slice A n c, .slice B m d, .slice C k e] 47)) := (Below.refl _ _).alloc (Nat.le_refl _) _
  have HB0 := Lib.hid hB0
  have H0 := Lib.hid b0
  have Hs := Lib.hid (hs.later hB0)
  obtain ⟨b, hbm⟩ : ∃ b, mayB false xs m k = b := ⟨_, rfl⟩
  have hC := rMay_any false A B C n c m d k e xs _ (hs.later hB0) hn hm hk
  rw [hbm] at hC
  have HC := Lib.hid hC
  have HM := Lib.hid hbm
  have HL := Lib.hid Hs.out.1
  clear hB0 hs b0 hC hbm
  cases b
  · have HF : Hid (fenceB false xs m k kid = false) := by show _ = _; unfold fenceB; rw [HM.out]; rfl
    go_enter Try.func23, Try.ntmps23
    go_wp2_with fail
    refine (HC.out).mono ?_
    rintro x w' ⟨rfl, hb⟩
    have HB := Lib.hid (stepB HB0.out hb)
    clear hb HC
    go_wp2
    go_ret2
    exact fence_end_no HF.out HB.out
  · have HF : Hid (fenceB false xs m k kid = (decide (0 ≤ kid) && decide (kid < n))) := by show _ = _; unfold fenceB; rw [HM.out, HL.out]; rfl
    by_cases c1 : kid < 0
    · have d1 : decide (kid < 0) = true := decide_eq_true c1
      have HF2 : Hid (fenceB false xs m k kid = false) := by show _ = _; rw [HF.out, decide_eq_false (show ¬ 0 ≤ kid by omega)]; rfl
      clear c1
      go_enter Try.func23, Try.ntmps23
      go_wp2_with fail
      refine (HC.out).mono ?_
      rintro x w' ⟨rfl, hb⟩
      have HB := Lib.hid (stepB HB0.out hb)
      clear hb HC
      go_wp2
      go_ret2
      exact fence_end_no HF2.out HB.out
    · have d1 : decide (kid < 0) = false := decide_eq_false c1
      by_cases c2 : kid < n
      · have HF2 : Hid (fenceB false xs m k kid = true) := by show _ = _; rw [HF.out, decide_eq_true (show 0 ≤ kid by omega), decide_eq_true c2]; rfl
        obtain ⟨j, rfl⟩ : ∃ j : Nat, kid = j := ⟨kid.toNat, by omega⟩
        have hjn : j < n := by omega
        have d2 : decide ((n : Int) ≤ (j : Int)) = false := decide_eq_false (by omega)
        clear c1 c2
        go_enter Try.func23, Try.ntmps23
        go_wp2_with fail
        refine (HC.out).mono ?_
        rintro x w' ⟨rfl, hb⟩
        have HB := Lib.hid (stepB HB0.out hb)
        obtain ⟨g, off, rfl, hcell⟩ := (Hs.out.later hb).getD (j := 0) (by omega)
        have h1 := hcell j hjn
        obtain ⟨s, hs⟩ : ∃ s, xs.getD j e0 = s := ⟨_, rfl⟩
        rw [hs] at h1
        have HS : Hid (xs.getD (j : Int).toNat e0 = s) := hs
        have i1 := index_run g off n c j (j : Int) rfl hjn
        have k1 := (H0.out.later hb).cell 1
        simp only [List.getElem?_toArray, List.getElem?_cons_zero, List.getElem?_cons_succ] at k1
        clear hb HC hcell hs
        go_wp2
        go_ret2
        exact fence_end_yes HF2.out HS.out HB.out
      · have d2 : decide ((n : Int) ≤ kid) = true := decide_eq_true (by omega)
        have HF2 : Hid (fenceB false xs m k kid = false) := by show _ = _; rw [HF.out, decide_eq_false c2]; simp
        clear c1 c2
        go_enter Try.func23, Try.ntmps23
        go_wp2_with fail
        refine (HC.out).mono ?_
        rintro x w' ⟨rfl, hb⟩
        have HB := Lib.hid (stepB HB0.out hb)
        have k1 := (H0.out.later hb).cell 1
        simp only [List.getElem?_toArray, List.getElem?_cons_zero, List.getElem?_cons_succ] at k1
        clear hb HC
        go_wp2
        go_ret2
        exact fence_end_no HF2.out HB.out
theorem rFence_any (lf : Bool) (A B C : Option Addr) (n c m d k e : Nat) (xs : List ByteArray) (kid : Int) (w : World) (hs : Rd sv w.heap.size w A n xs) (hn : n ≤ 1000000) (hm : m ≤ 1000000) (hk : k ≤ 1000000) :
    Calls Try.prog 23 #[.agg #[.bool lf, .slice A n c, .slice B m d, .slice C k e], .int .i64 kid] w (FenceEnd lf xs m k kid w) := by
  cases lf
  · exact rFence_inner A B C n c m d k e xs kid w hs hn hm hk
  · have hB0 : Below w.heap.size w (w.alloc (.cells #[.bool true, .slice A n c, .slice B m d, .slice C k e] 47)) := (Below.refl _ _).alloc (Nat.le_refl _) _
    have HB0 := Lib.hid hB0
    have HF : Hid (fenceB true xs m k kid = false) := rfl
    clear hB0 hs
    go_enter Try.func23, Try.ntmps23
    go_wp2
    go_ret2
    exact fence_end_no HF.out HB0.out
set_option maxRecDepth 100000 in
set_option maxHeartbeats 4000000 in
theorem fsame_false_true (A B C : Option Addr) (n c m d k e : Nat) (xs : List ByteArray) (ks rs : List Int) (A' B' C' : Option Addr) (n' c' m' d' k' e' : Nat) (ys : List ByteArray) (js ss : List Int) (w : World) (hN : Nd w A B C n c m d k e xs ks rs) (hM : Nd w A' B' C' n' c' m' d' k' e' ys js ss) : Calls Try.prog 27 #[.agg #[.bool false, .slice A n c, .slice B m d, .slice C k e], .agg #[.bool true, .slice A' n' c', .slice B' m' d', .slice C' k' e']] w (BoolEnd false w) := by
  have hb0 : Below w.heap.size w ((w.alloc (.cells #[.bool false, .slice A n c, .slice B m d, .slice C k e] 28)).alloc (.cells #[.bool true, .slice A' n' c', .slice B' m' d', .slice C' k' e'] 28)) := ((Below.refl _ _).alloc (Nat.le_refl _) _).alloc (by simp) _
  have b0 := ((Blk.new w #[.bool false, .slice A n c, .slice B m d, .slice C k e] 28).alloc (.cells #[.bool true, .slice A' n' c', .slice B' m' d', .slice C' k' e'] 28)).c4
  have b1 := (Blk.new2 (w.alloc (.cells #[.bool false, .slice A n c, .slice B m d, .slice C k e] 28)) #[.bool true, .slice A' n' c', .slice B' m' d', .slice C' k' e'] 28 (B := w.heap.size + 1) (by simp)).c4
  have HB := Lib.hid hb0
  have HN := Lib.hid (hN.later hb0)
  have HM := Lib.hid (hM.later hb0)
  clear hb0 hN hM
  go_enter Try.func27, Try.ntmps27
  go_wp2
  go_ret
  exact bool_end rfl HB.out
set_option maxRecDepth 100000 in
set_option maxHeartbeats 4000000 in
theorem fsame_true_false (A B C : Option Addr) (n c m d k e : Nat) (xs : List ByteArray) (ks rs : List Int) (A' B' C' : Option Addr) (n' c' m' d' k' e' : Nat) (ys : List ByteArray) (js ss : List Int) (w : World) (hN : Nd w A B C n c m d k e xs ks rs) (hM : Nd w A' B' C' n' c' m' d' k' e' ys js ss) : Calls Try.prog 27 #[.agg #[.bool true, .slice A n c, .slice B m d, .slice C k e], .agg #[.bool false, .slice A' n' c', .slice B' m' d', .slice C' k' e']] w (BoolEnd false w) := by
  have hb0 : Below w.heap.size w ((w.alloc (.cells #[.bool true, .slice A n c, .slice B m d, .slice C k e] 28)).alloc (.cells #[.bool false, .slice A' n' c', .slice B' m' d', .slice C' k' e'] 28)) := ((Below.refl _ _).alloc (Nat.le_refl _) _).alloc (by simp) _
  have b0 := ((Blk.new w #[.bool true, .slice A n c, .slice B m d, .slice C k e] 28).alloc (.cells #[.bool false, .slice A' n' c', .slice B' m' d', .slice C' k' e'] 28)).c4
  have b1 := (Blk.new2 (w.alloc (.cells #[.bool true, .slice A n c, .slice B m d, .slice C k e] 28)) #[.bool false, .slice A' n' c', .slice B' m' d', .slice C' k' e'] 28 (B := w.heap.size + 1) (by simp)).c4
  have HB := Lib.hid hb0
  have HN := Lib.hid (hN.later hb0)
  have HM := Lib.hid (hM.later hb0)
  clear hb0 hN hM
  go_enter Try.func27, Try.ntmps27
  go_wp2
  go_ret
  exact bool_end rfl HB.out
set_option maxRecDepth 100000 in
set_option maxHeartbeats 4000000 in
theorem fsame_false (A B C : Option Addr) (n c m d k e : Nat) (xs : List ByteArray) (ks rs : List Int) (A' B' C' : Option Addr) (n' c' m' d' k' e' : Nat) (ys : List ByteArray) (js ss : List Int) (w : World) (hN : Nd w A B C n c m d k e xs ks rs) (hM : Nd w A' B' C' n' c' m' d' k' e' ys js ss) : Calls Try.prog 27 #[.agg #[.bool false, .slice A n c, .slice B m d, .slice C k e], .agg #[.bool false, .slice A' n' c', .slice B' m' d', .slice C' k' e']] w (BoolEnd (decide (xs = ys) && (decide (ks = js) && decide (rs = ss))) w) := by
  have hb0 : Below w.heap.size w ((w.alloc (.cells #[.bool false, .slice A n c, .slice B m d, .slice C k e] 28)).alloc (.cells #[.bool false, .slice A' n' c', .slice B' m' d', .slice C' k' e'] 28)) := ((Below.refl _ _).alloc (Nat.le_refl _) _).alloc (by simp) _
  have b0 := ((Blk.new w #[.bool false, .slice A n c, .slice B m d, .slice C k e] 28).alloc (.cells #[.bool false, .slice A' n' c', .slice B' m' d', .slice C' k' e'] 28)).c4
  have b1 := (Blk.new2 (w.alloc (.cells #[.bool false, .slice A n c, .slice B m d, .slice C k e] 28)) #[.bool false, .slice A' n' c', .slice B' m' d', .slice C' k' e'] 28 (B := w.heap.size + 1) (by simp)).c4
  have HB := Lib.hid hb0
  have HN := Lib.hid (hN.later hb0)
  have HM := Lib.hid (hM.later hb0)
  clear hb0 hN hM
  have hz := HN.out.sz
  have hy := HM.out.sz
  go_enter Try.func27, Try.ntmps27
  go_wp2_with fail
  generalize hw0 : (w.alloc (.cells #[.bool false, .slice A n c, .slice B m d, .slice C k e] 28)).alloc (.cells #[.bool false, .slice A' n' c', .slice B' m' d', .slice C' k' e'] 28) = w0 at *
  clear hw0
  refine (sEqual A A' n n' c c' xs ys _ HN.out.K.rd HM.out.K.rd (by omega) (by omega)).mono ?_
  rintro x _ ⟨rfl, u1, rfl⟩
  generalize decide (xs = ys) = p1 at *
  have HN1 := Lib.hid (HN.out.later (below_drewN (Below.refl _ _) u1))
  have HM1 := Lib.hid (HM.out.later (below_drewN (Below.refl _ _) u1))
  have HB1 := Lib.hid (below_drewN HB.out u1)
  cases p1
  · go_wp2
    go_ret
    exact bool_end rfl HB1.out
  · go_wp2_with fail
    refine (iEqual B B' m m' d d' ks js _ HN1.out.D.rd HM1.out.D.rd (by omega) (by omega)).mono ?_
    rintro x _ ⟨rfl, u2, rfl⟩
    generalize decide (ks = js) = p2 at *
    have HN2 := Lib.hid (HN1.out.later (below_drewN (Below.refl _ _) u2))
    have HM2 := Lib.hid (HM1.out.later (below_drewN (Below.refl _ _) u2))
    have HB2 := Lib.hid (below_drewN HB1.out u2)
    cases p2
    · go_wp2
      go_ret
      exact bool_end rfl (by first | exact HB2.out | exact below_drewN HB.out _)
    · go_wp2_with fail
      refine (hEqual C C' k k' e e' rs ss _ (by first | exact HN2.out.R.rd | exact (HN.out.later (below_drewN (Below.refl _ _) _)).R.rd) (by first | exact HM2.out.R.rd | exact (HM.out.later (below_drewN (Below.refl _ _) _)).R.rd) (by omega) (by omega)).mono ?_
      rintro x _ ⟨rfl, u3, rfl⟩
      generalize decide (rs = ss) = p3 at *
      go_wp2
      go_ret
      exact bool_end (by cases p3 <;> rfl) (by first | exact below_drewN HB2.out _ | exact below_drewN HB.out _ | exact below_drewN (below_drewN HB.out _) _)
set_option maxRecDepth 100000 in
set_option maxHeartbeats 4000000 in
theorem fsame_true (A B C : Option Addr) (n c m d k e : Nat) (xs : List ByteArray) (ks rs : List Int) (A' B' C' : Option Addr) (n' c' m' d' k' e' : Nat) (ys : List ByteArray) (js ss : List Int) (w : World) (hN : Nd w A B C n c m d k e xs ks rs) (hM : Nd w A' B' C' n' c' m' d' k' e' ys js ss) : Calls Try.prog 27 #[.agg #[.bool true, .slice A n c, .slice B m d, .slice C k e], .agg #[.bool true, .slice A' n' c', .slice B' m' d', .slice C' k' e']] w (BoolEnd (decide (xs = ys) && (decide (ks = js) && decide (rs = ss))) w) := by
  have hb0 : Below w.heap.size w ((w.alloc (.cells #[.bool true, .slice A n c, .slice B m d, .slice C k e] 28)).alloc (.cells #[.bool true, .slice A' n' c', .slice B' m' d', .slice C' k' e'] 28)) := ((Below.refl _ _).alloc (Nat.le_refl _) _).alloc (by simp) _
  have b0 := ((Blk.new w #[.bool true, .slice A n c, .slice B m d, .slice C k e] 28).alloc (.cells #[.bool true, .slice A' n' c', .slice B' m' d', .slice C' k' e'] 28)).c4
  have b1 := (Blk.new2 (w.alloc (.cells #[.bool true, .slice A n c, .slice B m d, .slice C k e] 28)) #[.bool true, .slice A' n' c', .slice B' m' d', .slice C' k' e'] 28 (B := w.heap.size + 1) (by simp)).c4
  have HB := Lib.hid hb0
  have HN := Lib.hid (hN.later hb0)
  have HM := Lib.hid (hM.later hb0)
  clear hb0 hN hM
  have hz := HN.out.sz
  have hy := HM.out.sz
  go_enter Try.func27, Try.ntmps27
  go_wp2_with fail
  generalize hw0 : (w.alloc (.cells #[.bool true, .slice A n c, .slice B m d, .slice C k e] 28)).alloc (.cells #[.bool true, .slice A' n' c', .slice B' m' d', .slice C' k' e'] 28) = w0 at *
  clear hw0
  refine (sEqual A A' n n' c c' xs ys _ HN.out.K.rd HM.out.K.rd (by omega) (by omega)).mono ?_
  rintro x _ ⟨rfl, u1, rfl⟩
  generalize decide (xs = ys) = p1 at *
  have HN1 := Lib.hid (HN.out.later (below_drewN (Below.refl _ _) u1))
  have HM1 := Lib.hid (HM.out.later (below_drewN (Below.refl _ _) u1))
  have HB1 := Lib.hid (below_drewN HB.out u1)
  cases p1
  · go_wp2
    go_ret
    exact bool_end rfl HB1.out
  · go_wp2_with fail
    refine (iEqual B B' m m' d d' ks js _ HN1.out.D.rd HM1.out.D.rd (by omega) (by omega)).mono ?_
    rintro x _ ⟨rfl, u2, rfl⟩
    generalize decide (ks = js) = p2 at *
    have HN2 := Lib.hid (HN1.out.later (below_drewN (Below.refl _ _) u2))
    have HM2 := Lib.hid (HM1.out.later (below_drewN (Below.refl _ _) u2))
    have HB2 := Lib.hid (below_drewN HB1.out u2)
    cases p2
    · go_wp2
      go_ret
      exact bool_end rfl (by first | exact HB2.out | exact below_drewN HB.out _)
    · go_wp2_with fail
      refine (hEqual C C' k k' e e' rs ss _ (by first | exact HN2.out.R.rd | exact (HN.out.later (below_drewN (Below.refl _ _) _)).R.rd) (by first | exact HM2.out.R.rd | exact (HM.out.later (below_drewN (Below.refl _ _) _)).R.rd) (by omega) (by omega)).mono ?_
      rintro x _ ⟨rfl, u3, rfl⟩
      generalize decide (rs = ss) = p3 at *
      go_wp2
      go_ret
      exact bool_end (by cases p3 <;> rfl) (by first | exact below_drewN HB2.out _ | exact below_drewN HB.out _ | exact below_drewN (below_drewN HB.out _) _)
end Go.Proofs.Ytiojjpmkiljngaa
