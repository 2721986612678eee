/- Nodes: Cut. -/
import Derived.Test.YtiojjpmkiljngaaI0
namespace Go.Proofs.Ytiojjpmkiljngaa
open Go.ChangeShapes Go.WideShapes Go.ChangeAt Go.RowKit
set_option linter.unusedVariables false
set_option linter.unusedSimpArgs false
set_option maxRecDepth 100000 in
set_option maxHeartbeats 4000000 in
theorem cut_form (lf : Bool) (A B C : Option Addr) (n c m d k e : Nat) (xs : List ByteArray) (ks rs : List Int) (kid : Int) (w : World) (hN : Nd w A B C n c m d k e xs ks rs) (hM : (!lf && mayB lf xs m k) = false) : Calls Try.prog 17 #[.agg #[.bool lf, .slice A n c, .slice B m d, .slice C k e], .int .i64 kid] w (NdEnd false [] [] [] 4 w) := by
  have hb0 : Below w.heap.size w ((w.alloc (.cells #[.bool lf, .slice A n c, .slice B m d, .slice C k e] 28)).alloc (.cells #[.bool false, .slice none 0 0, .slice none 0 0, .slice none 0 0] 28)) := ((Below.refl _ _).alloc (Nat.le_refl _) _).alloc (by simp) _
  have H0 := Lib.hid ((Blk.new w #[.bool lf, .slice A n c, .slice B m d, .slice C k e] 28).alloc (.cells #[.bool false, .slice none 0 0, .slice none 0 0, .slice none 0 0] 28))
  have H1 := Lib.hid (Blk.new2 (w.alloc (.cells #[.bool lf, .slice A n c, .slice B m d, .slice C k e] 28)) #[.bool false, .slice none 0 0, .slice none 0 0, .slice none 0 0] 28 (B := w.heap.size + 1) (by simp))
  have HB0 := Lib.hid hb0
  have HN0 := Lib.hid (hN.later hb0)
  clear hb0 hN
  have HM := Lib.hid hM
  clear hM
  go_enter Try.func17, Try.ntmps17
  go_wp2_with fail
  refine (inner_any lf A B C n c m d k e xs _ HN0.out.K.rd (by have := HN0.out.sz; omega) (by have := HN0.out.sz; omega) (by have := HN0.out.sz; omega)).mono ?_
  rintro x w1 ⟨rfl, hb⟩
  have HB1 := Lib.hid (stepB HB0.out hb)
  have H01 := Lib.hid ((H0).out.later hb)
  have H11 := Lib.hid ((H1).out.later hb)
  have HN1 := Lib.hid (HN0.out.later hb)
  have c1 := H01.out.c4
  have r1 := H11.out.c4
  have l1 := H11.out.l4.2.2.2.2
  clear hb HB0 H0 H1 HN0
  rw [HM.out]
  go_wp2
  exact bodyPost_ret (v := .tuple #[.agg #[.bool false, .slice none 0 0, .slice none 0 0, .slice none 0 0], .int .i64 4]) (by simp [results, Try.results17, go_sem, *]) rfl (nd_zero (by first | exact HB1.out | exact set4 HB1.out (by omega)))
set_option maxRecDepth 100000 in
set_option maxHeartbeats 4000000 in
theorem cut_one (A B C : Option Addr) (n c m d k e : Nat) (xs : List ByteArray) (ks rs : List Int) (kid : Int) (w : World) (hN : Nd w A B C n c m d k e xs ks rs) (hM : mayB false xs m k = true) (hm : m = 1) : Calls Try.prog 17 #[.agg #[.bool false, .slice A n c, .slice B m d, .slice C k e], .int .i64 kid] w (NdEnd false [] [] [] 4 w) := by
  have hb0 : Below w.heap.size w ((w.alloc (.cells #[.bool false, .slice A n c, .slice B m d, .slice C k e] 28)).alloc (.cells #[.bool false, .slice none 0 0, .slice none 0 0, .slice none 0 0] 28)) := ((Below.refl _ _).alloc (Nat.le_refl _) _).alloc (by simp) _
  have H0 := Lib.hid ((Blk.new w #[.bool false, .slice A n c, .slice B m d, .slice C k e] 28).alloc (.cells #[.bool false, .slice none 0 0, .slice none 0 0, .slice none 0 0] 28))
  have H1 := Lib.hid (Blk.new2 (w.alloc (.cells #[.bool false, .slice A n c, .slice B m d, .slice C k e] 28)) #[.bool false, .slice none 0 0, .slice none 0 0, .slice none 0 0] 28 (B := w.heap.size + 1) (by simp))
  have HB0 := Lib.hid hb0
  have HN0 := Lib.hid (hN.later hb0)
  clear hb0 hN
  have HM := Lib.hid hM
  have d1 : ((m : Int) == 1) = true := by rw [beq_iff_eq]; omega
  clear hM hm
  go_enter Try.func17, Try.ntmps17
  go_wp2_with fail
  refine (inner_any false A B C n c m d k e xs _ HN0.out.K.rd (by have := HN0.out.sz; omega) (by have := HN0.out.sz; omega) (by have := HN0.out.sz; omega)).mono ?_
  rintro x w1 ⟨rfl, hb⟩
  have HB1 := Lib.hid (stepB HB0.out hb)
  have H01 := Lib.hid ((H0).out.later hb)
  have H11 := Lib.hid ((H1).out.later hb)
  have HN1 := Lib.hid (HN0.out.later hb)
  have c1 := H01.out.c4
  have r1 := H11.out.c4
  have l1 := H11.out.l4.2.2.2.2
  clear hb HB0 H0 H1 HN0
  rw [HM.out, show (!false && true) = true from rfl]
  go_wp2
  exact bodyPost_ret (v := .tuple #[.agg #[.bool false, .slice none 0 0, .slice none 0 0, .slice none 0 0], .int .i64 4]) (by simp [results, Try.results17, go_sem, *]) rfl (nd_zero (by first | exact HB1.out | exact set4 HB1.out (by omega)))
set_option maxRecDepth 100000 in
set_option maxHeartbeats 4000000 in
theorem cut_none_low (A B C : Option Addr) (n c m d k e : Nat) (xs : List ByteArray) (ks rs : List Int) (kid : Int) (w : World) (hN : Nd w A B C n c m d k e xs ks rs) (hM : mayB false xs m k = true) (hm : m ≠ 1) (hk : kid < 0) : Calls Try.prog 17 #[.agg #[.bool false, .slice A n c, .slice B m d, .slice C k e], .int .i64 kid] w (NdEnd false [] [] [] 5 w) := by
  have hb0 : Below w.heap.size w ((w.alloc (.cells #[.bool false, .slice A n c, .slice B m d, .slice C k e] 28)).alloc (.cells #[.bool false, .slice none 0 0, .slice none 0 0, .slice none 0 0] 28)) := ((Below.refl _ _).alloc (Nat.le_refl _) _).alloc (by simp) _
  have H0 := Lib.hid ((Blk.new w #[.bool false, .slice A n c, .slice B m d, .slice C k e] 28).alloc (.cells #[.bool false, .slice none 0 0, .slice none 0 0, .slice none 0 0] 28))
  have H1 := Lib.hid (Blk.new2 (w.alloc (.cells #[.bool false, .slice A n c, .slice B m d, .slice C k e] 28)) #[.bool false, .slice none 0 0, .slice none 0 0, .slice none 0 0] 28 (B := w.heap.size + 1) (by simp))
  have HB0 := Lib.hid hb0
  have HN0 := Lib.hid (hN.later hb0)
  clear hb0 hN
  have HM := Lib.hid hM
  have d1 : ((m : Int) == 1) = false := by rw [beq_eq_false_iff_ne]; omega
  have d2 : decide (kid < 0) = true := decide_eq_true hk
  clear hM hm hk
  go_enter Try.func17, Try.ntmps17
  go_wp2_with fail
  refine (inner_any false A B C n c m d k e xs _ HN0.out.K.rd (by have := HN0.out.sz; omega) (by have := HN0.out.sz; omega) (by have := HN0.out.sz; omega)).mono ?_
  rintro x w1 ⟨rfl, hb⟩
  have HB1 := Lib.hid (stepB HB0.out hb)
  have H01 := Lib.hid ((H0).out.later hb)
  have H11 := Lib.hid ((H1).out.later hb)
  have HN1 := Lib.hid (HN0.out.later hb)
  have c1 := H01.out.c4
  have r1 := H11.out.c4
  have l1 := H11.out.l4.2.2.2.2
  clear hb HB0 H0 H1 HN0
  rw [HM.out, show (!false && true) = true from rfl]
  go_wp2
  exact bodyPost_ret (v := .tuple #[.agg #[.bool false, .slice none 0 0, .slice none 0 0, .slice none 0 0], .int .i64 5]) (by simp [results, Try.results17, go_sem, *]) rfl (nd_zero (by first | exact HB1.out | exact set4 HB1.out (by omega)))
set_option maxRecDepth 100000 in
set_option maxHeartbeats 4000000 in
theorem cut_none_high (A B C : Option Addr) (n c m d k e : Nat) (xs : List ByteArray) (ks rs : List Int) (kid : Int) (w : World) (hN : Nd w A B C n c m d k e xs ks rs) (hM : mayB false xs m k = true) (hm : m ≠ 1) (hk : (m : Int) ≤ kid) : Calls Try.prog 17 #[.agg #[.bool false, .slice A n c, .slice B m d, .slice C k e], .int .i64 kid] w (NdEnd false [] [] [] 5 w) := by
  have hb0 : Below w.heap.size w ((w.alloc (.cells #[.bool false, .slice A n c, .slice B m d, .slice C k e] 28)).alloc (.cells #[.bool false, .slice none 0 0, .slice none 0 0, .slice none 0 0] 28)) := ((Below.refl _ _).alloc (Nat.le_refl _) _).alloc (by simp) _
  have H0 := Lib.hid ((Blk.new w #[.bool false, .slice A n c, .slice B m d, .slice C k e] 28).alloc (.cells #[.bool false, .slice none 0 0, .slice none 0 0, .slice none 0 0] 28))
  have H1 := Lib.hid (Blk.new2 (w.alloc (.cells #[.bool false, .slice A n c, .slice B m d, .slice C k e] 28)) #[.bool false, .slice none 0 0, .slice none 0 0, .slice none 0 0] 28 (B := w.heap.size + 1) (by simp))
  have HB0 := Lib.hid hb0
  have HN0 := Lib.hid (hN.later hb0)
  clear hb0 hN
  have HM := Lib.hid hM
  have d1 : ((m : Int) == 1) = false := by rw [beq_eq_false_iff_ne]; omega
  have d2 : decide (kid < 0) = false := decide_eq_false (by omega)
  have d3 : decide ((m : Int) ≤ kid) = true := decide_eq_true hk
  clear hM hm hk
  go_enter Try.func17, Try.ntmps17
  go_wp2_with fail
  refine (inner_any false A B C n c m d k e xs _ HN0.out.K.rd (by have := HN0.out.sz; omega) (by have := HN0.out.sz; omega) (by have := HN0.out.sz; omega)).mono ?_
  rintro x w1 ⟨rfl, hb⟩
  have HB1 := Lib.hid (stepB HB0.out hb)
  have H01 := Lib.hid ((H0).out.later hb)
  have H11 := Lib.hid ((H1).out.later hb)
  have HN1 := Lib.hid (HN0.out.later hb)
  have c1 := H01.out.c4
  have r1 := H11.out.c4
  have l1 := H11.out.l4.2.2.2.2
  clear hb HB0 H0 H1 HN0
  rw [HM.out, show (!false && true) = true from rfl]
  go_wp2
  exact bodyPost_ret (v := .tuple #[.agg #[.bool false, .slice none 0 0, .slice none 0 0, .slice none 0 0], .int .i64 5]) (by simp [results, Try.results17, go_sem, *]) rfl (nd_zero (by first | exact HB1.out | exact set4 HB1.out (by omega)))
set_option maxRecDepth 100000 in
set_option maxHeartbeats 4000000 in
theorem cut_first (A B C : Option Addr) (n c m d k e : Nat) (xs : List ByteArray) (ks rs : List Int) (kid : Int) (j : Nat) (w : World) (hN : Nd w A B C n c m d k e xs ks rs) (hM : mayB false xs m k = true) (hm : m ≠ 1) (hj : kid = j) (hk : j < m) (hz : j = 0) : Calls Try.prog 17 #[.agg #[.bool false, .slice A n c, .slice B m d, .slice C k e], .int .i64 kid] w (NdEnd false (xs.take (j - 1) ++ ([] ++ xs.drop (j - 1 + 1))) (ks.take j ++ ([] ++ ks.drop (j + 1))) [] 0 w) := by
  have hb0 : Below w.heap.size w ((w.alloc (.cells #[.bool false, .slice A n c, .slice B m d, .slice C k e] 28)).alloc (.cells #[.bool false, .slice none 0 0, .slice none 0 0, .slice none 0 0] 28)) := ((Below.refl _ _).alloc (Nat.le_refl _) _).alloc (by simp) _
  have H0 := Lib.hid ((Blk.new w #[.bool false, .slice A n c, .slice B m d, .slice C k e] 28).alloc (.cells #[.bool false, .slice none 0 0, .slice none 0 0, .slice none 0 0] 28))
  have H1 := Lib.hid (Blk.new2 (w.alloc (.cells #[.bool false, .slice A n c, .slice B m d, .slice C k e] 28)) #[.bool false, .slice none 0 0, .slice none 0 0, .slice none 0 0] 28 (B := w.heap.size + 1) (by simp))
  have HB0 := Lib.hid hb0
  have HN0 := Lib.hid (hN.later hb0)
  clear hb0 hN
  have HM := Lib.hid hM
  have d1 : ((m : Int) == 1) = false := by rw [beq_eq_false_iff_ne]; omega
  have d2 : decide ((kid : Int) < 0) = false := decide_eq_false (by omega)
  have d3 : decide ((m : Int) ≤ kid) = false := decide_eq_false (by omega)
  have hkn : m = n + 1 := by have h := may_true hM; rw [if_neg (by decide)] at h; have := HN0.out.K.len; omega
  obtain ⟨q, hq⟩ : ∃ q, kid - 1 = q := ⟨_, rfl⟩
  have d4 : q < 0 := by omega
  have d5 : decide (q < 0) = true := decide_eq_true d4
  have HQ := Lib.hid hq
  clear hq
  have HKN := Lib.hid hkn
  have HZ0 := Lib.hid hz
  have HK := Lib.hid hk
  have HJ := Lib.hid hj
  have HM1 := Lib.hid hm
  clear hM hm hkn hk hj hz
  generalize hX : xs.take (j - 1) ++ ([] ++ xs.drop (j - 1 + 1)) = X
  generalize hR : ks.take j ++ ([] ++ ks.drop (j + 1)) = R
  have HXE := Lib.hid hX
  have HRE := Lib.hid hR
  clear hX hR
  go_enter Try.func17, Try.ntmps17
  go_wp2_with fail
  refine (inner_any false A B C n c m d k e xs _ HN0.out.K.rd (by have := HN0.out.sz; omega) (by have := HN0.out.sz; omega) (by have := HN0.out.sz; omega)).mono ?_
  rintro x w1 ⟨rfl, hb⟩
  have HB1 := Lib.hid (stepB HB0.out hb)
  have H01 := Lib.hid ((H0).out.later hb)
  have H11 := Lib.hid ((H1).out.later hb)
  have HN1 := Lib.hid (HN0.out.later hb)
  have c1 := H01.out.c4
  have r1 := H11.out.c4
  have l1 := H11.out.l4.2.2.2.2
  clear hb HB0 H0 H1 HN0
  rw [HM.out, show (!false && true) = true from rfl]
  have HX : Hid (∀ W, Aft w1 W → Calls Try.prog 36 #[.slice A n c, .int .i64 0, .int .i64 1, .slice none 0 0] W (MadeEnd sv 9 X W)) := fun W hW => by
    have := ssplice A none n c 0 0 (j - 1) 1 0 1 xs [] W (by have := HZ0.out; have := HJ.out; have := HQ.out; first | omega | (rw [if_neg (by omega)]; omega)) rfl (HN1.out.K.later hW) (Sl.empty W) (by have := HKN.out; have := HK.out; have := HM1.out; omega) (by have := HN1.out.sz; omega) (by omega)
    rw [HXE.out] at this; exact this
  have HR : Hid (∀ W, Aft w1 W → Calls Try.prog 41 #[.slice B m d, .int .i64 kid, .int .i64 1, .slice none 0 0] W (MadeEnd iv 3 R W)) := fun W hW => by
    have := isplice B none m d 0 0 j 1 kid 1 ks [] W HJ.out rfl (HN1.out.D.later hW) (Sl.empty W) (by have := HKN.out; have := HK.out; omega) (by have := HN1.out.sz; omega) (by omega)
    rw [HRE.out] at this; exact this
  have hw : IntKind.i64.wrap (kid - 1) = q := (IntWalk.i64_in _ (by have := HN1.out.sz; have := HK.out; have := HJ.out; omega)).trans HQ.out
  have hsz : w.heap.size + 1 < w1.heap.size := H11.out.lt
  have HZ := Lib.hid hsz
  clear hsz
  have K0 : Hid (SB w w.heap.size (w.heap.size + 1) (.bool false) (.slice A n c) (.slice B m d) (.slice C k e) w1) := ⟨HB1.out, H01.out.c4, H11.out.l4⟩
  go_wp2_with fail
  go_region_held3 (SB w w.heap.size (w.heap.size + 1) (.bool false) (.slice A n c) (.slice B m d) (.slice C k e)) (repeat (first | with_reducible assumption | with_reducible exact K0.out | with_reducible exact SB.drewN2 (by with_reducible assumption) | with_reducible refine SB.drew ?_ | with_reducible refine SB.drewN ?_ | with_reducible refine SB.alloc ?_ _ | with_reducible refine SB.later ?_ (by with_reducible assumption) | refine SB.set4 ?_ (by omega) (by omega))) (first
    | (go_at_call 36; refine (HX.out _ (by (repeat (first | with_reducible assumption | with_reducible exact Aft.refl _ | with_reducible exact Aft.drewN2 (by with_reducible assumption) _ | with_reducible refine Aft.drew ?_ | with_reducible refine Aft.drewN ?_ _ | with_reducible refine Aft.alloc ?_ _ | with_reducible refine Aft.below ?_ (by with_reducible assumption))))).mono ?_; rintro x wK ⟨vK, rfl, hoK, hbK⟩; have hoK := Ow.base hoK (Aft.size (w := w1) (by (repeat (first | with_reducible assumption | with_reducible exact Aft.refl _ | with_reducible exact Aft.drewN2 (by with_reducible assumption) _ | with_reducible refine Aft.drew ?_ | with_reducible refine Aft.drewN ?_ _ | with_reducible refine Aft.alloc ?_ _ | with_reducible refine Aft.below ?_ (by with_reducible assumption))))); obtain ⟨AK, cK, rfl, hsK⟩ := Ow.sl hoK; clear hsK)
    | (go_at_call 41; refine (HR.out _ (by (repeat (first | with_reducible assumption | with_reducible exact Aft.refl _ | with_reducible exact Aft.drewN2 (by with_reducible assumption) _ | with_reducible refine Aft.drew ?_ | with_reducible refine Aft.drewN ?_ _ | with_reducible refine Aft.alloc ?_ _ | with_reducible refine Aft.below ?_ (by with_reducible assumption))))).mono ?_; rintro x wR ⟨vR, rfl, hoR, hbR⟩; have hoR := Ow.base hoR (Aft.size (w := w1) (by (repeat (first | with_reducible assumption | with_reducible exact Aft.refl _ | with_reducible exact Aft.drewN2 (by with_reducible assumption) _ | with_reducible refine Aft.drew ?_ | with_reducible refine Aft.drewN ?_ _ | with_reducible refine Aft.alloc ?_ _ | with_reducible refine Aft.below ?_ (by with_reducible assumption))))); obtain ⟨AR, cR, rfl, hsR⟩ := Ow.sl hoR; clear hsR))
  all_goals (
    obtain ⟨f0, f1, f2, f3⟩ := fin4 (a := .bool false) (b := .slice AK X.length cK) (c := .slice AR R.length cR) (d := .slice none 0 0) (H11.out.later (show Aft w1 wK by (repeat (first | with_reducible assumption | with_reducible exact Aft.refl _ | with_reducible exact Aft.drewN2 (by with_reducible assumption) _ | with_reducible refine Aft.drew ?_ | with_reducible refine Aft.drewN ?_ _ | with_reducible refine Aft.alloc ?_ _ | with_reducible refine Aft.below ?_ (by with_reducible assumption)))))
    obtain ⟨g0, g1, g2, g3⟩ := fin4 (a := .bool false) (b := .slice AK X.length cK) (c := .slice AR R.length cR) (d := .slice none 0 0) (H11.out.later (show Aft w1 wR by (repeat (first | with_reducible assumption | with_reducible exact Aft.refl _ | with_reducible exact Aft.drewN2 (by with_reducible assumption) _ | with_reducible refine Aft.drew ?_ | with_reducible refine Aft.drewN ?_ _ | with_reducible refine Aft.alloc ?_ _ | with_reducible refine Aft.below ?_ (by with_reducible assumption)))))
    clear c1 r1 l1
    go_wp2
    exact bodyPost_ret (v := .tuple #[.agg #[.bool false, .slice AK X.length cK, .slice AR R.length cR, .slice none 0 0], .int .i64 0]) (by first | (simp [results, Try.results17, go_sem, f0, f1, f2, f3]; done) | simp [results, Try.results17, go_sem, g0, g1, g2, g3]) rfl ⟨_, rfl, ⟨_, _, _, rfl, (ow_low4 (Ow.later hoK (show Aft _ _ by (repeat (first | with_reducible assumption | with_reducible exact Aft.refl _ | with_reducible exact Aft.drewN2 (by with_reducible assumption) _ | with_reducible refine Aft.drew ?_ | with_reducible refine Aft.drewN ?_ _ | with_reducible refine Aft.alloc ?_ _ | with_reducible refine Aft.below ?_ (by with_reducible assumption))))) HZ.out).base HB1.out.size, (ow_low4 (Ow.later hoR (show Aft _ _ by (repeat (first | with_reducible assumption | with_reducible exact Aft.refl _ | with_reducible exact Aft.drewN2 (by with_reducible assumption) _ | with_reducible refine Aft.drew ?_ | with_reducible refine Aft.drewN ?_ _ | with_reducible refine Aft.alloc ?_ _ | with_reducible refine Aft.below ?_ (by with_reducible assumption))))) HZ.out).base HB1.out.size, ow_none4⟩, set4 (stepB HB1.out (show Aft w1 _ by (repeat (first | with_reducible assumption | with_reducible exact Aft.refl _ | with_reducible exact Aft.drewN2 (by with_reducible assumption) _ | with_reducible refine Aft.drew ?_ | with_reducible refine Aft.drewN ?_ _ | with_reducible refine Aft.alloc ?_ _ | with_reducible refine Aft.below ?_ (by with_reducible assumption))))) (by omega)⟩)
set_option maxRecDepth 100000 in
set_option maxHeartbeats 4000000 in
theorem cut_more (A B C : Option Addr) (n c m d k e : Nat) (xs : List ByteArray) (ks rs : List Int) (kid : Int) (j : Nat) (w : World) (hN : Nd w A B C n c m d k e xs ks rs) (hM : mayB false xs m k = true) (hm : m ≠ 1) (hj : kid = j) (hk : j < m) (hz : 0 < j) : Calls Try.prog 17 #[.agg #[.bool false, .slice A n c, .slice B m d, .slice C k e], .int .i64 kid] w (NdEnd false (xs.take (j - 1) ++ ([] ++ xs.drop (j - 1 + 1))) (ks.take j ++ ([] ++ ks.drop (j + 1))) [] 0 w) := by
  have hb0 : Below w.heap.size w ((w.alloc (.cells #[.bool false, .slice A n c, .slice B m d, .slice C k e] 28)).alloc (.cells #[.bool false, .slice none 0 0, .slice none 0 0, .slice none 0 0] 28)) := ((Below.refl _ _).alloc (Nat.le_refl _) _).alloc (by simp) _
  have H0 := Lib.hid ((Blk.new w #[.bool false, .slice A n c, .slice B m d, .slice C k e] 28).alloc (.cells #[.bool false, .slice none 0 0, .slice none 0 0, .slice none 0 0] 28))
  have H1 := Lib.hid (Blk.new2 (w.alloc (.cells #[.bool false, .slice A n c, .slice B m d, .slice C k e] 28)) #[.bool false, .slice none 0 0, .slice none 0 0, .slice none 0 0] 28 (B := w.heap.size + 1) (by simp))
  have HB0 := Lib.hid hb0
  have HN0 := Lib.hid (hN.later hb0)
  clear hb0 hN
  have HM := Lib.hid hM
  have d1 : ((m : Int) == 1) = false := by rw [beq_eq_false_iff_ne]; omega
  have d2 : decide ((kid : Int) < 0) = false := decide_eq_false (by omega)
  have d3 : decide ((m : Int) ≤ kid) = false := decide_eq_false (by omega)
  have hkn : m = n + 1 := by have h := may_true hM; rw [if_neg (by decide)] at h; have := HN0.out.K.len; omega
  obtain ⟨q, hq⟩ : ∃ q, kid - 1 = q := ⟨_, rfl⟩
  have d4 : ¬ q < 0 := by omega
  have d5 : decide (q < 0) = false := decide_eq_false d4
  have d6 : 0 ≤ q := by omega
  have HQ := Lib.hid hq
  clear hq
  have HKN := Lib.hid hkn
  have HZ0 := Lib.hid hz
  have HK := Lib.hid hk
  have HJ := Lib.hid hj
  have HM1 := Lib.hid hm
  clear hM hm hkn hk hj hz
  generalize hX : xs.take (j - 1) ++ ([] ++ xs.drop (j - 1 + 1)) = X
  generalize hR : ks.take j ++ ([] ++ ks.drop (j + 1)) = R
  have HXE := Lib.hid hX
  have HRE := Lib.hid hR
  clear hX hR
  go_enter Try.func17, Try.ntmps17
  go_wp2_with fail
  refine (inner_any false A B C n c m d k e xs _ HN0.out.K.rd (by have := HN0.out.sz; omega) (by have := HN0.out.sz; omega) (by have := HN0.out.sz; omega)).mono ?_
  rintro x w1 ⟨rfl, hb⟩
  have HB1 := Lib.hid (stepB HB0.out hb)
  have H01 := Lib.hid ((H0).out.later hb)
  have H11 := Lib.hid ((H1).out.later hb)
  have HN1 := Lib.hid (HN0.out.later hb)
  have c1 := H01.out.c4
  have r1 := H11.out.c4
  have l1 := H11.out.l4.2.2.2.2
  clear hb HB0 H0 H1 HN0
  rw [HM.out, show (!false && true) = true from rfl]
  have HX : Hid (∀ W, Aft w1 W → Calls Try.prog 36 #[.slice A n c, .int .i64 (if q < 0 then 0 else q), .int .i64 1, .slice none 0 0] W (MadeEnd sv 9 X W)) := fun W hW => by
    have := ssplice A none n c 0 0 (j - 1) 1 (if q < 0 then 0 else q) 1 xs [] W (by have := HZ0.out; have := HJ.out; have := HQ.out; first | omega | (rw [if_neg (by omega)]; omega)) rfl (HN1.out.K.later hW) (Sl.empty W) (by have := HKN.out; have := HK.out; have := HM1.out; omega) (by have := HN1.out.sz; omega) (by omega)
    rw [HXE.out] at this; exact this
  have HR : Hid (∀ W, Aft w1 W → Calls Try.prog 41 #[.slice B m d, .int .i64 kid, .int .i64 1, .slice none 0 0] W (MadeEnd iv 3 R W)) := fun W hW => by
    have := isplice B none m d 0 0 j 1 kid 1 ks [] W HJ.out rfl (HN1.out.D.later hW) (Sl.empty W) (by have := HKN.out; have := HK.out; omega) (by have := HN1.out.sz; omega) (by omega)
    rw [HRE.out] at this; exact this
  have hw : IntKind.i64.wrap (kid - 1) = q := (IntWalk.i64_in _ (by have := HN1.out.sz; have := HK.out; have := HJ.out; omega)).trans HQ.out
  have hsz : w.heap.size + 1 < w1.heap.size := H11.out.lt
  have HZ := Lib.hid hsz
  clear hsz
  have K0 : Hid (SB w w.heap.size (w.heap.size + 1) (.bool false) (.slice A n c) (.slice B m d) (.slice C k e) w1) := ⟨HB1.out, H01.out.c4, H11.out.l4⟩
  go_wp2_with fail
  go_region_held3 (SB w w.heap.size (w.heap.size + 1) (.bool false) (.slice A n c) (.slice B m d) (.slice C k e)) (repeat (first | with_reducible assumption | with_reducible exact K0.out | with_reducible exact SB.drewN2 (by with_reducible assumption) | with_reducible refine SB.drew ?_ | with_reducible refine SB.drewN ?_ | with_reducible refine SB.alloc ?_ _ | with_reducible refine SB.later ?_ (by with_reducible assumption) | refine SB.set4 ?_ (by omega) (by omega))) (first
    | (go_at_call 36; refine (HX.out _ (by (repeat (first | with_reducible assumption | with_reducible exact Aft.refl _ | with_reducible exact Aft.drewN2 (by with_reducible assumption) _ | with_reducible refine Aft.drew ?_ | with_reducible refine Aft.drewN ?_ _ | with_reducible refine Aft.alloc ?_ _ | with_reducible refine Aft.below ?_ (by with_reducible assumption))))).mono ?_; rintro x wK ⟨vK, rfl, hoK, hbK⟩; have hoK := Ow.base hoK (Aft.size (w := w1) (by (repeat (first | with_reducible assumption | with_reducible exact Aft.refl _ | with_reducible exact Aft.drewN2 (by with_reducible assumption) _ | with_reducible refine Aft.drew ?_ | with_reducible refine Aft.drewN ?_ _ | with_reducible refine Aft.alloc ?_ _ | with_reducible refine Aft.below ?_ (by with_reducible assumption))))); obtain ⟨AK, cK, rfl, hsK⟩ := Ow.sl hoK; clear hsK)
    | (go_at_call 41; refine (HR.out _ (by (repeat (first | with_reducible assumption | with_reducible exact Aft.refl _ | with_reducible exact Aft.drewN2 (by with_reducible assumption) _ | with_reducible refine Aft.drew ?_ | with_reducible refine Aft.drewN ?_ _ | with_reducible refine Aft.alloc ?_ _ | with_reducible refine Aft.below ?_ (by with_reducible assumption))))).mono ?_; rintro x wR ⟨vR, rfl, hoR, hbR⟩; have hoR := Ow.base hoR (Aft.size (w := w1) (by (repeat (first | with_reducible assumption | with_reducible exact Aft.refl _ | with_reducible exact Aft.drewN2 (by with_reducible assumption) _ | with_reducible refine Aft.drew ?_ | with_reducible refine Aft.drewN ?_ _ | with_reducible refine Aft.alloc ?_ _ | with_reducible refine Aft.below ?_ (by with_reducible assumption))))); obtain ⟨AR, cR, rfl, hsR⟩ := Ow.sl hoR; clear hsR))
  all_goals (
    obtain ⟨f0, f1, f2, f3⟩ := fin4 (a := .bool false) (b := .slice AK X.length cK) (c := .slice AR R.length cR) (d := .slice none 0 0) (H11.out.later (show Aft w1 wK by (repeat (first | with_reducible assumption | with_reducible exact Aft.refl _ | with_reducible exact Aft.drewN2 (by with_reducible assumption) _ | with_reducible refine Aft.drew ?_ | with_reducible refine Aft.drewN ?_ _ | with_reducible refine Aft.alloc ?_ _ | with_reducible refine Aft.below ?_ (by with_reducible assumption)))))
    obtain ⟨g0, g1, g2, g3⟩ := fin4 (a := .bool false) (b := .slice AK X.length cK) (c := .slice AR R.length cR) (d := .slice none 0 0) (H11.out.later (show Aft w1 wR by (repeat (first | with_reducible assumption | with_reducible exact Aft.refl _ | with_reducible exact Aft.drewN2 (by with_reducible assumption) _ | with_reducible refine Aft.drew ?_ | with_reducible refine Aft.drewN ?_ _ | with_reducible refine Aft.alloc ?_ _ | with_reducible refine Aft.below ?_ (by with_reducible assumption)))))
    clear c1 r1 l1
    go_wp2
    exact bodyPost_ret (v := .tuple #[.agg #[.bool false, .slice AK X.length cK, .slice AR R.length cR, .slice none 0 0], .int .i64 0]) (by first | (simp [results, Try.results17, go_sem, f0, f1, f2, f3]; done) | simp [results, Try.results17, go_sem, g0, g1, g2, g3]) rfl ⟨_, rfl, ⟨_, _, _, rfl, (ow_low4 (Ow.later hoK (show Aft _ _ by (repeat (first | with_reducible assumption | with_reducible exact Aft.refl _ | with_reducible exact Aft.drewN2 (by with_reducible assumption) _ | with_reducible refine Aft.drew ?_ | with_reducible refine Aft.drewN ?_ _ | with_reducible refine Aft.alloc ?_ _ | with_reducible refine Aft.below ?_ (by with_reducible assumption))))) HZ.out).base HB1.out.size, (ow_low4 (Ow.later hoR (show Aft _ _ by (repeat (first | with_reducible assumption | with_reducible exact Aft.refl _ | with_reducible exact Aft.drewN2 (by with_reducible assumption) _ | with_reducible refine Aft.drew ?_ | with_reducible refine Aft.drewN ?_ _ | with_reducible refine Aft.alloc ?_ _ | with_reducible refine Aft.below ?_ (by with_reducible assumption))))) HZ.out).base HB1.out.size, ow_none4⟩, set4 (stepB HB1.out (show Aft w1 _ by (repeat (first | with_reducible assumption | with_reducible exact Aft.refl _ | with_reducible exact Aft.drewN2 (by with_reducible assumption) _ | with_reducible refine Aft.drew ?_ | with_reducible refine Aft.drewN ?_ _ | with_reducible refine Aft.alloc ?_ _ | with_reducible refine Aft.below ?_ (by with_reducible assumption))))) (by omega)⟩)
end Go.Proofs.Ytiojjpmkiljngaa
