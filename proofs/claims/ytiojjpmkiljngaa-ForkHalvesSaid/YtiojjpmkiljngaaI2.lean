/- Nodes: Take. -/
import Derived.Test.YtiojjpmkiljngaaI0
namespace Go.Proofs.Ytiojjpmkiljngaa
open Go.ChangeShapes Go.WideShapes Go.ChangeAt Go.RowKit
set_option linter.unusedVariables false
set_option linter.unusedSimpArgs false
set_option maxRecDepth 100000 in
set_option maxHeartbeats 4000000 in
theorem take_inner (A B C : Option Addr) (n c m d k e : Nat) (xs : List ByteArray) (ks rs : List Int) (key : ByteArray) (w : World) (hN : Nd w A B C n c m d k e xs ks rs) : Calls Try.prog 14 #[.agg #[.bool false, .slice A n c, .slice B m d, .slice C k e], .string key] w (NdEnd false [] [] [] 4 w) := by
  have hb0 : Below w.heap.size w ((w.alloc (.cells #[.bool false, .slice A n c, .slice B m d, .slice C k e] 28)).alloc (.cells #[.bool false, .slice none 0 0, .slice none 0 0, .slice none 0 0] 28)) := ((Below.refl _ _).alloc (Nat.le_refl _) _).alloc (by simp) _
  have H0 := Lib.hid ((Blk.new w #[.bool false, .slice A n c, .slice B m d, .slice C k e] 28).alloc (.cells #[.bool false, .slice none 0 0, .slice none 0 0, .slice none 0 0] 28))
  have H1 := Lib.hid (Blk.new2 (w.alloc (.cells #[.bool false, .slice A n c, .slice B m d, .slice C k e] 28)) #[.bool false, .slice none 0 0, .slice none 0 0, .slice none 0 0] 28 (B := w.heap.size + 1) (by simp))
  have HB0 := Lib.hid hb0
  have HN0 := Lib.hid (hN.later hb0)
  clear hb0 hN
  go_enter Try.func14, Try.ntmps14
  go_wp2
  exact bodyPost_ret (v := .tuple #[.agg #[.bool false, .slice none 0 0, .slice none 0 0, .slice none 0 0], .int .i64 4]) (by simp [results, Try.results14, go_sem, *]) rfl (nd_zero (by first | exact HB0.out | exact set4 HB0.out (by omega)))
set_option maxRecDepth 100000 in
set_option maxHeartbeats 4000000 in
theorem take_form (A B C : Option Addr) (n c m d k e : Nat) (xs : List ByteArray) (ks rs : List Int) (key : ByteArray) (w : World) (hN : Nd w A B C n c m d k e xs ks rs) (hM : mayB true xs m k = false) : Calls Try.prog 14 #[.agg #[.bool true, .slice A n c, .slice B m d, .slice C k e], .string key] w (NdEnd false [] [] [] 4 w) := by
  have hb0 : Below w.heap.size w ((w.alloc (.cells #[.bool true, .slice A n c, .slice B m d, .slice C k e] 28)).alloc (.cells #[.bool false, .slice none 0 0, .slice none 0 0, .slice none 0 0] 28)) := ((Below.refl _ _).alloc (Nat.le_refl _) _).alloc (by simp) _
  have H0 := Lib.hid ((Blk.new w #[.bool true, .slice A n c, .slice B m d, .slice C k e] 28).alloc (.cells #[.bool false, .slice none 0 0, .slice none 0 0, .slice none 0 0] 28))
  have H1 := Lib.hid (Blk.new2 (w.alloc (.cells #[.bool true, .slice A n c, .slice B m d, .slice C k e] 28)) #[.bool false, .slice none 0 0, .slice none 0 0, .slice none 0 0] 28 (B := w.heap.size + 1) (by simp))
  have HB0 := Lib.hid hb0
  have HN0 := Lib.hid (hN.later hb0)
  clear hb0 hN
  have HM := Lib.hid hM
  clear hM
  go_enter Try.func14, Try.ntmps14
  go_wp2_with fail
  refine (May_any true A B C n c m d k e xs _ HN0.out.K.rd (by have := HN0.out.sz; omega) (by have := HN0.out.sz; omega) (by have := HN0.out.sz; omega)).mono ?_
  rintro x w1 ⟨rfl, hb⟩
  have HB1 := Lib.hid (stepB HB0.out hb)
  have H01 := Lib.hid ((H0).out.later hb)
  have H11 := Lib.hid ((H1).out.later hb)
  have HN1 := Lib.hid (HN0.out.later hb)
  have c1 := H01.out.c4
  have r1 := H11.out.c4
  have l1 := H11.out.l4.2.2.2.2
  clear hb HB0 H0 H1 HN0
  rw [HM.out]
  go_wp2
  exact bodyPost_ret (v := .tuple #[.agg #[.bool false, .slice none 0 0, .slice none 0 0, .slice none 0 0], .int .i64 4]) (by simp [results, Try.results14, go_sem, *]) rfl (nd_zero (by first | exact HB1.out | exact set4 HB1.out (by omega)))
set_option maxRecDepth 100000 in
set_option maxHeartbeats 4000000 in
theorem take_none (A B C : Option Addr) (n c m d k e : Nat) (xs : List ByteArray) (ks rs : List Int) (key : ByteArray) (w : World) (hN : Nd w A B C n c m d k e xs ks rs) (hM : mayB true xs m k = true) (hH : hasB xs key = false) : Calls Try.prog 14 #[.agg #[.bool true, .slice A n c, .slice B m d, .slice C k e], .string key] w (NdEnd false [] [] [] 5 w) := by
  have hb0 : Below w.heap.size w ((w.alloc (.cells #[.bool true, .slice A n c, .slice B m d, .slice C k e] 28)).alloc (.cells #[.bool false, .slice none 0 0, .slice none 0 0, .slice none 0 0] 28)) := ((Below.refl _ _).alloc (Nat.le_refl _) _).alloc (by simp) _
  have H0 := Lib.hid ((Blk.new w #[.bool true, .slice A n c, .slice B m d, .slice C k e] 28).alloc (.cells #[.bool false, .slice none 0 0, .slice none 0 0, .slice none 0 0] 28))
  have H1 := Lib.hid (Blk.new2 (w.alloc (.cells #[.bool true, .slice A n c, .slice B m d, .slice C k e] 28)) #[.bool false, .slice none 0 0, .slice none 0 0, .slice none 0 0] 28 (B := w.heap.size + 1) (by simp))
  have HB0 := Lib.hid hb0
  have HN0 := Lib.hid (hN.later hb0)
  clear hb0 hN
  have HM := Lib.hid hM
  have HH := Lib.hid hH
  clear hM hH
  go_enter Try.func14, Try.ntmps14
  go_wp2_with fail
  refine (May_any true A B C n c m d k e xs _ HN0.out.K.rd (by have := HN0.out.sz; omega) (by have := HN0.out.sz; omega) (by have := HN0.out.sz; omega)).mono ?_
  rintro x w1 ⟨rfl, hb⟩
  have HB1 := Lib.hid (stepB HB0.out hb)
  have H01 := Lib.hid ((H0).out.later hb)
  have H11 := Lib.hid ((H1).out.later hb)
  have HN1 := Lib.hid (HN0.out.later hb)
  have c1 := H01.out.c4
  have r1 := H11.out.c4
  have l1 := H11.out.l4.2.2.2.2
  clear hb HB0 H0 H1 HN0
  rw [HM.out]
  go_wp2_with fail
  refine (Place_any true A B C n c m d k e xs key _ HN1.out.K.rd (by have := HN1.out.sz; omega) (by have := HN1.out.sz; omega) (by have := HN1.out.sz; omega)).mono ?_
  rintro x w2 ⟨rfl, hb⟩
  have HB2 := Lib.hid (stepB HB1.out hb)
  have H02 := Lib.hid ((H01).out.later hb)
  have H12 := Lib.hid ((H11).out.later hb)
  have HN2 := Lib.hid (HN1.out.later hb)
  have c2 := H02.out.c4
  have r2 := H12.out.c4
  have l2 := H12.out.l4.2.2.2.2
  clear hb HB1 H01 H11 HN1 c1 r1 l1
  rw [HM.out, HH.out, if_pos rfl]
  go_wp2
  exact bodyPost_ret (v := .tuple #[.agg #[.bool false, .slice none 0 0, .slice none 0 0, .slice none 0 0], .int .i64 5]) (by simp [results, Try.results14, go_sem, *]) rfl (nd_zero (by first | exact HB2.out | exact set4 HB2.out (by omega)))
set_option maxRecDepth 100000 in
set_option maxHeartbeats 4000000 in
theorem take_ok (A B C : Option Addr) (n c m d k e : Nat) (xs : List ByteArray) (ks rs : List Int) (key : ByteArray) (w : World) (hN : Nd w A B C n c m d k e xs ks rs) (hM : mayB true xs m k = true) (hH : hasB xs key = true) : Calls Try.prog 14 #[.agg #[.bool true, .slice A n c, .slice B m d, .slice C k e], .string key] w (NdEnd true (xs.take (lowN xs key) ++ ([] ++ xs.drop (lowN xs key + 1))) [] (rs.take (lowN xs key) ++ ([] ++ rs.drop (lowN xs key + 1))) 0 w) := by
  have hb0 : Below w.heap.size w ((w.alloc (.cells #[.bool true, .slice A n c, .slice B m d, .slice C k e] 28)).alloc (.cells #[.bool false, .slice none 0 0, .slice none 0 0, .slice none 0 0] 28)) := ((Below.refl _ _).alloc (Nat.le_refl _) _).alloc (by simp) _
  have H0 := Lib.hid ((Blk.new w #[.bool true, .slice A n c, .slice B m d, .slice C k e] 28).alloc (.cells #[.bool false, .slice none 0 0, .slice none 0 0, .slice none 0 0] 28))
  have H1 := Lib.hid (Blk.new2 (w.alloc (.cells #[.bool true, .slice A n c, .slice B m d, .slice C k e] 28)) #[.bool false, .slice none 0 0, .slice none 0 0, .slice none 0 0] 28 (B := w.heap.size + 1) (by simp))
  have HB0 := Lib.hid hb0
  have HN0 := Lib.hid (hN.later hb0)
  clear hb0 hN
  have HM := Lib.hid hM
  have HH := Lib.hid hH
  have hl := has_lt hH
  clear hM hH
  generalize hX : xs.take (lowN xs key) ++ ([] ++ xs.drop (lowN xs key + 1)) = X
  generalize hR : rs.take (lowN xs key) ++ ([] ++ rs.drop (lowN xs key + 1)) = R
  have HXE := Lib.hid hX
  have HRE := Lib.hid hR
  clear hX hR
  go_enter Try.func14, Try.ntmps14
  go_wp2_with fail
  refine (May_any true A B C n c m d k e xs _ HN0.out.K.rd (by have := HN0.out.sz; omega) (by have := HN0.out.sz; omega) (by have := HN0.out.sz; omega)).mono ?_
  rintro x w1 ⟨rfl, hb⟩
  have HB1 := Lib.hid (stepB HB0.out hb)
  have H01 := Lib.hid ((H0).out.later hb)
  have H11 := Lib.hid ((H1).out.later hb)
  have HN1 := Lib.hid (HN0.out.later hb)
  have c1 := H01.out.c4
  have r1 := H11.out.c4
  have l1 := H11.out.l4.2.2.2.2
  clear hb HB0 H0 H1 HN0
  rw [HM.out]
  go_wp2_with fail
  refine (Place_any true A B C n c m d k e xs key _ HN1.out.K.rd (by have := HN1.out.sz; omega) (by have := HN1.out.sz; omega) (by have := HN1.out.sz; omega)).mono ?_
  rintro x w2 ⟨rfl, hb⟩
  have HB2 := Lib.hid (stepB HB1.out hb)
  have H02 := Lib.hid ((H01).out.later hb)
  have H12 := Lib.hid ((H11).out.later hb)
  have HN2 := Lib.hid (HN1.out.later hb)
  have c2 := H02.out.c4
  have r2 := H12.out.c4
  have l2 := H12.out.l4.2.2.2.2
  clear hb HB1 H01 H11 HN1 c1 r1 l1
  rw [HM.out, HH.out, if_pos rfl]
  rw [HN2.out.K.len] at hl
  generalize lowN xs key = l at *
  have hkn : k = n := by have h := may_true HM.out; rw [if_pos rfl] at h; have := HN2.out.K.len; omega
  have HX : Hid (∀ W, Aft w2 W → Calls Try.prog 36 #[.slice A n c, .int .i64 l, .int .i64 1, .slice none 0 0] W (MadeEnd sv 9 X W)) := fun W hW => by
    have := ssplice A none n c 0 0 l 1 l 1 xs [] W rfl rfl (HN2.out.K.later hW) (Sl.empty W) (by omega) (by have := HN2.out.sz; omega) (by omega)
    rw [HXE.out] at this; exact this
  have HR : Hid (∀ W, Aft w2 W → Calls Try.prog 37 #[.slice C k e, .int .i64 l, .int .i64 1, .slice none 0 0] W (MadeEnd hv 24 R W)) := fun W hW => by
    have := hsplice C none k e 0 0 l 1 l 1 rs [] W rfl rfl (HN2.out.R.later hW) (Sl.empty W) (by omega) (by have := HN2.out.sz; omega) (by omega)
    rw [HRE.out] at this; exact this
  clear hl hkn
  have hsz : w.heap.size + 1 < w2.heap.size := H12.out.lt
  have HZ := Lib.hid hsz
  clear hsz
  have K0 : Hid (SB w w.heap.size (w.heap.size + 1) (.bool true) (.slice A n c) (.slice B m d) (.slice C k e) w2) := ⟨HB2.out, H02.out.c4, H12.out.l4⟩
  go_wp2_with fail
  go_region_held3 (SB w w.heap.size (w.heap.size + 1) (.bool true) (.slice A n c) (.slice B m d) (.slice C k e)) (repeat (first | with_reducible assumption | with_reducible exact K0.out | with_reducible exact SB.drewN2 (by with_reducible assumption) | with_reducible refine SB.drew ?_ | with_reducible refine SB.drewN ?_ | with_reducible refine SB.alloc ?_ _ | with_reducible refine SB.later ?_ (by with_reducible assumption) | refine SB.set4 ?_ (by omega) (by omega))) (first
    | (go_at_call 36; refine (HX.out _ (by (repeat (first | with_reducible assumption | with_reducible exact Aft.refl _ | with_reducible exact Aft.drewN2 (by with_reducible assumption) _ | with_reducible refine Aft.drew ?_ | with_reducible refine Aft.drewN ?_ _ | with_reducible refine Aft.alloc ?_ _ | with_reducible refine Aft.below ?_ (by with_reducible assumption))))).mono ?_; rintro x wK ⟨vK, rfl, hoK, hbK⟩; have hoK := Ow.base hoK (Aft.size (w := w2) (by (repeat (first | with_reducible assumption | with_reducible exact Aft.refl _ | with_reducible exact Aft.drewN2 (by with_reducible assumption) _ | with_reducible refine Aft.drew ?_ | with_reducible refine Aft.drewN ?_ _ | with_reducible refine Aft.alloc ?_ _ | with_reducible refine Aft.below ?_ (by with_reducible assumption))))); obtain ⟨AK, cK, rfl, hsK⟩ := Ow.sl hoK; clear hsK)
    | (go_at_call 37; refine (HR.out _ (by (repeat (first | with_reducible assumption | with_reducible exact Aft.refl _ | with_reducible exact Aft.drewN2 (by with_reducible assumption) _ | with_reducible refine Aft.drew ?_ | with_reducible refine Aft.drewN ?_ _ | with_reducible refine Aft.alloc ?_ _ | with_reducible refine Aft.below ?_ (by with_reducible assumption))))).mono ?_; rintro x wR ⟨vR, rfl, hoR, hbR⟩; have hoR := Ow.base hoR (Aft.size (w := w2) (by (repeat (first | with_reducible assumption | with_reducible exact Aft.refl _ | with_reducible exact Aft.drewN2 (by with_reducible assumption) _ | with_reducible refine Aft.drew ?_ | with_reducible refine Aft.drewN ?_ _ | with_reducible refine Aft.alloc ?_ _ | with_reducible refine Aft.below ?_ (by with_reducible assumption))))); obtain ⟨AR, cR, rfl, hsR⟩ := Ow.sl hoR; clear hsR))
  all_goals (
    obtain ⟨f0, f1, f2, f3⟩ := fin4 (a := .bool true) (b := .slice AK X.length cK) (c := .slice none 0 0) (d := .slice AR R.length cR) (H12.out.later (show Aft w2 wK by (repeat (first | with_reducible assumption | with_reducible exact Aft.refl _ | with_reducible exact Aft.drewN2 (by with_reducible assumption) _ | with_reducible refine Aft.drew ?_ | with_reducible refine Aft.drewN ?_ _ | with_reducible refine Aft.alloc ?_ _ | with_reducible refine Aft.below ?_ (by with_reducible assumption)))))
    obtain ⟨g0, g1, g2, g3⟩ := fin4 (a := .bool true) (b := .slice AK X.length cK) (c := .slice none 0 0) (d := .slice AR R.length cR) (H12.out.later (show Aft w2 wR by (repeat (first | with_reducible assumption | with_reducible exact Aft.refl _ | with_reducible exact Aft.drewN2 (by with_reducible assumption) _ | with_reducible refine Aft.drew ?_ | with_reducible refine Aft.drewN ?_ _ | with_reducible refine Aft.alloc ?_ _ | with_reducible refine Aft.below ?_ (by with_reducible assumption)))))
    clear c2 r2 l2
    go_wp2
    exact bodyPost_ret (v := .tuple #[.agg #[.bool true, .slice AK X.length cK, .slice none 0 0, .slice AR R.length cR], .int .i64 0]) (by first | (simp [results, Try.results14, go_sem, f0, f1, f2, f3]; done) | simp [results, Try.results14, go_sem, g0, g1, g2, g3]) rfl ⟨_, rfl, ⟨_, _, _, rfl, (ow_low4 (Ow.later hoK (show Aft _ _ by (repeat (first | with_reducible assumption | with_reducible exact Aft.refl _ | with_reducible exact Aft.drewN2 (by with_reducible assumption) _ | with_reducible refine Aft.drew ?_ | with_reducible refine Aft.drewN ?_ _ | with_reducible refine Aft.alloc ?_ _ | with_reducible refine Aft.below ?_ (by with_reducible assumption))))) HZ.out).base HB2.out.size, ow_none4, (ow_low4 (Ow.later hoR (show Aft _ _ by (repeat (first | with_reducible assumption | with_reducible exact Aft.refl _ | with_reducible exact Aft.drewN2 (by with_reducible assumption) _ | with_reducible refine Aft.drew ?_ | with_reducible refine Aft.drewN ?_ _ | with_reducible refine Aft.alloc ?_ _ | with_reducible refine Aft.below ?_ (by with_reducible assumption))))) HZ.out).base HB2.out.size⟩, set4 (stepB HB2.out (show Aft w2 _ by (repeat (first | with_reducible assumption | with_reducible exact Aft.refl _ | with_reducible exact Aft.drewN2 (by with_reducible assumption) _ | with_reducible refine Aft.drew ?_ | with_reducible refine Aft.drewN ?_ _ | with_reducible refine Aft.alloc ?_ _ | with_reducible refine Aft.below ?_ (by with_reducible assumption))))) (by omega)⟩)
end Go.Proofs.Ytiojjpmkiljngaa
