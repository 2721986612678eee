/- A copy of a node. -/
import Derived.Test.YtiojjpmkiljngaaU
namespace Go.Proofs.Ytiojjpmkiljngaa
open Go.ChangeShapes Go.WideShapes Go.ChangeAt Go.RowKit
set_option linter.unusedVariables false
set_option linter.unusedSimpArgs false
set_option maxRecDepth 100000 in
set_option maxHeartbeats 4000000 in
theorem copy_any (lf : Bool) (A B C : Option Addr) (n c m d k e : Nat) (xs : List ByteArray) (ks rs : List Int) (w : World) (hN : Nd w A B C n c m d k e xs ks rs) : Calls Try.prog 30 #[.agg #[.bool lf, .slice A n c, .slice B m d, .slice C k e]] w (OwnEnd lf xs ks rs w) := by
  have hb0 : Below w.heap.size w ((w.alloc (.cells #[.bool lf, .slice A n c, .slice B m d, .slice C k e] 28)).alloc (.cells #[.bool false, .slice none 0 0, .slice none 0 0, .slice none 0 0] 28)) := ((Below.refl _ _).alloc (Nat.le_refl _) _).alloc (by simp) _
  have H0 := Lib.hid ((Blk.new w #[.bool lf, .slice A n c, .slice B m d, .slice C k e] 28).alloc (.cells #[.bool false, .slice none 0 0, .slice none 0 0, .slice none 0 0] 28))
  have H1 := Lib.hid (Blk.new2 (w.alloc (.cells #[.bool lf, .slice A n c, .slice B m d, .slice C k e] 28)) #[.bool false, .slice none 0 0, .slice none 0 0, .slice none 0 0] 28 (B := w.heap.size + 1) (by simp))
  have HB0 := Lib.hid hb0
  have HN0 := Lib.hid (hN.later hb0)
  clear hb0
  have hz := HN0.out.sz
  go_enter Try.func30, Try.ntmps30
  go_wp2_with fail
  generalize (w.alloc (.cells #[.bool lf, .slice A n c, .slice B m d, .slice C k e] 28)).alloc (.cells #[.bool false, .slice none 0 0, .slice none 0 0, .slice none 0 0] 28) = w0 at *
  have hsz0 : w.heap.size + 1 < w0.heap.size := H1.out.lt
  have HX : Hid (∀ W, Aft w0 W → Calls Try.prog 38 #[.slice A n c] W (MadeEnd sv 9 xs W)) := fun W hW => sClone A n c xs W (HN0.out.K.later hW) (by omega)
  have HD : Hid (∀ W, Aft w0 W → Calls Try.prog 40 #[.slice B m d] W (MadeEnd iv 3 ks W)) := fun W hW => iClone B m d ks W (HN0.out.D.later hW) (by omega)
  have HR : Hid (∀ W, Aft w0 W → Calls Try.prog 39 #[.slice C k e] W (MadeEnd hv 24 rs W)) := fun W hW => hClone C k e rs W (HN0.out.R.later hW) (by omega)
  have K0 : Hid (SB w w.heap.size (w.heap.size + 1) (.bool lf) (.slice A n c) (.slice B m d) (.slice C k e) w0) := ⟨HB0.out, H0.out.c4, H1.out.l4⟩
  go_region_held3 (SB w w.heap.size (w.heap.size + 1) (.bool lf) (.slice A n c) (.slice B m d) (.slice C k e)) (repeat (first | with_reducible assumption | with_reducible exact K0.out | with_reducible exact SB.drewN2 (by with_reducible assumption) | with_reducible refine SB.drew ?_ | with_reducible refine SB.drewN ?_ | with_reducible refine SB.alloc ?_ _ | with_reducible refine SB.later ?_ (by with_reducible assumption) | refine SB.set4 ?_ (by omega) (by omega))) (first
    | (go_at_call 38; refine (HX.out _ (by (repeat (first | with_reducible assumption | with_reducible exact Aft.refl _ | with_reducible exact Aft.drewN2 (by with_reducible assumption) _ | with_reducible refine Aft.drew ?_ | with_reducible refine Aft.drewN ?_ _ | with_reducible refine Aft.alloc ?_ _ | with_reducible refine Aft.below ?_ (by with_reducible assumption))))).mono ?_; rintro x wK ⟨vK, rfl, hoK, hbK⟩; have hoK := Ow.base hoK (Aft.size (w := w0) (by (repeat (first | with_reducible assumption | with_reducible exact Aft.refl _ | with_reducible exact Aft.drewN2 (by with_reducible assumption) _ | with_reducible refine Aft.drew ?_ | with_reducible refine Aft.drewN ?_ _ | with_reducible refine Aft.alloc ?_ _ | with_reducible refine Aft.below ?_ (by with_reducible assumption))))); obtain ⟨AK, cK, rfl, hsK⟩ := Ow.sl hoK; clear hsK)
    | (go_at_call 40; refine (HD.out _ (by (repeat (first | with_reducible assumption | with_reducible exact Aft.refl _ | with_reducible exact Aft.drewN2 (by with_reducible assumption) _ | with_reducible refine Aft.drew ?_ | with_reducible refine Aft.drewN ?_ _ | with_reducible refine Aft.alloc ?_ _ | with_reducible refine Aft.below ?_ (by with_reducible assumption))))).mono ?_; rintro x wD ⟨vD, rfl, hoD, hbD⟩; have hoD := Ow.base hoD (Aft.size (w := w0) (by (repeat (first | with_reducible assumption | with_reducible exact Aft.refl _ | with_reducible exact Aft.drewN2 (by with_reducible assumption) _ | with_reducible refine Aft.drew ?_ | with_reducible refine Aft.drewN ?_ _ | with_reducible refine Aft.alloc ?_ _ | with_reducible refine Aft.below ?_ (by with_reducible assumption))))); obtain ⟨AD, cD, rfl, hsD⟩ := Ow.sl hoD; clear hsD)
    | (go_at_call 39; refine (HR.out _ (by (repeat (first | with_reducible assumption | with_reducible exact Aft.refl _ | with_reducible exact Aft.drewN2 (by with_reducible assumption) _ | with_reducible refine Aft.drew ?_ | with_reducible refine Aft.drewN ?_ _ | with_reducible refine Aft.alloc ?_ _ | with_reducible refine Aft.below ?_ (by with_reducible assumption))))).mono ?_; rintro x wR ⟨vR, rfl, hoR, hbR⟩; have hoR := Ow.base hoR (Aft.size (w := w0) (by (repeat (first | with_reducible assumption | with_reducible exact Aft.refl _ | with_reducible exact Aft.drewN2 (by with_reducible assumption) _ | with_reducible refine Aft.drew ?_ | with_reducible refine Aft.drewN ?_ _ | with_reducible refine Aft.alloc ?_ _ | with_reducible refine Aft.below ?_ (by with_reducible assumption))))); obtain ⟨AR, cR, rfl, hsR⟩ := Ow.sl hoR; clear hsR))
  all_goals (
    rename_i hq0
    clear hq0
    obtain ⟨f0, f1, f2, f3⟩ := fin4 (a := .bool lf) (b := .slice AK xs.length cK) (c := .slice AD ks.length cD) (d := .slice AR rs.length cR) (H1.out.later (show Aft w0 wR by (repeat (first | with_reducible assumption | with_reducible exact Aft.refl _ | with_reducible exact Aft.drewN2 (by with_reducible assumption) _ | with_reducible refine Aft.drew ?_ | with_reducible refine Aft.drewN ?_ _ | with_reducible refine Aft.alloc ?_ _ | with_reducible refine Aft.below ?_ (by with_reducible assumption)))))
    have hO1 : Ow sv wR w0.heap.size 9 (.slice AK xs.length cK) xs.length xs := Ow.later hoK (show Aft _ _ by (repeat (first | with_reducible assumption | with_reducible exact Aft.refl _ | with_reducible exact Aft.drewN2 (by with_reducible assumption) _ | with_reducible refine Aft.drew ?_ | with_reducible refine Aft.drewN ?_ _ | with_reducible refine Aft.alloc ?_ _ | with_reducible refine Aft.below ?_ (by with_reducible assumption))))
    have hO2 : Ow iv wR w0.heap.size 3 (.slice AD ks.length cD) ks.length ks := Ow.later hoD (show Aft _ _ by (repeat (first | with_reducible assumption | with_reducible exact Aft.refl _ | with_reducible exact Aft.drewN2 (by with_reducible assumption) _ | with_reducible refine Aft.drew ?_ | with_reducible refine Aft.drewN ?_ _ | with_reducible refine Aft.alloc ?_ _ | with_reducible refine Aft.below ?_ (by with_reducible assumption))))
    have hbb : Below w0.heap.size w0 wR := by show Aft _ _; (repeat (first | with_reducible assumption | with_reducible exact Aft.refl _ | with_reducible exact Aft.drewN2 (by with_reducible assumption) _ | with_reducible refine Aft.drew ?_ | with_reducible refine Aft.drewN ?_ _ | with_reducible refine Aft.alloc ?_ _ | with_reducible refine Aft.below ?_ (by with_reducible assumption)))
    have HO1 := Lib.hid hO1
    have HO2 := Lib.hid hO2
    have HO3 := Lib.hid hoR
    have HBB := Lib.hid hbb
    clear hO1 hO2 hoR hbb hbK hbD hbR
    go_wp2
    exact bodyPost_ret (v := .agg #[.bool lf, .slice AK xs.length cK, .slice AD ks.length cD, .slice AR rs.length cR]) (by simp [results, Try.results30, go_sem, f0, f1, f2, f3]) rfl ⟨_, rfl, ⟨_, _, _, rfl, (ow_low4 HO1.out hsz0).base (by omega), (ow_low4 HO2.out hsz0).base (by omega), (ow_low4 HO3.out hsz0).base (by omega)⟩, set4 (stepB HB0.out HBB.out) (by omega)⟩)
end Go.Proofs.Ytiojjpmkiljngaa
