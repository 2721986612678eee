/- The document's word on a key's place. -/
import Derived.Test.YtiojjpmkiljngaaE
namespace Go.Proofs.Ytiojjpmkiljngaa
open Go.ChangeShapes Go.WideShapes Go.ChangeAt Go.RowKit
set_option linter.unusedVariables false
def PlaceEnd (lf : Bool) (xs : List ByteArray) (m k : Nat) (key : ByteArray) (w : World) (x : Ending) (w' : World) : Prop := x = .returned (.tuple #[.int .i64 (if mayB lf xs m k then lowN xs key else 0 : Nat), .bool (mayB lf xs m k && hasB xs key)]) ∧ Below w.heap.size w w'
theorem place_end_no {lf : Bool} {xs : List ByteArray} {m k : Nat} {key : ByteArray} {w w' : World} (h : mayB lf xs m k = false) (hb : Below w.heap.size w w') : PlaceEnd lf xs m k key w (.returned (.tuple #[.int .i64 0, .bool false])) w' := ⟨by rw [h]; rfl, hb⟩
theorem place_end_yes {lf : Bool} {xs : List ByteArray} {m k l : Nat} {key : ByteArray} {w w' : World} {b : Bool} (h : mayB lf xs m k = true) (hl : lowN xs key = l) (hi : hasB xs key = b) (hb : Below w.heap.size w w') : PlaceEnd lf xs m k key w (.returned (.tuple #[.int .i64 l, .bool b])) w' := ⟨by rw [h, hl, hi]; simp, hb⟩
theorem has_at {xs : List ByteArray} {key x : ByteArray} {l : Nat} (hl : lowN xs key = l) (hn : l < xs.length) (hx : xs.getD l e0 = x) : hasB xs key = decide (co x key = 0) := by unfold hasB; rw [hl, hx, decide_eq_true hn]; rfl
theorem has_end {xs : List ByteArray} {key : ByteArray} {l : Nat} (hl : lowN xs key = l) (hn : ¬ l < xs.length) : hasB xs key = false := by unfold hasB; rw [hl, decide_eq_false hn]; rfl
set_option maxRecDepth 100000 in
set_option maxHeartbeats 1000000 in
theorem rPlace_any (lf : Bool) (A B C : Option Addr) (n c m d k e : Nat) (xs : List ByteArray) (key : ByteArray) (w : World) (hs : Rd sv w.heap.size w A n xs) (hn : n ≤ 1000000) (hm : m ≤ 1000000) (hk : k ≤ 1000000) :
    Calls Try.prog 22 #[.agg #[.bool lf, .slice A n c, .slice B m d, .slice C k e], .string key] w (PlaceEnd lf xs m k key w) := by
  have b0 := Blk.new w #[.bool lf, .slice A n c, .slice B m d, .slice C k e] 47
  have hB0 : Below w.heap.size w (w.alloc (.cells #[.bool lf, .slice A n c, .slice B m d, .slice C k e] 47)) := (Below.refl _ _).alloc (Nat.le_refl _) _
  have HB0 := Lib.hid hB0
  have H0 := Lib.hid b0
  have Hs := Lib.hid (hs.later hB0)
  obtain ⟨b, hbm⟩ : ∃ b, mayB lf xs m k = b := ⟨_, rfl⟩
  have hC := rMay_any lf A B C n c m d k e xs _ (hs.later hB0) hn hm hk
  rw [hbm] at hC
  have HC := Lib.hid hC
  have HM := Lib.hid hbm
  have HL := Lib.hid Hs.out.1
  clear hB0 hs b0 hC hbm
  cases b
  · go_enter Try.func22, Try.ntmps22
    go_wp2_with fail
    refine (HC.out).mono ?_
    rintro x w' ⟨rfl, hb⟩
    have HB := Lib.hid (stepB HB0.out hb)
    clear hb HC
    go_wp2
    go_ret2
    exact place_end_no HM.out HB.out
  · go_enter Try.func22, Try.ntmps22
    go_wp2_with fail
    refine (HC.out).mono ?_
    rintro x w' ⟨rfl, hb⟩
    have HB := Lib.hid (stepB HB0.out hb)
    have Hs2 := Lib.hid (Hs.out.later hb)
    have k1 := (H0.out.later hb).cell 1
    simp only [List.getElem?_toArray, List.getElem?_cons_zero, List.getElem?_cons_succ] at k1
    clear hb HC Hs H0 HB0
    go_wp2
    go_loop [6] (fun i => ∃ j : Nat, j ≤ n ∧ i = .int .i64 j ∧ ∀ t, t < j → co (xs.getD t e0) key < 0) (fun i => n - (intOf i).toNat)
    case atStart => exact ⟨0, by omega, rfl, fun t ht => by omega⟩
    case round =>
      obtain ⟨j, hj, rfl, hall⟩ := hrel
      have Hall := Lib.hid hall
      clear hall
      by_cases hlt : j < n
      · have hc1 : decide ((j : Int) < (n : Int)) = true := decide_eq_true (by omega)
        obtain ⟨g, off, rfl, hcell⟩ := Hs2.out.getD (j := 0) (by omega)
        have h1 := hcell j hlt
        obtain ⟨x, hx⟩ : ∃ x, xs.getD j e0 = x := ⟨_, rfl⟩
        rw [hx] at h1
        have HX := Lib.hid hx
        have i1 := index_run g off n c j (j : Int) rfl hlt
        clear hcell hx
        by_cases hco : co x key < 0
        · have d1 : Op.bytesLess x.toList key.toList = true := less_yes hco
          have Hall2 : Hid (∀ t, t < j + 1 → co (xs.getD t e0) key < 0) := fun t ht => by
            by_cases e : t = j
            · subst e; rw [HX.out]; exact hco
            · exact Hall.out t (by omega)
          have Hco := Lib.hid hco
          clear hco
          go_wp2
          go_round
          case rel => exact ⟨j + 1, by omega, by go_num, Hall2.out⟩
          case measure => simp [intOf]; omega
        · have d1 : Op.bytesLess x.toList key.toList = false := less_no (by omega)
          have HLw : Hid (lowN xs key = j) := low_of (by have := HL.out; omega) Hall.out (fun h => by rw [HX.out]; omega)
          have HH : Hid (hasB xs key = decide (co x key = 0)) := has_at HLw.out (by have := HL.out; omega) HX.out
          have Hco := Lib.hid hco
          clear hco
          by_cases he : co x key = 0
          · have d2 : (x.toList == key.toList) = true := same_yes he
            have HH2 : Hid (hasB xs key = true) := by show _ = _; rw [HH.out, decide_eq_true he]
            clear he
            go_wp2
            go_quiet (fail)
            have HB2 := Lib.hid (below_drewN HB.out nq)
            go_wp2
            go_ret2
            exact place_end_yes HM.out HLw.out HH2.out HB2.out
          · have d2 : (x.toList == key.toList) = false := same_no he
            have HH2 : Hid (hasB xs key = false) := by show _ = _; rw [HH.out, decide_eq_false he]
            clear he
            go_wp2
            go_quiet (fail)
            have HB2 := Lib.hid (below_drewN HB.out nq)
            go_wp2
            go_ret2
            exact place_end_yes HM.out HLw.out HH2.out HB2.out
      · obtain rfl : j = n := by omega
        have hc1 : decide ((j : Int) < (j : Int)) = false := decide_eq_false (by omega)
        have HLw : Hid (lowN xs key = j) := low_of (by have := HL.out; omega) Hall.out (fun h => by have := HL.out; omega)
        have HH : Hid (hasB xs key = false) := has_end HLw.out (by have := HL.out; omega)
        go_wp2
        go_ret2
        exact place_end_yes HM.out HLw.out HH.out HB.out
end Go.Proofs.Ytiojjpmkiljngaa
