/- A kid's fence; the document's word on places, kids and fences. -/
import Derived.Test.YtiojjpmkiljngaaD
namespace Go.Proofs.Ytiojjpmkiljngaa
open Go.ChangeShapes Go.WideShapes Go.ChangeAt Go.RowKit
set_option linter.unusedVariables false
/-- is there a fence behind a kid? -/
def fenceB (lf : Bool) (xs : List ByteArray) (m k : Nat) (kid : Int) : Bool := (!lf && mayB lf xs m k) && (decide (0 ≤ kid) && decide (kid < xs.length))
def fence (lf : Bool) (xs : List ByteArray) (m k : Nat) (kid : Int) : ByteArray := if fenceB lf xs m k kid then xs.getD kid.toNat e0 else e0
theorem fence_no {lf : Bool} {xs : List ByteArray} {m k : Nat} {kid : Int} (h : fenceB lf xs m k kid = false) : fence lf xs m k kid = e0 := by unfold fence; rw [h]; rfl
theorem fence_yes {lf : Bool} {xs : List ByteArray} {m k : Nat} {kid : Int} (h : fenceB lf xs m k kid = true) : fence lf xs m k kid = xs.getD kid.toNat e0 := by unfold fence; rw [h]; rfl
def FenceEnd (lf : Bool) (xs : List ByteArray) (m k : Nat) (kid : Int) (w : World) (x : Ending) (w' : World) : Prop := x = .returned (.tuple #[.string (fence lf xs m k kid), .bool (fenceB lf xs m k kid)]) ∧ Below w.heap.size w w'
theorem fence_end_no {lf : Bool} {xs : List ByteArray} {m k : Nat} {kid : Int} {w w' : World} (h : fenceB lf xs m k kid = false) (hb : Below w.heap.size w w') : FenceEnd lf xs m k kid w (.returned (.tuple #[.string ⟨#[]⟩, .bool false])) w' := ⟨by rw [fence_no h, h]; rfl, hb⟩
theorem fence_end_yes {lf : Bool} {xs : List ByteArray} {m k : Nat} {kid : Int} {w w' : World} {s : ByteArray} (h : fenceB lf xs m k kid = true) (hs : xs.getD kid.toNat e0 = s) (hb : Below w.heap.size w w') : FenceEnd lf xs m k kid w (.returned (.tuple #[.string s, .bool true])) w' := ⟨by rw [fence_yes h, h, hs], hb⟩
set_option maxRecDepth 100000 in
set_option maxHeartbeats 1000000 in
theorem Fence_any (lf : Bool) (A B C : Option Addr) (n c m d k e : Nat) (xs : List ByteArray) (kid : Int) (w : World) (hs : Rd sv w.heap.size w A n xs) (hn : n ≤ 1000000) (hm : m ≤ 1000000) (hk : k ≤ 1000000) :
    Calls Try.prog 18 #[.agg #[.bool lf, .slice A n c, .slice B m d, .slice C k e], .int .i64 kid] w (FenceEnd lf xs m k kid w) := by
  have b0 := Blk.new w #[.bool lf, .slice A n c, .slice B m d, .slice C k e] 28
  have hB0 : Below w.heap.size w (w.alloc (.cells #[.bool lf, .slice A n c, .slice B m d, .slice C k e] 28)) := (Below.refl _ _).alloc (Nat.le_refl _) _
  have HB0 := Lib.hid hB0
  have H0 := Lib.hid b0
  have Hs := Lib.hid (hs.later hB0)
  obtain ⟨b, hbm⟩ : ∃ b, (!lf && mayB lf xs m k) = b := ⟨_, rfl⟩
  have hC := inner_any lf A B C n c m d k e xs _ (hs.later hB0) hn hm hk
  rw [hbm] at hC
  have HC := Lib.hid hC
  have HM := Lib.hid hbm
  have HL := Lib.hid Hs.out.1
  clear hB0 hs b0 hC hbm
  cases b
  · have HF : Hid (fenceB lf xs m k kid = false) := by show _ = _; unfold fenceB; rw [HM.out]; rfl
    go_enter Try.func18, Try.ntmps18
    go_wp2_with fail
    refine (HC.out).mono ?_
    rintro x w' ⟨rfl, hb⟩
    have HB := Lib.hid (stepB HB0.out hb)
    clear hb HC
    go_wp2
    go_ret2
    exact fence_end_no HF.out HB.out
  · have HF : Hid (fenceB lf xs m k kid = (decide (0 ≤ kid) && decide (kid < n))) := by show _ = _; unfold fenceB; rw [HM.out, HL.out]; rfl
    by_cases c1 : kid < 0
    · have d1 : decide (kid < 0) = true := decide_eq_true c1
      have HF2 : Hid (fenceB lf xs m k kid = false) := by show _ = _; rw [HF.out, decide_eq_false (show ¬ 0 ≤ kid by omega)]; rfl
      clear c1
      go_enter Try.func18, Try.ntmps18
      go_wp2_with fail
      refine (HC.out).mono ?_
      rintro x w' ⟨rfl, hb⟩
      have HB := Lib.hid (stepB HB0.out hb)
      clear hb HC
      go_wp2
      go_ret2
      exact fence_end_no HF2.out HB.out
    · have d1 : decide (kid < 0) = false := decide_eq_false c1
      by_cases c2 : kid < n
      · have HF2 : Hid (fenceB lf xs m k kid = true) := by show _ = _; rw [HF.out, decide_eq_true (show 0 ≤ kid by omega), decide_eq_true c2]; rfl
        obtain ⟨j, rfl⟩ : ∃ j : Nat, kid = j := ⟨kid.toNat, by omega⟩
        have hjn : j < n := by omega
        have d2 : decide ((n : Int) ≤ (j : Int)) = false := decide_eq_false (by omega)
        clear c1 c2
        go_enter Try.func18, Try.ntmps18
        go_wp2_with fail
        refine (HC.out).mono ?_
        rintro x w' ⟨rfl, hb⟩
        have HB := Lib.hid (stepB HB0.out hb)
        obtain ⟨g, off, rfl, hcell⟩ := (Hs.out.later hb).getD (j := 0) (by omega)
        have h1 := hcell j hjn
        obtain ⟨s, hs⟩ : ∃ s, xs.getD j e0 = s := ⟨_, rfl⟩
        rw [hs] at h1
        have HS : Hid (xs.getD (j : Int).toNat e0 = s) := hs
        have i1 := index_run g off n c j (j : Int) rfl hjn
        have k1 := (H0.out.later hb).cell 1
        simp only [List.getElem?_toArray, List.getElem?_cons_zero, List.getElem?_cons_succ] at k1
        clear hb HC hcell hs
        go_wp2
        go_ret2
        exact fence_end_yes HF2.out HS.out HB.out
      · have d2 : decide ((n : Int) ≤ kid) = true := decide_eq_true (by omega)
        have HF2 : Hid (fenceB lf xs m k kid = false) := by show _ = _; rw [HF.out, decide_eq_false c2]; simp
        clear c1 c2
        go_enter Try.func18, Try.ntmps18
        go_wp2_with fail
        refine (HC.out).mono ?_
        rintro x w' ⟨rfl, hb⟩
        have HB := Lib.hid (stepB HB0.out hb)
        have k1 := (H0.out.later hb).cell 1
        simp only [List.getElem?_toArray, List.getElem?_cons_zero, List.getElem?_cons_succ] at k1
        clear hb HC
        go_wp2
        go_ret2
        exact fence_end_no HF2.out HB.out
end Go.Proofs.Ytiojjpmkiljngaa
