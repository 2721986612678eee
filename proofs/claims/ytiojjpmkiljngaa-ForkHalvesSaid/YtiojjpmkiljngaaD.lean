/- A key's kid. -/
import Derived.Test.YtiojjpmkiljngaaC
namespace Go.Proofs.Ytiojjpmkiljngaa
open Go.ChangeShapes Go.WideShapes Go.ChangeAt Go.RowKit
set_option linter.unusedVariables false
theorem inner_up {lf : Bool} {xs : List ByteArray} {m k : Nat} (h : (!lf && mayB lf xs m k) = true) : upB xs = true := may_up (by rw [Bool.and_eq_true] at h; exact h.2)
set_option maxHeartbeats 1000000 in
theorem Kid_any (lf : Bool) (A B C : Option Addr) (n c m d k e : Nat) (xs : List ByteArray) (key : ByteArray) (w : World) (hs : Rd sv w.heap.size w A n xs) (hn : n ≤ 1000000) (hm : m ≤ 1000000) (hk : k ≤ 1000000) :
    Calls Try.prog 11 #[.agg #[.bool lf, .slice A n c, .slice B m d, .slice C k e], .string key] w fun x w' => x = .returned (.int .i64 (if !lf && mayB lf xs m k then kidN xs key else 0 : Nat)) ∧ Below w.heap.size w w' := by
  have b0 := Blk.new w #[.bool lf, .slice A n c, .slice B m d, .slice C k e] 28
  have hB0 : Below w.heap.size w (w.alloc (.cells #[.bool lf, .slice A n c, .slice B m d, .slice C k e] 28)) := (Below.refl _ _).alloc (Nat.le_refl _) _
  have HB0 := Lib.hid hB0
  have H0 := Lib.hid b0
  have Hs := Lib.hid (hs.later hB0)
  obtain ⟨b, hbm⟩ : ∃ b, (!lf && mayB lf xs m k) = b := ⟨_, rfl⟩
  have hC := inner_any lf A B C n c m d k e xs _ (hs.later hB0) hn hm hk
  rw [hbm] at hC ⊢
  have HC := Lib.hid hC
  have HM := Lib.hid hbm
  clear hB0 hs b0 hC hbm
  cases b
  · show Calls Try.prog 11 _ w fun x w' => x = .returned (.int .i64 ((0 : Nat) : Int)) ∧ Below w.heap.size w w'
    go_enter Try.func11, Try.ntmps11
    go_wp2_with fail
    refine (HC.out).mono ?_
    rintro x w' ⟨rfl, hb⟩
    have HB := Lib.hid (stepB HB0.out hb)
    clear hb HC
    go_wp2
    go_ret
    exact ⟨rfl, HB.out⟩
  · show Calls Try.prog 11 _ w fun x w' => x = .returned (.int .i64 (kidN xs key : Nat)) ∧ Below w.heap.size w w'
    have hu : upB xs = true := inner_up HM.out
    have HU := Lib.hid hu
    have HL := Lib.hid (low_le xs key)
    have HN := Lib.hid Hs.out.1
    clear hu
    obtain ⟨p, hp⟩ : ∃ p, lowN xs key = p := ⟨_, rfl⟩
    obtain ⟨i, hi⟩ : ∃ i, hasB xs key = i := ⟨_, rfl⟩
    have HK : Hid (kidN xs key = if i then p + 1 else p) := by show _ = _; unfold kidN; rw [hp, hi]
    have hpn : p ≤ n := by have := HL.out; have := HN.out; omega
    have HP := fun (w' : World) (h : Rd sv w'.heap.size w' A n xs) => place_any A n c xs key w' h hn HU.out
    rw [hp, hi] at HP
    have HP := Lib.hid HP
    clear hp hi
    go_enter Try.func11, Try.ntmps11
    go_wp2_with fail
    refine (HC.out).mono ?_
    rintro x w' ⟨rfl, hb⟩
    have HB := Lib.hid (stepB HB0.out hb)
    have Hs2 := Lib.hid (Hs.out.later hb)
    have k1 := (H0.out.later hb).cell 1
    simp only [List.getElem?_toArray, List.getElem?_cons_zero, List.getElem?_cons_succ] at k1
    clear hb HC
    go_wp2_with fail
    refine (HP.out _ Hs2.out).mono ?_
    rintro x w2 ⟨rfl, rfl⟩
    cases i
    · go_wp2
      go_ret
      exact ⟨by rw [HK.out]; rfl, HB.out⟩
    · go_wp2
      go_ret
      exact ⟨by rw [HK.out]; first | rfl | (congr 2), HB.out⟩
end Go.Proofs.Ytiojjpmkiljngaa
