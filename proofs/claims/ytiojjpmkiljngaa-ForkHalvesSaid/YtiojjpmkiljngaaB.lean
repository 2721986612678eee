/- The document's word on which nodes may be; how the language itself compares texts. -/
import Derived.Test.YtiojjpmkiljngaaA
namespace Go.Proofs.Ytiojjpmkiljngaa
open Go.ChangeShapes Go.WideShapes Go.ChangeAt Go.RowKit
set_option linter.unusedVariables false
theorem co_neg (a b : ByteArray) : co b a = - co a b := cb_neg _ _
theorem co_self (a : ByteArray) : co a a = 0 := cb_self _
theorem co_zero {a b : ByteArray} : co a b = 0 ↔ a = b := by
  unfold co
  rw [cb_zero]
  constructor
  · intro h; cases a; cases b; congr 1; exact Array.ext' h
  · rintro rfl; rfl
theorem less_cb : ∀ a b : List UInt8, Op.bytesLess a b = decide (Lib.compareBytes a b < 0)
  | _, [] => by cases ‹List UInt8› <;> simp [Op.bytesLess, Lib.compareBytes]
  | [], _ :: _ => by simp [Op.bytesLess, Lib.compareBytes]
  | a :: x, b :: y => by
    rw [Op.bytesLess, cb_cons, less_cb x y]
    by_cases h1 : a.toNat < b.toNat
    · rw [if_pos h1, decide_eq_true ((u8_lt a b).2 h1)]; rfl
    · rw [if_neg h1, decide_eq_false (fun h => h1 ((u8_lt a b).1 h))]
      by_cases h2 : b.toNat < a.toNat
      · rw [if_pos h2]
        have : (a == b) = false := by rw [beq_eq_false_iff_ne]; intro e; rw [e] at h2; omega
        rw [this]; simp
      · rw [if_neg h2]
        have : (a == b) = true := by rw [beq_iff_eq, u8_eq]; omega
        rw [this]; rfl
theorem tl (a : ByteArray) : a.toList = a.data.toList := ByteArray.toList_eq a
theorem less_co (a b : ByteArray) : Op.bytesLess a.toList b.toList = decide (co a b < 0) := by rw [tl, tl, less_cb]; rfl
theorem same_co (a b : ByteArray) : (a.toList == b.toList) = decide (co a b = 0) := by
  rw [Bool.eq_iff_iff, beq_iff_eq, decide_eq_true_eq, tl, tl]
  unfold co
  rw [cb_zero]
theorem leq_yes {a b : ByteArray} (h : co a b ≤ 0) : (Op.bytesLess a.toList b.toList || a.toList == b.toList) = true := by
  rw [less_co, same_co, Bool.or_eq_true, decide_eq_true_eq, decide_eq_true_eq]; omega
theorem less_yes {a b : ByteArray} (h : co a b < 0) : Op.bytesLess a.toList b.toList = true := by rw [less_co]; exact decide_eq_true h
theorem less_no {a b : ByteArray} (h : 0 ≤ co a b) : Op.bytesLess a.toList b.toList = false := by rw [less_co]; exact decide_eq_false (by omega)
theorem same_yes {a b : ByteArray} (h : co a b = 0) : (a.toList == b.toList) = true := by rw [same_co]; exact decide_eq_true h
theorem same_no {a b : ByteArray} (h : co a b ≠ 0) : (a.toList == b.toList) = false := by rw [same_co]; exact decide_eq_false h
set_option maxRecDepth 100000 in
set_option maxHeartbeats 2000000 in
theorem rMay_any (lf : Bool) (A B C : Option Addr) (n c m d k e : Nat) (xs : List ByteArray) (w : World) (hs : Rd sv w.heap.size w A n xs) (hn : n ≤ 1000000) (hm : m ≤ 1000000) (hk : k ≤ 1000000) :
    Calls Try.prog 24 #[.agg #[.bool lf, .slice A n c, .slice B m d, .slice C k e]] w fun x w' => x = .returned (.bool (mayB lf xs m k)) ∧ Below w.heap.size w w' := by
  have b0 := Blk.new w #[.bool lf, .slice A n c, .slice B m d, .slice C k e] 47
  have hB0 : Below w.heap.size w (w.alloc (.cells #[.bool lf, .slice A n c, .slice B m d, .slice C k e] 47)) := (Below.refl _ _).alloc (Nat.le_refl _) _
  have hl0 := b0.lt
  have Hs := Lib.hid (hs.later hB0)
  clear hs
  go_enter Try.func24, Try.ntmps24
  go_wp2
  generalize hw0 : w.alloc (.cells #[.bool lf, .slice A n c, .slice B m d, .slice C k e] 47) = w0 at *
  generalize hbx : w.heap.size = bx at *
  have H0 := Lib.hid b0
  have HB0 := Lib.hid hB0
  have HL := Lib.hid hl0
  have HE := Lib.hid hbx
  clear b0 hB0 hw0 hbx hl0
  go_loopw [3] (fun i wr => ∃ j : Nat, j ≤ n ∧ i = .int .i64 (j + 1 : Nat) ∧ (∀ t, t < j → t + 1 < n → co (xs.getD t e0) (xs.getD (t + 1) e0) < 0) ∧ Below w0.heap.size w0 wr) (fun i _ => n + 1 - (intOf i).toNat)
  case atStart => exact ⟨0, by omega, rfl, fun j hj => by omega, Below.refl _ _⟩
  case round =>
    obtain ⟨j, hj, rfl, hall, hb⟩ := hrel
    have k0 := (H0.out.later hb).cell 0
    have k1 := (H0.out.later hb).cell 1
    have k2 := (H0.out.later hb).cell 2
    have k3 := (H0.out.later hb).cell 3
    simp only [List.getElem?_toArray, List.getElem?_cons_zero, List.getElem?_cons_succ] at k0 k1 k2 k3
    have Hall := Lib.hid hall
    have Hb := Lib.hid hb
    clear hall hb
    by_cases hlt : j + 1 < n
    · have hc1 : decide (((j + 1 : Nat) : Int) < (n : Int)) = true := decide_eq_true (by omega)
      obtain ⟨g, off, rfl, hcell⟩ := (Hs.out.later Hb.out).getD (j := 0) (by omega)
      have h1 := hcell j (by omega)
      have h2 := hcell (j + 1) (by omega)
      clear hcell
      obtain ⟨x, hx⟩ : ∃ x, xs.getD j e0 = x := ⟨_, rfl⟩
      obtain ⟨y, hy⟩ : ∃ y, xs.getD (j + 1) e0 = y := ⟨_, rfl⟩
      rw [hx] at h1
      rw [hy] at h2
      have HX := Lib.hid hx
      have HY := Lib.hid hy
      have i1 := index_run g off n c j (j : Int) rfl (by omega)
      have i2 := index_run g off n c (j + 1) ((j : Int) + 1) (by omega) (by omega)
      have w1 : IntKind.i64.wrap (((j + 1 : Nat) : Int) - 1) = (j : Int) := (IntWalk.i64_in _ (by omega)).trans (by omega)
      have w2 : IntKind.i64.wrap ((j : Int) + 1 - 1) = (j : Int) := (IntWalk.i64_in _ (by omega)).trans (by omega)
      have w3 : IntKind.i64.wrap (j : Int) = (j : Int) := IntWalk.i64_in _ (by omega)
      clear hx hy
      by_cases hco : co x y < 0
      · have d1 : Op.bytesLess y.toList x.toList = false := less_no (by rw [co_neg x y]; omega)
        have d2 : (y.toList == x.toList) = false := same_no (by rw [co_neg x y]; omega)
        have Hall2 : Hid (∀ t, t < j + 1 → t + 1 < n → co (xs.getD t e0) (xs.getD (t + 1) e0) < 0) := fun t ht htn => by
          by_cases e : t = j
          · subst e; rw [HX.out, HY.out]; exact hco
          · exact Hall.out t (by omega) htn
        have Hco := Lib.hid hco
        clear hco
        go_wp2
        go_quiet (fail)
        have Hb2 : Hid (Below w0.heap.size w0 (wr.drewN nq)) := below_drewN Hb.out _
        go_wp2
        go_roundw
        case rel => exact ⟨j + 1, by omega, by go_num, Hall2.out, Hb2.out⟩
        case measure => simp [intOf]; omega
      · have d1 : (Op.bytesLess y.toList x.toList || y.toList == x.toList) = true := leq_yes (by rw [co_neg x y]; omega)
        have HR : Hid (mayB lf xs m k = false) := may_no (up_no (j := j) (by have := Hs.out.1; omega) (by rw [HX.out, HY.out]; exact hco))
        have Hco := Lib.hid hco
        clear hco
        go_wp2
        go_quiet (fail)
        have Hb2 : Hid (Below w0.heap.size w0 (wr.drewN nq)) := below_drewN Hb.out _
        go_wp2
        go_ret
        exact ⟨ret_bool HR.out.symm, by rw [HE.out]; exact HB0.out.trans (Hb2.out.mono (by have := HL.out; omega))⟩
    · have hc1 : decide (((j + 1 : Nat) : Int) < (n : Int)) = false := decide_eq_false (by omega)
      have HU : Hid (upB xs = true) := (upB_iff xs).2 (fun t ht => Hall.out t (by have := Hs.out.1; omega) (by have := Hs.out.1; omega))
      have hl := Hs.out.1
      have HW : Hid (Below bx w wr) := HB0.out.trans (Hb.out.mono (by have := HL.out; omega))
      have w4 : IntKind.i64.wrap ((n : Int) + 1) = (n : Int) + 1 := IntWalk.i64_in _ (by omega)
      cases lf
      · have HR : Hid (mayB false xs m k = (decide (m = n + 1) && decide (k = 0))) := by show _ = _; unfold mayB; rw [HU.out, hl]; rfl
        clear hl
        by_cases e1 : m = n + 1
        · have d1 : ((m : Int) == (n : Int) + 1) = true := by rw [beq_iff_eq]; omega
          have HR2 : Hid (mayB false xs m k = decide (k = 0)) := by show _ = _; rw [HR.out, decide_eq_true e1]; rfl
          clear e1
          go_wp2
          go_ret
          exact ⟨ret_bool (by rw [HR2.out]; first | rfl | (rw [Bool.eq_iff_iff]; simp)), by rw [HE.out]; exact HW.out⟩
        · have d1 : ((m : Int) == (n : Int) + 1) = false := by rw [beq_eq_false_iff_ne]; omega
          have HR2 : Hid (mayB false xs m k = false) := by show _ = _; rw [HR.out, decide_eq_false e1]; rfl
          clear e1
          go_wp2
          go_ret
          exact ⟨ret_bool HR2.out.symm, by rw [HE.out]; exact HW.out⟩
      · have HR : Hid (mayB true xs m k = (decide (k = n) && decide (m = 0))) := by show _ = _; unfold mayB; rw [HU.out, hl]; rfl
        clear hl
        by_cases e1 : k = n
        · have d1 : ((k : Int) == (n : Int)) = true := by rw [beq_iff_eq]; omega
          have HR2 : Hid (mayB true xs m k = decide (m = 0)) := by show _ = _; rw [HR.out, decide_eq_true e1]; rfl
          clear e1
          go_wp2
          go_ret
          exact ⟨ret_bool (by rw [HR2.out]; first | rfl | (rw [Bool.eq_iff_iff]; simp)), by rw [HE.out]; exact HW.out⟩
        · have d1 : ((k : Int) == (n : Int)) = false := by rw [beq_eq_false_iff_ne]; omega
          have HR2 : Hid (mayB true xs m k = false) := by show _ = _; rw [HR.out, decide_eq_false e1]; rfl
          clear e1
          go_wp2
          go_ret
          exact ⟨ret_bool HR2.out.symm, by rw [HE.out]; exact HW.out⟩
end Go.Proofs.Ytiojjpmkiljngaa
