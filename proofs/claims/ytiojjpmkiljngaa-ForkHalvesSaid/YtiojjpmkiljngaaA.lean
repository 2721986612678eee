/- How two keys stand; which nodes may be. -/
import Derived.Test.YtiojjpmkiljngaaSl
import Derived.Test.YtiojjpmkiljngaaL2
import Derived.Lib.Bytealg
import Derived.Lib.Strings
import Derived.Laws.IdiomStrings
namespace Go.Proofs.Ytiojjpmkiljngaa
open Go.ChangeShapes Go.WideShapes Go.ChangeAt Go.RowKit
set_option linter.unusedVariables false

/-- how two texts stand -/
def co (a b : ByteArray) : Int := Lib.compareBytes a.data.toList b.data.toList
theorem cmp49 (a b : ByteArray) (w : World) : Calls Try.prog 49 #[.string a, .string b] w fun e w' => e = .returned (.int .i64 (co a b)) ∧ w = w' := by
  go_enter Try.func49, Try.ntmps49
  go_wp2
  rw [run_callFunc_extern Try.func53 (by kernel_rfl) (by kernel_rfl) (by kernel_rfl) (e := Extern.BytealgCompare.compare) (by kernel_rfl), Lib.run_compareString]
  simp only [Result.andThen]
  rw [Oper.upon_value]
  go_wp2
  go_ret
  exact ⟨rfl, rfl⟩
theorem cmp45 (a b : ByteArray) (w : World) : Calls Try.prog 45 #[.string a, .string b] w fun e w' => e = .returned (.int .i64 (co a b)) ∧ w = w' := by
  go_enter Try.func45, Try.ntmps45
  go_wp2_with (go_at_call 49; refine (cmp49 _ _ _).mono ?_; rintro e w' ⟨rfl, rfl⟩)
  go_ret
  exact ⟨rfl, rfl⟩
theorem cmp (a b : ByteArray) (w : World) : Calls Try.prog 33 #[.string a, .string b] w fun e w' => e = .returned (.int .i64 (co a b)) ∧ w = w' := by
  go_enter Try.func33, Try.ntmps33
  go_wp2_with (go_at_call 45; refine (cmp45 _ _ _).mono ?_; rintro e w' ⟨rfl, rfl⟩)
  go_ret
  exact ⟨rfl, rfl⟩
theorem cmpq (a b : ByteArray) (w : World) : Calls Try.prog 33 #[.string a, .string b] w fun e w' => e = .returned (.int .i64 (co a b)) ∧ w' = w := (cmp a b w).mono fun e w' h => ⟨h.1, h.2.symm⟩
/-- a text's cell -/
def sv (s : ByteArray) : Value := .string s
def e0 : ByteArray := ⟨#[]⟩
/-- do keys rise? -/
def upB : List ByteArray → Bool
  | a :: b :: l => decide (co a b < 0) && upB (b :: l)
  | _ => true
theorem upB_iff (xs : List ByteArray) : upB xs = true ↔ ∀ j, j + 1 < xs.length → co (xs.getD j e0) (xs.getD (j + 1) e0) < 0 := by
  match xs with
  | [] => simp [upB]
  | [a] => simp [upB]
  | a :: b :: l =>
    rw [upB, Bool.and_eq_true, decide_eq_true_eq, upB_iff (b :: l)]
    constructor
    · rintro ⟨h1, h2⟩ j hj
      cases j with
      | zero => exact h1
      | succ j => exact h2 j (by simp only [List.length_cons] at hj ⊢; omega)
    · intro h
      exact ⟨h 0 (by simp), fun j hj => h (j + 1) (by simp only [List.length_cons] at hj ⊢; omega)⟩
theorem up_no {xs : List ByteArray} {j : Nat} (hj : j + 1 < xs.length) (h : ¬ co (xs.getD j e0) (xs.getD (j + 1) e0) < 0) : upB xs = false := by
  cases e : upB xs
  · rfl
  · exact absurd ((upB_iff xs).1 e j hj) h
/-- may a node be? -/
def mayB (lf : Bool) (xs : List ByteArray) (m k : Nat) : Bool := upB xs && (if lf then decide (k = xs.length) && decide (m = 0) else decide (m = xs.length + 1) && decide (k = 0))
theorem may_no {lf : Bool} {xs : List ByteArray} {m k : Nat} (h : upB xs = false) : mayB lf xs m k = false := by unfold mayB; rw [h]; rfl
theorem index_run (g off m c k : Nat) (i : Int) (hi : i = (k : Int)) (h : k < m) (W : World) : (Instr.indexAt 22 (.slice (some ⟨g, off, none⟩) m c) (.int .i64 i)).run Try.prog W = .ok (.pointer (some ⟨g, off + k, none⟩)) W := by
  subst hi
  have h1 : (0 : Int) ≤ (k : Int) ∧ (k : Int) < (m : Int) := by omega
  go_simp
/-- an element's cell, in the world of a block more -/
theorem Rd.getD {W : World} {A : Option Addr} {n : Nat} {xs : List ByteArray} (h : Rd sv W.heap.size W A n xs) {j : Nat} (hj : j < n) : ∃ g off, A = some ⟨g, off, none⟩ ∧ ∀ i, i < n → W.cell? ⟨g, off + i, none⟩ = some (.string (xs.getD i e0)) := by
  obtain ⟨g, off, hA, _, hc⟩ := h.2 (by omega)
  refine ⟨g, off, hA, fun i hi => ?_⟩
  have hl := h.1
  rw [hc i xs[i] (List.getElem?_eq_getElem (by omega))]
  simp [sv, List.getD_eq_getElem?_getD, show i < xs.length by omega]
set_option maxRecDepth 100000 in
set_option maxHeartbeats 2000000 in
theorem May_any (lf : Bool) (A B C : Option Addr) (n c m d k e : Nat) (xs : List ByteArray) (w : World) (hs : Rd sv w.heap.size w A n xs) (hn : n ≤ 1000000) (hm : m ≤ 1000000) (hk : k ≤ 1000000) :
    Calls Try.prog 10 #[.agg #[.bool lf, .slice A n c, .slice B m d, .slice C k e]] w fun x w' => x = .returned (.bool (mayB lf xs m k)) ∧ Below w.heap.size w w' := by
  have b0 := Blk.new w #[.bool lf, .slice A n c, .slice B m d, .slice C k e] 28
  have hB0 : Below w.heap.size w (w.alloc (.cells #[.bool lf, .slice A n c, .slice B m d, .slice C k e] 28)) := (Below.refl _ _).alloc (Nat.le_refl _) _
  have hl0 := b0.lt
  have Hs := Lib.hid (hs.later hB0)
  clear hs
  go_enter Try.func10, Try.ntmps10
  go_wp2
  generalize hw0 : w.alloc (.cells #[.bool lf, .slice A n c, .slice B m d, .slice C k e] 28) = w0 at *
  generalize hbx : w.heap.size = bx at *
  have H0 := Lib.hid b0
  have HB0 := Lib.hid hB0
  have HL := Lib.hid hl0
  have HE := Lib.hid hbx
  clear b0 hB0 hw0 hbx hl0
  go_loopw [3] (fun i wr => ∃ j : Nat, j ≤ n ∧ i = .int .i64 (j + 1 : Nat) ∧ (∀ t, t < j → t + 1 < n → co (xs.getD t e0) (xs.getD (t + 1) e0) < 0) ∧ Below w0.heap.size w0 wr) (fun i _ => n + 1 - (intOf i).toNat)
  case atStart => exact ⟨0, by omega, rfl, fun j hj => by omega, Below.refl _ _⟩
  case round =>
    obtain ⟨j, hj, rfl, hall, hb⟩ := hrel
    have k0 := (H0.out.later hb).cell 0
    have k1 := (H0.out.later hb).cell 1
    have k2 := (H0.out.later hb).cell 2
    have k3 := (H0.out.later hb).cell 3
    simp only [List.getElem?_toArray, List.getElem?_cons_zero, List.getElem?_cons_succ] at k0 k1 k2 k3
    have Hall := Lib.hid hall
    have Hb := Lib.hid hb
    clear hall hb
    by_cases hlt : j + 1 < n
    · have hc1 : decide (((j + 1 : Nat) : Int) < (n : Int)) = true := decide_eq_true (by omega)
      obtain ⟨g, off, rfl, hcell⟩ := (Hs.out.later Hb.out).getD (j := 0) (by omega)
      have h1 := hcell j (by omega)
      have h2 := hcell (j + 1) (by omega)
      clear hcell
      obtain ⟨x, hx⟩ : ∃ x, xs.getD j e0 = x := ⟨_, rfl⟩
      obtain ⟨y, hy⟩ : ∃ y, xs.getD (j + 1) e0 = y := ⟨_, rfl⟩
      rw [hx] at h1
      rw [hy] at h2
      have HX := Lib.hid hx
      have HY := Lib.hid hy
      have i1 := index_run g off n c j (j : Int) rfl (by omega)
      have i2 := index_run g off n c (j + 1) ((j : Int) + 1) (by omega) (by omega)
      have w1 : IntKind.i64.wrap (((j + 1 : Nat) : Int) - 1) = (j : Int) := (IntWalk.i64_in _ (by omega)).trans (by omega)
      have w2 : IntKind.i64.wrap ((j : Int) + 1 - 1) = (j : Int) := (IntWalk.i64_in _ (by omega)).trans (by omega)
      have w3 : IntKind.i64.wrap (j : Int) = (j : Int) := IntWalk.i64_in _ (by omega)
      clear hx hy
      by_cases hco : co x y < 0
      · have d1 : decide (0 ≤ co x y) = false := decide_eq_false (by omega)
        have Hall2 : Hid (∀ t, t < j + 1 → t + 1 < n → co (xs.getD t e0) (xs.getD (t + 1) e0) < 0) := fun t ht htn => by
          by_cases e : t = j
          · subst e; rw [HX.out, HY.out]; exact hco
          · exact Hall.out t (by omega) htn
        have Hco := Lib.hid hco
        clear hco
        go_wp2
        go_quiet ((go_at_call 33; exact Calls.quiet_of_same (cmpq _ _ _)))
        have Hb2 : Hid (Below w0.heap.size w0 (wr.drewN nq)) := below_drewN Hb.out _
        go_wp2
        go_roundw
        case rel => exact ⟨j + 1, by omega, by go_num, Hall2.out, Hb2.out⟩
        case measure => simp [intOf]; omega
      · have d1 : decide (0 ≤ co x y) = true := decide_eq_true (by omega)
        have HR : Hid (mayB lf xs m k = false) := may_no (up_no (j := j) (by have := Hs.out.1; omega) (by rw [HX.out, HY.out]; exact hco))
        have Hco := Lib.hid hco
        clear hco
        go_wp2
        go_quiet ((go_at_call 33; exact Calls.quiet_of_same (cmpq _ _ _)))
        have Hb2 : Hid (Below w0.heap.size w0 (wr.drewN nq)) := below_drewN Hb.out _
        go_wp2
        go_ret
        exact ⟨ret_bool HR.out.symm, by rw [HE.out]; exact HB0.out.trans (Hb2.out.mono (by have := HL.out; omega))⟩
    · have hc1 : decide (((j + 1 : Nat) : Int) < (n : Int)) = false := decide_eq_false (by omega)
      have HU : Hid (upB xs = true) := (upB_iff xs).2 (fun t ht => Hall.out t (by have := Hs.out.1; omega) (by have := Hs.out.1; omega))
      have hl := Hs.out.1
      have HW : Hid (Below bx w wr) := HB0.out.trans (Hb.out.mono (by have := HL.out; omega))
      have w4 : IntKind.i64.wrap ((n : Int) + 1) = (n : Int) + 1 := IntWalk.i64_in _ (by omega)
      cases lf
      · have HR : Hid (mayB false xs m k = (decide (m = n + 1) && decide (k = 0))) := by show _ = _; unfold mayB; rw [HU.out, hl]; rfl
        clear hl
        by_cases e1 : m = n + 1
        · have d1 : ((m : Int) == (n : Int) + 1) = true := by rw [beq_iff_eq]; omega
          have HR2 : Hid (mayB false xs m k = decide (k = 0)) := by show _ = _; rw [HR.out, decide_eq_true e1]; rfl
          clear e1
          go_wp2
          go_ret
          exact ⟨ret_bool (by rw [HR2.out]; first | rfl | (rw [Bool.eq_iff_iff]; simp)), by rw [HE.out]; exact HW.out⟩
        · have d1 : ((m : Int) == (n : Int) + 1) = false := by rw [beq_eq_false_iff_ne]; omega
          have HR2 : Hid (mayB false xs m k = false) := by show _ = _; rw [HR.out, decide_eq_false e1]; rfl
          clear e1
          go_wp2
          go_ret
          exact ⟨ret_bool HR2.out.symm, by rw [HE.out]; exact HW.out⟩
      · have HR : Hid (mayB true xs m k = (decide (k = n) && decide (m = 0))) := by show _ = _; unfold mayB; rw [HU.out, hl]; rfl
        clear hl
        by_cases e1 : k = n
        · have d1 : ((k : Int) == (n : Int)) = true := by rw [beq_iff_eq]; omega
          have HR2 : Hid (mayB true xs m k = decide (m = 0)) := by show _ = _; rw [HR.out, decide_eq_true e1]; rfl
          clear e1
          go_wp2
          go_ret
          exact ⟨ret_bool (by rw [HR2.out]; first | rfl | (rw [Bool.eq_iff_iff]; simp)), by rw [HE.out]; exact HW.out⟩
        · have d1 : ((k : Int) == (n : Int)) = false := by rw [beq_eq_false_iff_ne]; omega
          have HR2 : Hid (mayB true xs m k = false) := by show _ = _; rw [HR.out, decide_eq_false e1]; rfl
          clear e1
          go_wp2
          go_ret
          exact ⟨ret_bool HR2.out.symm, by rw [HE.out]; exact HW.out⟩
end Go.Proofs.Ytiojjpmkiljngaa
