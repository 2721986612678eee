/- Steps done to new latches. -/
import Derived.Test.YtgjponobiplipaaF
namespace Go.Proofs.Ytgjponobiplipaa
open Go.ChangeShapes Go.WideShapes Go.ChangeAt Go.RowKit Go.Maps
set_option linter.unusedVariables false
set_option linter.unusedSimpArgs false

def RunEnd (C : List Ct) (w : World) (x : Ending) (w' : World) : Prop := ∃ p b, x = .returned (.pointer (some ⟨p, 0, none⟩)) ∧ LaAt w' w.heap.size p b C ∧ Below w.heap.size w w'
theorem run_len (S : List Stp) (C : List Ct) : ∀ k, (runC S C k).length ≤ C.length + k
  | 0 => by simp [runC]
  | k + 1 => by
    have h1 := run_len S C k
    have h2 := do_len (runC S C k) (S.getD k stp0)
    show (doC _ _).length ≤ _
    omega
theorem do_drop {C : List Ct} {z t : Int} : doC C (true, z, t) = dropS C z t := rfl
theorem do_try {C : List Ct} {z t : Int} : doC C (false, z, t) = tryS C z t := rfl
set_option maxRecDepth 100000 in
set_option maxHeartbeats 4000000 in
theorem run_any (A : Option Addr) (n c : Nat) (S : List Stp) (w : World) (hS : Steps w.heap.size w A n S) (hn : n ≤ 900) : Calls Try.prog 24 #[.slice A n c] w (RunEnd (runC S [] n) w) := by
  have HS := Lib.hid hS
  clear hS
  go_enter Try.func24, Try.ntmps24
  go_wp2_with fail
  refine (new_any w).mono ?_
  rintro x w2 ⟨rfl, ho, hb⟩
  have O2 := Lib.hid ho
  have HB2 := Lib.hid hb
  clear ho hb
  generalize w.heap.size + 1 = p at *
  generalize hb0 : w.heap.size = b at O2
  have O3 : Hid (LaAt w2 w.heap.size p b []) := by rw [hb0]; exact O2.out
  clear O2 hb0
  go_wp2
  go_loopw [4] (fun i wr => ∃ (k : Nat) (C : List Ct), k ≤ n ∧ i = .int .i64 k ∧ C = runC S [] k ∧ LaAt wr w.heap.size p b C ∧ Below w.heap.size w wr) (fun i _ => n - (intOf i).toNat)
  case atStart => exact ⟨0, [], Nat.zero_le _, rfl, rfl, O3.out, HB2.out⟩
  case round =>
    obtain ⟨k, C, hk, rfl, hC, ho, hb⟩ := hrel
    have O0 := Lib.hid ho
    have HB0 := Lib.hid hb
    have HC := Lib.hid hC
    have hl : C.length ≤ k := by have := run_len S [] k; rw [← hC] at this; simpa using this
    clear ho hb O3 HB2 hC
    by_cases hlt : k < n
    · have d2 : decide ((k : Int) < (n : Int)) = true := decide_eq_true (by omega)
      have wk : IntKind.i64.wrap ((k : Int) + 1) = (k : Int) + 1 := IntWalk.i64_in _ (by omega)
      obtain ⟨g, off, rfl, hg, hcell⟩ := (HS.out.below HB0.out).2 (by omega)
      have i1 := sindex g off n c k (k : Int) rfl hlt
      obtain ⟨hc, hok⟩ := hcell k hlt
      obtain ⟨⟨d, z, t⟩, hx⟩ : ∃ x, S.getD k stp0 = x := ⟨_, rfl⟩
      rw [hx] at hc hok
      have HN : Hid (runC S [] (k + 1) = doC C (d, z, t)) := by show doC (runC S [] k) (S.getD k stp0) = _; rw [← HC.out, hx]
      obtain ⟨x0, x1, x2, x3⟩ := hc
      have hz : rg z := hok.1
      have ht : (Lit.int .i64 t).wf = true := hok.2
      have HCD : Hid (∀ W, LaAt W w.heap.size p b C → Calls Try.prog 12 #[.pointer (some ⟨p, 0, none⟩), .agg #[.int .u8 (z / 18446744073709551616), .int .u64 (z % 18446744073709551616)], .int .i64 t] W (LEnd w.heap.size p b (dropS C z t) (.bool (dropB C z t)) W)) := fun W h => drop_any w.heap.size p b C z t W h hz
      have HCT : Hid (∀ W, LaAt W w.heap.size p b C → Calls Try.prog 11 #[.pointer (some ⟨p, 0, none⟩), .agg #[.int .u8 (z / 18446744073709551616), .int .u64 (z % 18446744073709551616)], .int .i64 t] W (LEnd w.heap.size p b (tryS C z t) (.bool (tryB C z t)) W)) := fun W h => try_any w.heap.size p b C z t W h hz ht (by omega)
      simp only at x0 x1 x2 x3
      generalize z / 18446744073709551616 = zk at *
      generalize z % 18446744073709551616 = zi at *
      have HOK := Lib.hid hok
      clear hcell hx hg hok
      cases d with
      | true =>
        have HD : Hid (runC S [] (k + 1) = dropS C z t) := HN.out
        generalize dropS C z t = C2 at *
        generalize dropB C z t = r at *
        go_upto_region 6 with (fail)
        go_still_tail 11, (by kernel_rfl)
        change wpList _ _ _ _ _ wr.drew
        have hb3 : Below wr.heap.size wr wr.drew := Below.drew (Below.refl _ _)
        have O1 := Lib.hid (O0.out.later hb3)
        have HB1 := Lib.hid (stepB HB0.out hb3)
        clear hb3 x0 x1 x2 x3 O0 HB0 i1
        generalize wr.drew = w3 at *
        go_wp2_with fail
        refine (HCD.out _ O1.out).mono ?_
        rintro x w4 ⟨rfl, ho, hg⟩
        have HB4 := Lib.hid (O1.out.below HB1.out hg)
        have O4 := Lib.hid ho
        clear ho hg O1 HB1 HCD HCT HN HC
        go_wp2
        go_roundw
        case rel => exact ⟨k + 1, C2, by omega, by go_num, HD.out.symm, O4.out, HB4.out⟩
        case measure => simp [intOf]; omega
      | false =>
        have HD : Hid (runC S [] (k + 1) = tryS C z t) := HN.out
        generalize tryS C z t = C2 at *
        generalize tryB C z t = r at *
        go_upto_region 7 with (fail)
        go_still_tail 11, (by kernel_rfl)
        change wpList _ _ _ _ _ wr.drew
        have hb3 : Below wr.heap.size wr wr.drew := Below.drew (Below.refl _ _)
        have O1 := Lib.hid (O0.out.later hb3)
        have HB1 := Lib.hid (stepB HB0.out hb3)
        clear hb3 x0 x1 x2 x3 O0 HB0 i1
        generalize wr.drew = w3 at *
        go_wp2_with fail
        refine (HCT.out _ O1.out).mono ?_
        rintro x w4 ⟨rfl, ho, hg⟩
        have HB4 := Lib.hid (O1.out.below HB1.out hg)
        have O4 := Lib.hid ho
        clear ho hg O1 HB1 HCD HCT HN HC
        go_wp2
        go_roundw
        case rel => exact ⟨k + 1, C2, by omega, by go_num, HD.out.symm, O4.out, HB4.out⟩
        case measure => simp [intOf]; omega
    · obtain rfl : k = n := by omega
      have d2 : decide ((k : Int) < (k : Int)) = false := decide_eq_false (by omega)
      go_wp2
      go_ret
      exact ⟨_, _, rfl, by rw [← HC.out]; exact O0.out, HB0.out⟩
end Go.Proofs.Ytgjponobiplipaa
