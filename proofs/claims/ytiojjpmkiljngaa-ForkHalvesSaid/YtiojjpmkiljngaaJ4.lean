/- Whether a node is this one; whether it is more than a statement goes over. -/
import Derived.Test.YtiojjpmkiljngaaJ3
namespace Go.Proofs.Ytiojjpmkiljngaa
open Go.ChangeShapes Go.WideShapes Go.ChangeAt Go.RowKit
set_option linter.unusedVariables false
set_option linter.unusedSimpArgs false
set_option maxRecDepth 100000 in
set_option maxHeartbeats 4000000 in
theorem is_any (lf : Bool) (A B C : Option Addr) (n c m d k e : Nat) (xs : List ByteArray) (ks rs : List Int) (A' B' C' : Option Addr) (n' c' m' d' k' e' : Nat) (ys : List ByteArray) (js ss : List Int) (w : World) (hN : Nd w A B C n c m d k e xs ks rs) (hM : Nd w A' B' C' n' c' m' d' k' e' ys js ss) :
    Calls Try.prog 32 #[.agg #[.bool lf, .slice A n c, .slice B m d, .slice C k e], .slice A' n' c', .slice B' m' d', .slice C' k' e'] w (BoolEnd (sameN lf (decide (m' = 0)) xs ys ks js rs ss) w) := by
  have hb0 : Below w.heap.size w (w.alloc (.cells #[.bool lf, .slice A n c, .slice B m d, .slice C k e] 28)) := (Below.refl _ _).alloc (Nat.le_refl _) _
  have HB := Lib.hid hb0
  have HC := Lib.hid (rsame_any lf A B C n c m d k e xs ks rs (decide (m' = 0)) A' B' C' n' c' m' d' k' e' ys js ss _ (hN.later hb0) (hM.later hb0))
  have d1 : ((m' : Int) == 0) = decide (m' = 0) := by rw [Bool.eq_iff_iff, beq_iff_eq, decide_eq_true_eq]; omega
  clear hb0 hN hM
  generalize decide (m' = 0) = b at *
  go_enter Try.func32, Try.ntmps32
  go_wp2_with fail
  refine (HC.out).mono ?_
  rintro x w2 ⟨rfl, hb⟩
  have HB2 := Lib.hid (stepB HB.out hb)
  clear hb HC
  go_wp2
  go_ret
  exact bool_end rfl HB2.out
/-- how many bytes texts have, one more for each -/
def wide (xs : List ByteArray) : Nat := (xs.map (fun s => s.size + 1)).sum
theorem wide_take (xs : List ByteArray) (k : Nat) : wide (xs.take k) ≤ wide xs := by
  unfold wide; rw [List.map_take]; exact sum_le _ _
theorem wide_succ {xs : List ByteArray} {k : Nat} {s : ByteArray} (h : xs[k]? = some s) : wide (xs.take (k + 1)) = wide (xs.take k) + (s.size + 1) := by
  unfold wide; rw [List.take_add_one, h]; simp
def largeB (xs : List ByteArray) (m k : Nat) : Bool := decide (3000 ≤ m + k + wide xs)
theorem large_no {xs : List ByteArray} {m k : Nat} (h : largeB xs m k = false) : m + k + wide xs < 3000 := by
  unfold largeB at h; have := of_decide_eq_false h; omega
theorem wide_len (xs : List ByteArray) : xs.length ≤ wide xs := by
  induction xs with
  | nil => exact Nat.zero_le _
  | cons x l ih => unfold wide at *; simp only [List.map_cons, List.sum_cons, List.length_cons]; omega
set_option maxRecDepth 100000 in
set_option maxHeartbeats 4000000 in
theorem large_any (lf : Bool) (A B C : Option Addr) (n c m d k e : Nat) (xs : List ByteArray) (w : World) (hs : Rd sv w.heap.size w A n xs) (hn : n ≤ 9000000000000000) (hm : m ≤ 9000000000000000) (hk : k ≤ 9000000000000000) (hx : ∀ s ∈ xs, s.size ≤ 9000000000000000) :
    Calls Try.prog 20 #[.agg #[.bool lf, .slice A n c, .slice B m d, .slice C k e]] w (BoolEnd (largeB xs m k) w) := by
  have hb0 : Below w.heap.size w (w.alloc (.cells #[.bool lf, .slice A n c, .slice B m d, .slice C k e] 28)) := (Below.refl _ _).alloc (Nat.le_refl _) _
  have HS := Lib.hid (hs.later hb0)
  have HB := Lib.hid hb0
  have HX := Lib.hid hx
  clear hb0 hs hx
  have w0 : IntKind.i64.wrap ((m : Int) + (k : Int)) = (m : Int) + (k : Int) := IntWalk.i64_in _ (by omega)
  go_enter Try.func20, Try.ntmps20
  go_wp2
  go_loop [3, 4] (fun s i => ∃ j t : Nat, j ≤ n ∧ i = .int .i64 j ∧ s = .int .i64 t ∧ t = m + k + wide (xs.take j) ∧ t ≤ 18000000000000000 + 9000000000000000 + 3001) (fun _ i => n - (intOf i).toNat)
  case atStart => exact ⟨0, m + k, Nat.zero_le _, rfl, by rw [Int.natCast_add], rfl, by omega⟩
  case round =>
    obtain ⟨j, t, hj, rfl, rfl, ht, hts⟩ := hrel
    have HT := Lib.hid ht
    clear ht w0
    by_cases hlt : j < n
    · by_cases h3 : t < 3000
      · obtain ⟨g, off, s, rfl, hx, hc⟩ := HS.out.at hlt
        have hsz := HX.out s (List.mem_of_getElem? hx)
        have HW := Lib.hid (wide_succ hx)
        have i1 := sindex g off n c j (j : Int) rfl hlt
        have d1 : decide ((j : Int) < (n : Int)) = true := decide_eq_true (by omega)
        have d2 : decide ((t : Int) < 3000) = true := decide_eq_true (by omega)
        simp only [sv] at hc
        clear hx
        go_wp2
        go_round
        case rel => exact ⟨j + 1, t + (s.size + 1), by omega, by go_num, by go_num, by rw [HW.out, HT.out]; omega, by omega⟩
        case measure => simp [intOf]; omega
      · have d1 : decide ((j : Int) < (n : Int)) = true := decide_eq_true (by omega)
        have d2 : decide ((t : Int) < 3000) = false := decide_eq_false (by omega)
        have d3 : decide ((3000 : Int) ≤ (t : Int)) = true := decide_eq_true (by omega)
        have HR : Hid (largeB xs m k = true) := decide_eq_true (by have := wide_take xs j; have := HT.out; omega)
        clear h3
        go_wp2
        go_ret
        exact bool_end HR.out HB.out
    · obtain rfl : j = n := by omega
      have d1 : decide ((j : Int) < (j : Int)) = false := decide_eq_false (by omega)
      have HR : Hid (largeB xs m k = decide ((3000 : Int) ≤ (t : Int))) := by
        show decide _ = decide _
        have h1 := HT.out
        rw [List.take_of_length_le (by have := HS.out.1; omega)] at h1
        rw [decide_eq_decide]; omega
      go_wp2
      go_ret
      exact bool_end HR.out HB.out
end Go.Proofs.Ytiojjpmkiljngaa
