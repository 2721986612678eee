/- Too much? -/
import Derived.Test.YtgbcncfgpdlmiaaOA
import Derived.Deep.QuietTactic
import Derived.BigQuiet
namespace Go.Proofs.Ytgbcncfgpdlmiaa
open Go.ChangeShapes Go.WideShapes Go.ChangeAt Go.RowKit Go.Maps
set_option linter.unusedVariables false
set_option linter.unusedSimpArgs false

def WideEnd (n : Nat) (Rs : List RE) (w : World) (e : Ending) (w' : World) : Prop := ∃ r : Bool, e = .returned (.bool r) ∧ Below w.heap.size w w' ∧ (r = false → n < 3000 ∧ ∀ x ∈ Rs, x.2.2.1 < 3000)
theorem wide_end {n : Nat} {Rs : List RE} {w w' : World} {x : Int} {r : Bool} (hr : r = decide (3000 ≤ x)) (hb : Below w.heap.size w w') (hnx : (n : Int) ≤ x) (h : x < 3000 → ∀ r ∈ Rs, r.2.2.1 < 3000) : WideEnd n Rs w (.returned (.bool r)) w' := ⟨r, rfl, hb, fun e => by
  subst hr
  have := of_decide_eq_false e
  exact ⟨by omega, h (by omega)⟩⟩
set_option maxRecDepth 100000 in
set_option maxHeartbeats 4000000 in
theorem wide_any (A : Option Addr) (n c : Nat) (Rs : List RE) (w : World) (hS : EvS w A n Rs) (hn : n ≤ maxLen) : Calls Try.prog 27 #[.slice A n c] w (WideEnd n Rs w) := by
  have HS := Lib.hid hS
  have HLN : Hid (Rs.length = n) := hS.rd.1
  unfold maxLen at hn
  clear hS
  go_enter Try.func27, Try.ntmps27
  go_wp2
  go_loopw [3, 4] (fun s i W => ∃ (k : Nat) (x : Int), k ≤ n ∧ i = .int .i64 k ∧ s = .int .i64 x ∧ (n : Int) ≤ x ∧ x ≤ n + 9000 ∧ (x < 3000 → ∀ j r, j < k → Rs[j]? = some r → r.2.2.1 < 3000) ∧ Below w.heap.size w W) (fun _ i _ => n - (intOf i).toNat)
  case atStart => exact ⟨0, n, Nat.zero_le _, rfl, rfl, by omega, by omega, fun _ j r h => absurd h (Nat.not_lt_zero j), Below.refl _ _⟩
  case round =>
    obtain ⟨k, x, hk, rfl, rfl, hx0, hx1, hall, hb⟩ := hrel
    have HALL := Lib.hid hall
    have HBW := Lib.hid hb
    clear hall hb
    by_cases hlt : k < n
    · have d2 : decide ((k : Int) < (n : Int)) = true := decide_eq_true (by omega)
      have wk : IntKind.i64.wrap ((k : Int) + 1) = (k : Int) + 1 := IntWalk.i64_in _ (by omega)
      by_cases hx : x < 3000
      · have d3 : decide (x < 3000) = true := decide_eq_true hx
        obtain ⟨g, off, rfl, hg, hc⟩ := (HS.out.later HBW.out).rd.2 (by omega)
        have i1 := idx32 g off n c k (k : Int) rfl hlt
        have hrk : Rs[k]? = some (Rs[k]'(by rw [HLN.out]; exact hlt)) := List.getElem?_eq_getElem _
        have HRK := Lib.hid hrk
        generalize Rs[k]'(by rw [HLN.out]; exact hlt) = r at *
        obtain ⟨⟨wh, t, cl, er, fo, va, ps⟩, A1, n1, c1⟩ := r
        have x5 := hc k _ hrk 5 (by decide)
        have x6 := hc k _ hrk 6 (by decide)
        simp only [evc, hdv, List.getElem?_cons_zero, List.getElem?_cons_succ, Nat.add_zero] at x5 x6
        have y5 : wr.cell? ⟨g, off + k * 7 + 3 + 2, none⟩ = some (.string va) := x5
        have y6 : wr.cell? ⟨g, off + k * 7 + 3 + 3, none⟩ = some (.slice A1 n1 c1) := x6
        clear hc hrk
        rcases Nat.lt_or_ge va.size 3000 with ha | ha <;> rcases Nat.lt_or_ge n1 3000 with hb | hb
        · have w1 : IntKind.i64.wrap (x + (va.size : Int)) = x + (va.size : Int) := IntWalk.i64_in _ (by omega)
          have w2 : IntKind.i64.wrap (x + (va.size : Int) + (n1 : Int)) = x + (va.size : Int) + (n1 : Int) := IntWalk.i64_in _ (by omega)
          go_wp2
          go_quiet (fail)
          go_wp2
          all_goals (
            go_roundw
            case rel => exact ⟨k + 1, _, by omega, by go_num, rfl, by omega, by omega, fun h j r hj hr => by
              rcases Nat.lt_or_ge j k with h2 | h2
              · exact HALL.out hx j r h2 hr
              · obtain rfl : j = k := by omega
                rw [HRK.out] at hr
                cases hr
                show n1 < 3000
                omega, below_drewN HBW.out _⟩
            case measure => simp [intOf]; omega)
        · have w1 : IntKind.i64.wrap (x + (va.size : Int)) = x + (va.size : Int) := IntWalk.i64_in _ (by omega)
          have w2 : IntKind.i64.wrap (x + (va.size : Int) + 3000) = x + (va.size : Int) + 3000 := IntWalk.i64_in _ (by omega)
          go_wp2
          go_quiet (fail)
          go_wp2
          all_goals (
            go_roundw
            case rel => exact ⟨k + 1, _, by omega, by go_num, rfl, by omega, by omega, fun h j r hj hr => by
              rcases Nat.lt_or_ge j k with h2 | h2
              · exact HALL.out hx j r h2 hr
              · obtain rfl : j = k := by omega
                rw [HRK.out] at hr
                cases hr
                show n1 < 3000
                omega, below_drewN HBW.out _⟩
            case measure => simp [intOf]; omega)
        · have w1 : IntKind.i64.wrap (x + 3000) = x + 3000 := IntWalk.i64_in _ (by omega)
          have w2 : IntKind.i64.wrap (x + 3000 + (n1 : Int)) = x + 3000 + (n1 : Int) := IntWalk.i64_in _ (by omega)
          go_wp2
          go_quiet (fail)
          go_wp2
          all_goals (
            go_roundw
            case rel => exact ⟨k + 1, _, by omega, by go_num, rfl, by omega, by omega, fun h j r hj hr => by
              rcases Nat.lt_or_ge j k with h2 | h2
              · exact HALL.out hx j r h2 hr
              · obtain rfl : j = k := by omega
                rw [HRK.out] at hr
                cases hr
                show n1 < 3000
                omega, below_drewN HBW.out _⟩
            case measure => simp [intOf]; omega)
        · have w1 : IntKind.i64.wrap (x + 3000) = x + 3000 := IntWalk.i64_in _ (by omega)
          have w2 : IntKind.i64.wrap (x + 3000 + 3000) = x + 3000 + 3000 := IntWalk.i64_in _ (by omega)
          go_wp2
          go_quiet (fail)
          go_wp2
          all_goals (
            go_roundw
            case rel => exact ⟨k + 1, _, by omega, by go_num, rfl, by omega, by omega, fun h j r hj hr => by
              rcases Nat.lt_or_ge j k with h2 | h2
              · exact HALL.out hx j r h2 hr
              · obtain rfl : j = k := by omega
                rw [HRK.out] at hr
                cases hr
                show n1 < 3000
                omega, below_drewN HBW.out _⟩
            case measure => simp [intOf]; omega)
      · have d3 : decide (x < 3000) = false := decide_eq_false hx
        have HX : Hid (3000 ≤ x) := by show _ ≤ _; omega
        have HNX : Hid ((n : Int) ≤ x) := hx0
        clear hx hx0 hx1
        go_wp2
        go_ret
        exact wide_end (x := x) (by rw [decide_eq_true HX.out]) HBW.out HNX.out (fun h => absurd h (by have := HX.out; omega))
    · obtain rfl : k = n := by omega
      have d2 : decide ((k : Int) < (k : Int)) = false := decide_eq_false (by omega)
      have HNX : Hid ((k : Int) ≤ x) := hx0
      clear hx0
      go_wp2
      go_ret
      exact wide_end (x := x) rfl HBW.out HNX.out (fun h r hr => by
        obtain ⟨j, hj, e⟩ := List.getElem_of_mem hr
        exact HALL.out h j r (by rw [← HLN.out]; exact hj) (by rw [List.getElem?_eq_getElem hj, e]))
end Go.Proofs.Ytgbcncfgpdlmiaa
