/- The document's Legal, of any number of tasks. -/
import Derived.Test.YtgbcncfgpdlmiaaU5
namespace Go.Proofs.Ytgbcncfgpdlmiaa
open Go.ChangeShapes Go.WideShapes Go.ChangeAt Go.RowKit Go.Maps
set_option linter.unusedVariables false
set_option linter.unusedSimpArgs false

set_option maxRecDepth 100000 in
set_option maxHeartbeats 4000000 in
theorem rlegal_no (x : Int) (A : Option Addr) (m c : Nat) (w : World) (hx : ¬ (1 ≤ x ∧ x ≤ 6)) : Calls Try.prog 22 #[.int .i64 x, .slice A m c] w (Bl false w) := by
  by_cases h1 : x < 1
  · have d1 : decide (x < 1) = true := decide_eq_true h1
    clear hx h1
    go_enter Try.func22, Try.ntmps22
    go_wp2
    go_ret
    exact ⟨rfl, Below.refl _ _⟩
  · have d1 : decide (x < 1) = false := decide_eq_false h1
    have d2 : decide ((6 : Int) < x) = true := decide_eq_true (by omega)
    clear hx h1
    go_enter Try.func22, Try.ntmps22
    go_wp2
    go_ret
    exact ⟨rfl, Below.refl _ _⟩
theorem rlegalA_any (x : Int) (A : Option Addr) (m c : Nat) (Rs : List RE) (w : World) (h : EvS w A m Rs) (hm : m ≤ 100000) (hp : ∀ r ∈ Rs, r.2.2.1 ≤ 100000) (hw : ∀ r ∈ Rs, 0 ≤ r.1.1 ∧ r.1.1 ≤ 255) : Calls Try.prog 22 #[.int .i64 x, .slice A m c] w (Bl (legalL x (Rs.map Prod.fst)) w) := by
  by_cases hx : 1 ≤ x ∧ x ≤ 6
  · obtain ⟨T, rfl⟩ : ∃ T : Nat, x = (T : Int) := ⟨x.toNat, by omega⟩
    exact rlegalL_any T A m c Rs w h hm hp hw (by omega) (by omega)
  · have hb : legalL x (Rs.map Prod.fst) = false := by unfold legalL; rw [decide_eq_false hx]; rfl
    rw [hb]
    exact rlegal_no x A m c w hx
end Go.Proofs.Ytgbcncfgpdlmiaa
