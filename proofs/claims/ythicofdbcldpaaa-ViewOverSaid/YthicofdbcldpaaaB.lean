/- Whether a view sees a writer: by the words, and by the program. -/
import Derived.Test.YthicofdbcldpaaaA
import Derived.OneCell
namespace Go.Proofs.Ythicofdbcldpaaa
open Go.ChangeShapes Go.WideShapes Go.ChangeAt Go.RowKit
set_option linter.unusedVariables false
def sees (own high : Int) (xs : List Int) (x : Int) : Bool := decide (1 ≤ x ∧ (x = own ∨ (x < high ∧ x ∉ xs)))
theorem sees_low {own high : Int} {xs : List Int} {x : Int} (h : x < 1) : sees own high xs x = false := decide_eq_false (fun e => by omega)
theorem sees_own {own high : Int} {xs : List Int} {x : Int} (h : ¬ x < 1) (e : x = own) : sees own high xs x = true := decide_eq_true ⟨by omega, .inl e⟩
theorem sees_high {own high : Int} {xs : List Int} {x : Int} (h : ¬ x = own) (e : ¬ x < high) : sees own high xs x = false := decide_eq_false (fun f => by rcases f.2 with g | g; exact h g; exact e g.1)
theorem sees_has {own high : Int} {xs : List Int} {x : Int} (h0 : ¬ x < 1) (h : ¬ x = own) (e : x < high) : sees own high xs x = !(decide (x ∈ xs)) := by
  unfold sees
  by_cases hm : x ∈ xs
  · rw [decide_eq_true hm]; exact decide_eq_false (fun f => by rcases f.2 with g | g; exact h g; exact g.2 hm)
  · rw [decide_eq_false hm]; exact decide_eq_true ⟨by omega, .inr ⟨e, hm⟩⟩
set_option maxRecDepth 100000 in
set_option maxHeartbeats 2000000 in
theorem rSees_any (own high : Int) (A : Option Addr) (n c : Nat) (xs : List Int) (x : Int) (w : World) (hs : Ints w.heap.size w A n xs) (hn : n ≤ 1000000) :
    Calls Try.prog 15 #[.agg #[.int .i64 own, .int .i64 high, .slice A n c], .int .i64 x] w fun e w' => e = .returned (.bool (sees own high xs x)) ∧ Below w.heap.size w w' := by
  have hb : Below w.heap.size w (w.alloc (.cells #[.int .i64 own, .int .i64 high, .slice A n c] 31)) := (Below.refl _ _).alloc (Nat.le_refl _) _
  have Hs := Lib.hid (hs.later hb)
  have Hb := Lib.hid hb
  clear hs hb
  by_cases h1 : x < 1
  · have HE := Lib.hid (sees_low (own := own) (high := high) (xs := xs) h1)
    go_enter Try.func15, Try.ntmps15
    go_wp2_with fail
    go_ret
    exact ⟨ret_bool HE.out.symm, Hb.out⟩
  · by_cases h2 : x = own
    · have HE := Lib.hid (sees_own (high := high) (xs := xs) h1 h2)
      have d : (x == own) = true := by rw [beq_iff_eq]; exact h2
      clear h2
      go_enter Try.func15, Try.ntmps15
      go_wp2_with fail
      go_ret
      exact ⟨ret_bool HE.out.symm, Hb.out⟩
    · have d : (x == own) = false := by rw [beq_eq_false_iff_ne]; exact h2
      by_cases h3 : x < high
      · have HE := Lib.hid (sees_has (xs := xs) h1 h2 h3)
        have dh : decide (x < high) = true := decide_eq_true h3
        clear h2
        go_enter Try.func15, Try.ntmps15
        go_wp2_with fail
        refine (has_any A n c xs x _ Hs.out hn).mono ?_
        rintro e _ ⟨rfl, rfl⟩
        generalize decide (x ∈ xs) = b at *
        go_wp2_with fail
        go_ret
        exact ⟨ret_bool HE.out.symm, Hb.out⟩
      · have HE := Lib.hid (sees_high (xs := xs) h2 h3)
        have dh : decide (x < high) = false := decide_eq_false h3
        clear h2
        go_enter Try.func15, Try.ntmps15
        go_wp2_with fail
        go_ret
        exact ⟨ret_bool HE.out.symm, Hb.out⟩
end Go.Proofs.Ythicofdbcldpaaa
