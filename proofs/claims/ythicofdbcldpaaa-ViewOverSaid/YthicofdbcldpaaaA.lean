/- Numbers in memory; whether one is among them; package ferrymanref09's words on views. -/
import Derived.Test.YthicofdbcldpaaaChecked
import Derived.Test.YthicofdbcldpaaaP
import Derived.WalkKit
import Derived.ProofKit
import Derived.LoopTactic
import Derived.Below
import Derived.BigQuiet
import Derived.Deep.QuietTactic
import Derived.Laws.OwnMore
import Derived.OwnWalk
import Derived.Lib.Hide
import Derived.Outline
import Derived.IntWalk
import Derived.WalkSpells
import Derived.WalkLawsBesides
import Derived.RegionTactic
import Derived.Deep.RegionWith
import Derived.Deep.RegionHeld3
import Derived.Deep.DeepCutAuto
import Derived.Deep.CutBlock
namespace Go.Proofs.Ythicofdbcldpaaa
open Go.ChangeShapes Go.WideShapes Go.ChangeAt Go.RowKit
set_option linter.unusedVariables false
/-- a slice that reads as numbers, in a block below a number; nil let in -/
def Ints (n₀ : Nat) (W : World) (A : Option Addr) (n : Nat) (xs : List Int) : Prop :=
  xs.length = n ∧ (0 < n → ∃ g off, A = some ⟨g, off, none⟩ ∧ g < n₀ ∧ ∀ j, j < n → W.cell? ⟨g, off + j, none⟩ = some (.int .i64 (xs.getD j 0)))
theorem Ints.below {n₀ : Nat} {W W' : World} {A : Option Addr} {n : Nat} {xs : List Int} (h : Ints n₀ W A n xs) (hb : Below n₀ W W') : Ints n₀ W' A n xs :=
  ⟨h.1, fun hn => by
    obtain ⟨g, off, hA, hg, hc⟩ := h.2 hn
    exact ⟨g, off, hA, hg, fun j hj => (hb.cell (p := ⟨g, off + j, none⟩) hg).trans (hc j hj)⟩⟩
theorem Ints.mono {n₀ n₁ : Nat} {W : World} {A : Option Addr} {n : Nat} {xs : List Int} (h : Ints n₀ W A n xs) (hn : n₀ ≤ n₁) : Ints n₁ W A n xs :=
  ⟨h.1, fun hp => by
    obtain ⟨g, off, hA, hg, hc⟩ := h.2 hp
    exact ⟨g, off, hA, Nat.lt_of_lt_of_le hg hn, hc⟩⟩
/-- in a later world -/
theorem Ints.later {W W' : World} {A : Option Addr} {n : Nat} {xs : List Int} (h : Ints W.heap.size W A n xs) (hb : Below W.heap.size W W') : Ints W'.heap.size W' A n xs := (h.below hb).mono hb.size
theorem stepB {w0 a b : World} (h : Below w0.heap.size w0 a) (k : Below a.heap.size a b) : Below w0.heap.size w0 b := h.trans (k.mono h.size)
theorem below_drewN {B : Nat} {a w : World} (h : Below B a w) (n : Nat) : Below B a (w.drewN n) := h.trans ⟨rfl, rfl, rfl, Nat.le_refl _, fun _ _ => rfl⟩
theorem belowD {W W' : World} {d : Nat} (h : W' = W.drewN d) : Below W.heap.size W W' := by rw [h]; exact below_drewN (Below.refl _ _) d
theorem ret_int {k : IntKind} {a b : Int} (h : a = b) : Ending.returned (.int k a) = .returned (.int k b) := by rw [h]
theorem ret_bool {a b : Bool} (h : a = b) : Ending.returned (.bool a) = .returned (.bool b) := by rw [h]
theorem index_run (g off m c k : Nat) (i : Int) (hi : i = (k : Int)) (h : k < m) (W : World) : (Instr.indexAt 23 (.slice (some ⟨g, off, none⟩) m c) (.int .i64 i)).run Try.prog W = .ok (.pointer (some ⟨g, off + k, none⟩)) W := by
  subst hi
  have h1 : (0 : Int) ≤ (k : Int) ∧ (k : Int) < (m : Int) := by omega
  go_simp
set_option maxHeartbeats 1000000 in
theorem has_any (A : Option Addr) (n c : Nat) (xs : List Int) (x : Int) (w : World) (hs : Ints w.heap.size w A n xs) (hn : n ≤ 1000000) :
    Calls Try.prog 19 #[.slice A n c, .int .i64 x] w fun e w' => e = .returned (.bool (decide (x ∈ xs))) ∧ w = w' := by
  have Hs := Lib.hid hs
  clear hs
  go_enter Try.func19, Try.ntmps19
  go_wp2
  go_loop [5] (fun i => ∃ k : Nat, k ≤ n ∧ i = .int .i64 k ∧ ∀ j, j < k → xs.getD j 0 ≠ x) (fun i => n - (intOf i).toNat)
  case atStart => exact ⟨0, by omega, rfl, fun j hj => by omega⟩
  case round =>
    obtain ⟨k, hk, rfl, hall⟩ := hrel
    have Hall := Lib.hid hall
    clear hall
    by_cases hlt : k < n
    · obtain ⟨g, off, rfl, hg, hc⟩ := Hs.out.2 (by omega)
      have hck := hc k hlt
      have Hl := Lib.hid Hs.out.1
      obtain ⟨v, hv⟩ : ∃ v, xs.getD k 0 = v := ⟨_, rfl⟩
      rw [hv] at hck
      have Hv := Lib.hid hv
      clear hc hv
      by_cases ht : v = x
      · have HR : Hid (decide (x ∈ xs) = true) := decide_eq_true (by rw [← ht, ← Hv.out]; exact getD_mem (by have := Hl.out; omega))
        have d1 : (v == x) = true := by rw [beq_iff_eq]; exact ht
        clear ht
        go_wp2
        go_ret
        exact ⟨ret_bool HR.out.symm, rfl⟩
      · have d1 : (v == x) = false := by rw [beq_eq_false_iff_ne]; exact ht
        have Hall2 : Hid (∀ j, j < k + 1 → xs.getD j 0 ≠ x) := fun j hj => by
          by_cases e : j = k
          · subst e; rw [Hv.out]; exact ht
          · exact Hall.out j (by omega)
        clear ht
        go_wp2
        go_round
        case rel => exact ⟨k + 1, by omega, by go_num, Hall2.out⟩
        case measure => simp [intOf]; omega
    · obtain rfl : k = n := by omega
      have HR : Hid (decide (x ∈ xs) = false) := decide_eq_false (fun hm => by
        obtain ⟨j, hj, he⟩ := mem_getD hm
        exact Hall.out j (by have := Hs.out.1; omega) he)
      go_wp2
      go_ret
      exact ⟨ret_bool HR.out.symm, rfl⟩
end Go.Proofs.Ythicofdbcldpaaa
