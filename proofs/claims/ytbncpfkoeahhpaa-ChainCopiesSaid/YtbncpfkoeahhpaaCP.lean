/- More versions than a statement goes over? -/
import Derived.Test.YtbncpfkoeahhpaaCL
namespace Go.Proofs.Ytbncpfkoeahhpaa
open Go.ChangeShapes Go.WideShapes Go.ChangeAt Go.RowKit Go.Maps
set_option linter.unusedVariables false
set_option linter.unusedSimpArgs false

def LgS (n : Nat) (L : List Vn) : Prop := ∃ k, k ≤ 300 ∧ (k = n ∨ k < n ∧ 9000 < (L.getD k vn0).2.2.2.size) ∧ ∀ j, j < k → (L.getD j vn0).2.2.2.size ≤ 9000
theorem index_run_any (A : Option Addr) (n c : Nat) (L : List Vn) (W : World) (h : RSl vec 4 W A n L) (k : Nat) (hk : k < n) : ∃ g off, A = some ⟨g, off, none⟩ ∧ (∀ W2, (Instr.indexAt 38 (.slice (some ⟨g, off, none⟩) n c) (.int .i64 (k : Int))).run Try.prog W2 = .ok (.pointer (some ⟨g, off + k * 4, none⟩)) W2) ∧ W.cell? ⟨g, off + k * 4 + 3, none⟩ = some (.string (L.getD k vn0).2.2.2) := by
  obtain ⟨g, off, hA, _, _, _, _, a3⟩ := rsl_at h hk
  exact ⟨g, off, hA, fun W2 => index_run g off n c k (k : Int) rfl hk W2, a3⟩
def LgEnd (n : Nat) (L : List Vn) (w : World) (e : Ending) (w' : World) : Prop := ∃ r : Bool, e = .returned (.bool r) ∧ Below w.heap.size w w' ∧ (r = false → LgS n L)
def LgR (n : Nat) (L : List Vn) (k : Nat) (z : Int) : Prop := (30 * (k : Int) ≤ z ∧ z ≤ 18030 ∧ ∀ j, j < k → (L.getD j vn0).2.2.2.size ≤ 9000) ∨ (∃ k0, k0 < k ∧ k0 ≤ 300 ∧ 9000 < (L.getD k0 vn0).2.2.2.size ∧ ∀ j, j < k0 → (L.getD j vn0).2.2.2.size ≤ 9000)
theorem LgR.next {n : Nat} {L : List Vn} {k : Nat} {z : Int} (h : LgR n L k z) (hz : z < 9000) : LgR n L (k + 1) (IntKind.i64.wrap (IntKind.i64.wrap (z + 30) + ((L.getD k vn0).2.2.2.size : Int))) := by
  rcases h with ⟨h1, h2, h3⟩ | ⟨k0, h1, h2, h3, h4⟩
  · by_cases hs : (L.getD k vn0).2.2.2.size ≤ 9000
    · refine .inl ?_
      rw [IntWalk.i64_in (z + 30) (by omega), IntWalk.i64_in _ (by omega)]
      exact ⟨by omega, by omega, fun j hj => by
        by_cases e : j = k
        · rw [e]; exact hs
        · exact h3 j (by omega)⟩
    · exact .inr ⟨k, by omega, by omega, by omega, h3⟩
  · exact .inr ⟨k0, by omega, h2, h3, h4⟩
theorem LgR.done {n : Nat} {L : List Vn} {z : Int} (h : LgR n L n z) (hz : z < 9000) : LgS n L := by
  rcases h with ⟨h1, h2, h3⟩ | ⟨k0, h1, h2, h3, h4⟩
  · exact ⟨n, by omega, .inl rfl, h3⟩
  · exact ⟨k0, h2, .inr ⟨h1, h3⟩, h4⟩
set_option maxRecDepth 100000 in
set_option maxHeartbeats 4000000 in
theorem large_any (A : Option Addr) (n c : Nat) (L : List Vn) (w : World) (hS : RSl vec 4 w A n L) (hn : n ≤ maxLen) : Calls Try.prog 20 #[.slice A n c] w (LgEnd n L w) := by
  have HS := Lib.hid hS
  unfold maxLen at hn
  clear hS
  go_enter Try.func20, Try.ntmps20
  go_wp2
  go_loopw [3, 4] (fun s i W => ∃ (k : Nat) (z : Int), k ≤ n ∧ i = .int .i64 k ∧ s = .int .i64 z ∧ LgR n L k z ∧ Below w.heap.size w W) (fun _ i _ => n - (intOf i).toNat)
  case atStart => exact ⟨0, 0, Nat.zero_le _, rfl, rfl, .inl ⟨by omega, by omega, fun j hj => by omega⟩, Below.refl _ _⟩
  case round =>
    obtain ⟨k, z, hk, rfl, rfl, hr, hb⟩ := hrel
    have HBW := Lib.hid hb
    have HR := Lib.hid hr
    clear hb hr
    by_cases hlt : k < n
    · have d2 : decide ((k : Int) < (n : Int)) = true := decide_eq_true (by omega)
      by_cases hzl : z < 9000
      · have d3 : decide (z < 9000) = true := decide_eq_true hzl
        have hi := index_run_any A n c L wr (HS.out.later HBW.out) k hlt
        obtain ⟨g, off, rfl, hx1, a3⟩ := hi
        have HN := Lib.hid (HR.out.next hzl)
        obtain ⟨v, hv⟩ : ∃ v, (L.getD k vn0).2.2.2 = v := ⟨_, rfl⟩
        rw [hv] at a3 HN
        have w3 : IntKind.i64.wrap ((k : Int) + 1) = (k : Int) + 1 := IntWalk.i64_in _ (by omega)
        clear hv
        go_wp2
        go_roundw
        case rel => exact ⟨k + 1, _, by omega, by go_num, rfl, by have h9 := HN.out; rw [IntWalk.i64_left, IntWalk.i64_left] at h9; exact h9, HBW.out⟩
        case measure => simp [intOf]; omega
      · have d3 : decide (z < 9000) = false := decide_eq_false hzl
        have d4 : decide ((9000 : Int) ≤ z) = true := decide_eq_true (by omega)
        go_wp2
        go_ret
        exact ⟨true, rfl, HBW.out, fun h => by cases h⟩
    · obtain rfl : k = n := by omega
      by_cases hzl : z < 9000
      · have d4 : decide ((9000 : Int) ≤ z) = false := decide_eq_false (by omega)
        have HE := Lib.hid (HR.out.done hzl)
        go_wp2
        go_ret
        exact ⟨false, rfl, HBW.out, fun _ => HE.out⟩
      · have d4 : decide ((9000 : Int) ≤ z) = true := decide_eq_true (by omega)
        go_wp2
        go_ret
        exact ⟨true, rfl, HBW.out, fun h => by cases h⟩
end Go.Proofs.Ytbncpfkoeahhpaa
