/- Versions in memory; whether two lists are the same. -/
import Derived.Test.YteelhldioaaffaaChecked
import Derived.Test.YteelhldioaaffaaP
import Derived.WalkKit
import Derived.ProofKit
import Derived.LoopTactic
import Derived.Below
import Derived.BigQuiet
import Derived.Deep.QuietTactic
import Derived.Laws.OwnMore
import Derived.OwnWalk
import Derived.Lib.Hide
import Derived.Outline
import Derived.IntWalk
import Derived.WalkSpells
import Derived.WalkLawsBesides
import Derived.RegionTactic
import Derived.Deep.RegionWith
import Derived.Deep.RegionHeld3
import Derived.Deep.DeepCutAuto
import Derived.Deep.CutBlock
namespace Go.Proofs.Yteelhldioaaffaa
open Go.ChangeShapes Go.WideShapes Go.ChangeAt Go.RowKit
set_option linter.unusedVariables false
def Ver.agg (v : Ver) : Value := .agg #[.int .i64 v.w, .int .i64 v.ts, .bool v.tomb, .string v.val]
theorem Ver.agg_eq (v : Ver) : v.agg = .agg #[.int .i64 v.w, .int .i64 v.ts, .bool v.tomb, .string v.val] := rfl
/-- the four cells of a version -/
structure VerAt (W : World) (g o : Nat) (v : Ver) : Prop where
  c0 : W.cell? ⟨g, o, none⟩ = some (.int .i64 v.w)
  c1 : W.cell? ⟨g, o + 1, none⟩ = some (.int .i64 v.ts)
  c2 : W.cell? ⟨g, o + 1 + 1, none⟩ = some (.bool v.tomb)
  c3 : W.cell? ⟨g, o + 1 + 1 + 1, none⟩ = some (.string v.val)
theorem VerAt.below {n₀ : Nat} {W W' : World} {g o : Nat} {v : Ver} (h : VerAt W g o v) (hb : Below n₀ W W') (hg : g < n₀) : VerAt W' g o v :=
  ⟨(hb.cell (p := ⟨g, o, none⟩) hg).trans h.c0, (hb.cell (p := ⟨g, o + 1, none⟩) hg).trans h.c1, (hb.cell (p := ⟨g, o + 1 + 1, none⟩) hg).trans h.c2, (hb.cell (p := ⟨g, o + 1 + 1 + 1, none⟩) hg).trans h.c3⟩
/-- a slice that reads as versions, in a block below a number; nil let in -/
def Vers (n₀ : Nat) (W : World) (A : Option Addr) (n : Nat) (vs : List Ver) : Prop :=
  vs.length = n ∧ (0 < n → ∃ g off, A = some ⟨g, off, none⟩ ∧ g < n₀ ∧ ∀ j, j < n → VerAt W g (off + j * 4) (vs.getD j ver0))
theorem Vers.below {n₀ : Nat} {W W' : World} {A : Option Addr} {n : Nat} {vs : List Ver} (h : Vers n₀ W A n vs) (hb : Below n₀ W W') : Vers n₀ W' A n vs :=
  ⟨h.1, fun hn => by
    obtain ⟨g, off, hA, hg, hc⟩ := h.2 hn
    exact ⟨g, off, hA, hg, fun j hj => (hc j hj).below hb hg⟩⟩
theorem Vers.mono {n₀ n₁ : Nat} {W : World} {A : Option Addr} {n : Nat} {vs : List Ver} (h : Vers n₀ W A n vs) (hn : n₀ ≤ n₁) : Vers n₁ W A n vs :=
  ⟨h.1, fun hp => by
    obtain ⟨g, off, hA, hg, hc⟩ := h.2 hp
    exact ⟨g, off, hA, Nat.lt_of_lt_of_le hg hn, hc⟩⟩
theorem stepB {w0 a b : World} (h : Below w0.heap.size w0 a) (k : Below a.heap.size a b) : Below w0.heap.size w0 b := h.trans (k.mono h.size)
theorem below_drewN {B : Nat} {a w : World} (h : Below B a w) (n : Nat) : Below B a (w.drewN n) := h.trans ⟨rfl, rfl, rfl, Nat.le_refl _, fun _ _ => rfl⟩
theorem ret_int {k : IntKind} {a b : Int} (h : a = b) : Ending.returned (.int k a) = .returned (.int k b) := by rw [h]
theorem ret_bool {a b : Bool} (h : a = b) : Ending.returned (.bool a) = .returned (.bool b) := by rw [h]
theorem index_run (g off m c k : Nat) (i : Int) (hi : i = (k : Int)) (h : k < m) (W : World) : (Instr.indexAt 24 (.slice (some ⟨g, off, none⟩) m c) (.int .i64 i)).run Try.prog W = .ok (.pointer (some ⟨g, off + k * 4, none⟩)) W := by
  subst hi
  have h1 : (0 : Int) ≤ (k : Int) ∧ (k : Int) < (m : Int) := by omega
  go_simp
theorem upto_any (A : Option Addr) (n c : Nat) (vs : List Ver) (f : Int) (w : World) (hs : Vers w.heap.size w A n vs) (hn : n ≤ 1000000) :
    Calls Try.prog 25 #[.slice A n c, .int .i64 f] w fun e w' => e = .returned (.int .i64 (upto vs f : Nat)) ∧ w = w' := by
  have Hs := Lib.hid hs
  clear hs
  go_enter Try.func25, Try.ntmps25
  go_wp2
  go_loop [5] (fun i => ∃ k : Nat, k ≤ n ∧ i = .int .i64 k ∧ ∀ j, j < k → f < (vs.getD j ver0).ts) (fun i => n - (intOf i).toNat)
  case atStart => exact ⟨0, by omega, rfl, fun j hj => by omega⟩
  case round =>
    obtain ⟨k, hk, rfl, hall⟩ := hrel
    have Hall := Lib.hid hall
    clear hall
    by_cases hlt : k < n
    · obtain ⟨g, off, rfl, hg, hc⟩ := Hs.out.2 (by omega)
      have hck := hc k hlt
      have Hl := Lib.hid Hs.out.1
      obtain ⟨v, hv⟩ : ∃ v, vs.getD k ver0 = v := ⟨_, rfl⟩
      rw [hv] at hck
      have c1 := hck.c1
      have Hv := Lib.hid hv
      clear hc hck hv
      by_cases ht : v.ts ≤ f
      · have HR : Hid (upto vs f = k) := upto_eq vs f k (by have := Hl.out; omega) Hall.out (fun _ => by rw [Hv.out]; exact ht)
        go_wp2

        go_ret
        exact ⟨ret_int (by rw [HR.out]), rfl⟩
      · have Hall2 : Hid (∀ j, j < k + 1 → f < (vs.getD j ver0).ts) := fun j hj => by
          by_cases e : j = k
          · subst e; rw [Hv.out]; omega
          · exact Hall.out j (by omega)
        go_wp2
        go_round
        case rel => exact ⟨k + 1, by omega, by go_num, Hall2.out⟩
        case measure => simp [intOf]; omega
    · obtain rfl : k = n := by omega
      have HR : Hid (upto vs f = k) := upto_eq vs f k (by rw [Hs.out.1]; exact Nat.le_refl _) Hall.out (fun h => by have := Hs.out.1; omega)
      go_wp2
      go_ret
      exact ⟨ret_int (by rw [HR.out]), rfl⟩
end Go.Proofs.Yteelhldioaaffaa
