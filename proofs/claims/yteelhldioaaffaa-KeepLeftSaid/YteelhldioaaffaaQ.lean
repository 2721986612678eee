/- What is kept is the newest one up to some snapshot; what is not is seen by none. -/
import Derived.Test.YteelhldioaaffaaL
import Derived.Test.YteelhldioaaffaaM
namespace Go.Proofs.Yteelhldioaaffaa
open Go.ChangeShapes Go.WideShapes Go.ChangeAt Go.RowKit
set_option linter.unusedVariables false
set_option linter.unusedSimpArgs false
theorem seenB_of {vs : List Ver} {s : Int} {k : Nat} (hu : upto vs s = k) (hk : k < vs.length) : seenB vs s = !(vs.getD k ver0).tomb := by
  unfold seenB; rw [hu]; simp [hk]
theorem seen_of {vs : List Ver} {s : Int} {k : Nat} (hu : upto vs s = k) (hk : k < vs.length) (ht : (vs.getD k ver0).tomb = false) : seen vs s = vs.getD k ver0 := by
  unfold seen; rw [seenB_of hu hk, ht, hu]; rfl
theorem left_lo {vs : List Ver} {f : Int} {k : Nat} (hk : k < nkept vs f) (ht : (vs.getD k ver0).ts ≤ f) : upto vs f = k ∧ (vs.getD k ver0).tomb = false ∧ k + 1 = nkept vs f := by
  have h1 := nk_lo vs f
  have h2 : ¬ k < upto vs f := fun h => by have := upto_lt vs f k h; omega
  have hu : upto vs f = k := by omega
  refine ⟨hu, ?_, by omega⟩
  unfold nkept at hk
  split at hk
  · rename_i h; rw [← hu]; exact h.2
  · omega
theorem left_no {vs : List Ver} (hl : LegalP vs) {f s : Int} (hfs : f ≤ s) {i : Nat} (hi : nkept vs f ≤ i) (hin : i < vs.length) (hs : seenB vs s = true) : (seen vs s).ts ≠ (vs.getD i ver0).ts := by
  have h0 : upto vs s < vs.length := by
    unfold seenB at hs; simp at hs; exact hs.1
  have hv : seen vs s = vs.getD (upto vs s) ver0 := by unfold seen; rw [if_pos hs]
  rw [hv]
  rcases place vs hfs with h | ⟨h1, h2, h3⟩
  · have := legal_desc hl (show upto vs s < i by omega) hin
    omega
  · have := h3 h0
    unfold seenB at hs; rw [this] at hs; simp at hs
/-- the four cells of a version, one behind the other -/
abbrev V4 (W : World) (g o : Nat) (v : Ver) : Prop := W.cell? ⟨g, o, none⟩ = some (.int .i64 v.w) ∧ W.cell? ⟨g, o + 1, none⟩ = some (.int .i64 v.ts) ∧ W.cell? ⟨g, o + 2, none⟩ = some (.bool v.tomb) ∧ W.cell? ⟨g, o + 3, none⟩ = some (.string v.val)
theorem VerAt.v4 {W : World} {g o : Nat} {v : Ver} (h : VerAt W g o v) : V4 W g o v := ⟨h.c0, h.c1, h.c2, h.c3⟩
abbrev V4z (W : World) (g : Nat) (v : Ver) : Prop := W.cell? ⟨g, 0, none⟩ = some (.int .i64 v.w) ∧ W.cell? ⟨g, 1, none⟩ = some (.int .i64 v.ts) ∧ W.cell? ⟨g, 2, none⟩ = some (.bool v.tomb) ∧ W.cell? ⟨g, 3, none⟩ = some (.string v.val)
theorem Blk.v4 {W : World} {B : Nat} {v : Ver} {t : TypeId} (h : Blk W B (vcells v) t) : V4z W B v := ⟨h.cell 0, h.cell 1, h.cell 2, h.cell 3⟩
theorem nev (a b : Int) (s : ByteArray) : (((0 : Int) == a) = false) ∨ (((0 : Int) == a) = true ∧ ((0 : Int) == b) = false) ∨ (((0 : Int) == a) = true ∧ ((0 : Int) == b) = true ∧ (false == true) = false) := by
  cases h1 : ((0 : Int) == a)
  · exact .inl rfl
  · cases h2 : ((0 : Int) == b)
    · exact .inr (.inl ⟨rfl, rfl⟩)
    · exact .inr (.inr ⟨rfl, rfl, rfl⟩)
end Go.Proofs.Yteelhldioaaffaa
