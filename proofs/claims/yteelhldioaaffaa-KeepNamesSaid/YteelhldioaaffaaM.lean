/- What is kept, and what is seen of it. -/
import Derived.Test.YteelhldioaaffaaP
namespace Go.Proofs.Yteelhldioaaffaa
set_option linter.unusedVariables false
set_option linter.unusedSimpArgs false
theorem getD_take (vs : List Ver) (m j : Nat) (h : j < m) : (vs.take m).getD j ver0 = vs.getD j ver0 := by
  rw [List.getD_eq_getElem?_getD, List.getElem?_take_of_lt h, ← List.getD_eq_getElem?_getD]
theorem upto_take (vs : List Ver) (m : Nat) (s : Int) (hm : m ≤ vs.length) : upto (vs.take m) s = min (upto vs s) m := by
  refine upto_eq _ _ _ (by rw [List.length_take]; omega) (fun j hj => ?_) (fun h => ?_)
  · rw [getD_take vs m j (by omega)]
    exact upto_lt vs s j (by omega)
  · rw [List.length_take] at h
    rw [getD_take vs m _ (by omega), Nat.min_eq_left (by omega)]
    exact upto_at vs s (by omega)
theorem upto_anti (vs : List Ver) {f s : Int} (h : f ≤ s) : upto vs s ≤ upto vs f := by
  by_cases hc : upto vs s ≤ upto vs f
  · exact hc
  · have h1 := upto_lt vs s (upto vs f) (by omega)
    have h2 := upto_at vs f (by have := upto_le vs s; omega)
    omega
theorem nk_lo (vs : List Ver) (f : Int) : upto vs f ≤ nkept vs f ∧ nkept vs f ≤ upto vs f + 1 := by unfold nkept; split <;> omega
theorem kept_len (vs : List Ver) (f : Int) : (kept vs f).length = nkept vs f := by
  have := nkept_le vs f
  unfold kept; rw [List.length_take]; omega
theorem upto_kept (vs : List Ver) {f s : Int} (h : f ≤ s) : upto (kept vs f) s = upto vs s := by
  have h1 := upto_anti vs h
  have h2 := nk_lo vs f
  unfold kept; rw [upto_take vs _ s (nkept_le vs f)]; omega
/-- the place that a later snapshot finds: kept, or a tomb, or none -/
theorem place (vs : List Ver) {f s : Int} (h : f ≤ s) : upto vs s < nkept vs f ∨ (upto vs s = nkept vs f ∧ upto vs s = upto vs f ∧ (upto vs s < vs.length → (vs.getD (upto vs s) ver0).tomb = true)) := by
  have h1 := upto_anti vs h
  have h2 := nk_lo vs f
  by_cases hl : upto vs s < nkept vs f
  · exact .inl hl
  · have e1 : upto vs s = upto vs f := by omega
    refine .inr ⟨by omega, e1, fun hlt => ?_⟩
    cases ht : (vs.getD (upto vs s) ver0).tomb with
    | true => rfl
    | false =>
      exfalso
      have : nkept vs f = upto vs f + 1 := by unfold nkept; rw [if_pos ⟨by omega, by rw [← e1]; exact ht⟩]
      omega
theorem seenB_kept (vs : List Ver) {f s : Int} (h : f ≤ s) : seenB (kept vs f) s = seenB vs s := by
  have hn := nkept_le vs f
  have hu := upto_le vs s
  unfold seenB
  rw [upto_kept vs h, kept_len]
  rcases place vs h with h1 | ⟨h1, h2, h3⟩
  · have : (kept vs f).getD (upto vs s) ver0 = vs.getD (upto vs s) ver0 := getD_take vs _ _ h1
    rw [this]; simp [h1, Nat.lt_of_lt_of_le h1 hn]
  · by_cases hl : upto vs s < vs.length
    · rw [h3 hl]; simp [h1]
    · simp [h1, hl]; omega
theorem seen_kept (vs : List Ver) {f s : Int} (h : f ≤ s) : seen (kept vs f) s = seen vs s := by
  unfold seen
  rw [seenB_kept vs h, upto_kept vs h]
  by_cases hs : seenB vs s = true
  · rw [if_pos hs, if_pos hs]
    rcases place vs h with h1 | ⟨h1, h2, h3⟩
    · exact getD_take vs _ _ h1
    · exfalso
      unfold seenB at hs
      by_cases hl : upto vs s < vs.length
      · rw [h3 hl] at hs; simp at hs
      · simp [hl] at hs
  · rw [if_neg hs, if_neg hs]
theorem clash_kept (vs : List Ver) {f s : Int} (h : f ≤ s) : clashB (kept vs f) s = clashB vs s := by
  have hn := nkept_le vs f
  have h2 := nk_lo vs f
  unfold clashB
  rw [kept_len]
  by_cases h0 : 0 < nkept vs f
  · have : (kept vs f).getD 0 ver0 = vs.getD 0 ver0 := getD_take vs _ _ h0
    rw [this, decide_eq_decide]
    constructor <;> exact fun e => ⟨by omega, e.2⟩
  · rw [decide_eq_decide]
    refine ⟨fun e => absurd e.1 h0, fun e => ?_⟩
    exfalso
    have h3 : upto vs f = 0 := by omega
    have h4 := upto_at vs f (by omega)
    rw [h3] at h4
    omega
theorem nkept_kept (vs : List Ver) {f g : Int} (h : f ≤ g) : nkept (kept vs f) g = nkept vs g := by
  have hn := nkept_le vs f
  unfold nkept
  rw [upto_kept vs h, kept_len]
  rcases place vs h with h1 | ⟨h1, h2, h3⟩
  · have : (kept vs f).getD (upto vs g) ver0 = vs.getD (upto vs g) ver0 := getD_take vs _ _ h1
    rw [this]; simp [h1, Nat.lt_of_lt_of_le h1 hn]
  · rw [if_neg (fun e => by omega), if_neg (fun e => by have := h3 e.1; rw [this] at e; exact absurd e.2 (by decide))]
theorem nkept_anti (vs : List Ver) {f g : Int} (h : f ≤ g) : nkept vs g ≤ nkept vs f := by
  have h2 := nk_lo vs g
  rcases place vs h with h1 | ⟨h1, _, h3⟩
  · omega
  · have : nkept vs g = upto vs g := by
      unfold nkept
      rw [if_neg (fun e => by have := h3 e.1; rw [this] at e; exact absurd e.2 (by decide))]
    omega
theorem kept_kept (vs : List Ver) {f g : Int} (h : f ≤ g) : kept (kept vs f) g = kept vs g := by
  have h1 := nkept_anti vs h
  show (kept vs f).take (nkept (kept vs f) g) = vs.take (nkept vs g)
  rw [nkept_kept vs h]
  unfold kept
  rw [List.take_take, Nat.min_eq_left h1]
theorem legal_take {vs : List Ver} (h : LegalP vs) (m : Nat) : LegalP (vs.take m) := fun k hk => by
  rw [List.length_take] at hk
  have := h k (by omega)
  rw [getD_take vs m k (by omega)]
  refine ⟨this.1, fun h0 => ?_⟩
  rw [getD_take vs m (k - 1) (by omega)]
  exact this.2 h0
theorem legal_kept {vs : List Ver} (h : LegalP vs) (f : Int) : LegalP (kept vs f) := legal_take h _
theorem legal_lt {vs : List Ver} (h : LegalP vs) (i : Nat) : ∀ d, i + d + 1 < vs.length → (vs.getD (i + d + 1) ver0).ts < (vs.getD i ver0).ts
  | 0, hl => (h (i + 1) hl).2 (by omega)
  | d + 1, hl => by
    have h1 := legal_lt h i d (by omega)
    have h2 := (h (i + (d + 1) + 1) hl).2 (by omega)
    rw [show i + (d + 1) + 1 - 1 = i + d + 1 from by omega] at h2
    omega
theorem legal_desc {vs : List Ver} (h : LegalP vs) {i j : Nat} (hij : i < j) (hj : j < vs.length) : (vs.getD j ver0).ts < (vs.getD i ver0).ts := by
  have := legal_lt h i (j - i - 1) (by omega)
  rwa [show i + (j - i - 1) + 1 = j from by omega] at this
theorem upto_own {vs : List Ver} (h : LegalP vs) {i : Nat} (hi : i < vs.length) : upto vs (vs.getD i ver0).ts = i :=
  upto_eq vs _ i (Nat.le_of_lt hi) (fun j hj => legal_desc h hj hi) (fun _ => Int.le_refl _)
end Go.Proofs.Yteelhldioaaffaa
