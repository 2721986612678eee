/- What a step does to the writers: nothing, or one turns. -/
import Derived.Test.YtmkgipbepipjkaaDoorM
namespace Go.Proofs.YtmkgipbepipjkaaDoor
open Go.ChangeShapes Go.WideShapes Go.ChangeAt Go.RowKit
set_option linter.unusedVariables false
set_option linter.unusedSimpArgs false

theorem ofL_set {L : List Wr} {k : Nat} (hk : k < L.length) (x : Wr) (w : Int) : ofL (L.set k x) w = if w = (k : Int) + 1 then x else ofL L w := by
  unfold ofL
  rw [List.length_set]
  by_cases h : 1 ≤ w ∧ w ≤ L.length
  · rw [if_pos h, if_pos h, getD_set L k _ x hk]
    by_cases h2 : w = (k : Int) + 1
    · rw [if_pos h2, if_pos (by omega)]
    · rw [if_neg h2, if_neg (by omega)]
  · rw [if_neg h, if_neg h, if_neg (by omega)]
theorem ofL_app (L : List Wr) (x : Wr) (w : Int) : ofL (L ++ [x]) w = if w = (L.length : Int) + 1 then x else ofL L w := by
  unfold ofL
  simp only [List.length_append, List.length_singleton]
  by_cases h : 1 ≤ w ∧ w ≤ L.length
  · rw [if_pos h, if_pos (by omega), if_neg (by omega), List.getD_eq_getElem?_getD, List.getElem?_append_left (by omega), ← List.getD_eq_getElem?_getD]
  · rw [if_neg h]
    by_cases h2 : w = (L.length : Int) + 1
    · subst h2
      rw [if_pos (by omega), if_pos rfl, List.getD_eq_getElem?_getD, List.getElem?_append_right (by omega)]
      simp
    · rw [if_neg h2, if_neg (by omega)]
/-- nothing, or one writer turns -/
def StepD (L : List Wr) (la : Int) (M : List Wr) (lb ee : Int) : Prop :=
  (M = L ∧ lb = la ∧ ee ≠ 0) ∨ (ee = 0 ∧ ∃ j : Int, 1 ≤ j ∧ j ≤ (L.length : Int) + 1 ∧ (∀ w, w ≠ j → ofL M w = ofL L w) ∧ (ofL L j).1 < (ofL M j).1 ∧ (ofL L j).1 < 3 ∧ ((ofL M j).2 = 0 ∧ lb = la ∨ la < (ofL M j).2 ∧ (ofL M j).1 = 3 ∧ lb = (ofL M j).2))
theorem turn_d {L : List Wr} {la w st ts : Int} (h : ts = 0 ∨ st = 3) (h0 : 0 ≤ la) : StepD L la (turnS L la w st ts) (turnT L la w st ts) (turnE L la w st ts) := by
  by_cases he : turnE L la w st ts = 0
  · right
    refine ⟨he, w, ?_⟩
    unfold turnS turnT
    rw [if_pos he, if_pos he]
    unfold turnE at he
    by_cases c1 : w < 1 ∨ (L.length : Int) < w
    · rw [if_pos c1] at he; cases he
    rw [if_neg c1] at he
    by_cases c2 : canB (ofL L w).1 st = false
    · rw [if_pos c2] at he; cases he
    rw [if_neg c2] at he
    by_cases c3 : ts ≠ 0 ∧ (ts ≤ la ∨ 1048576 < ts)
    · rw [if_pos c3] at he; cases he
    have hk : (w - 1).toNat < L.length := by omega
    have hw : ((w - 1).toNat : Int) + 1 = w := by omega
    have hat : ofL (L.set (w - 1).toNat (st, ts)) w = (st, ts) := by rw [ofL_set hk, hw, if_pos rfl]
    have hc : canB (ofL L w).1 st = true := by simpa using c2
    have hcc : ((ofL L w).1 = 1 ∧ (st = 2 ∨ st = 3)) ∨ ((ofL L w).1 = 2 ∧ st = 4) := by
      unfold canB at hc
      simpa using hc
    refine ⟨by omega, by omega, fun v hv => ?_, ?_, ?_, ?_⟩
    · rw [ofL_set hk, hw, if_neg hv]
    · rw [hat]; show _ < st; omega
    · omega
    · rw [hat]
      show ts = 0 ∧ _ ∨ la < ts ∧ st = 3 ∧ _
      rcases h with rfl | rfl
      · left; omega
      · by_cases z : ts = 0
        · left; omega
        · right; omega
  · left
    unfold turnS turnT
    rw [if_neg he, if_neg he]
    exact ⟨rfl, rfl, he⟩
theorem do_d {L : List Wr} {la : Int} (wh i ts : Int) (h0 : 0 ≤ la) : StepD L la (doS L la wh i ts) (doT L la wh i ts) (doE L la wh i ts) := by
  unfold doS doT doE
  by_cases c0 : wh = 0
  · rw [if_pos c0, if_pos c0, if_pos c0]
    have hat : ofL (L ++ [wz]) ((L.length : Int) + 1) = wz := by rw [ofL_app, if_pos rfl]
    have hb : ofL L ((L.length : Int) + 1) = w0r := of_out (.inr (by omega))
    refine .inr ⟨rfl, (L.length : Int) + 1, by omega, by omega, fun v hv => ?_, ?_, ?_, .inl ⟨?_, rfl⟩⟩
    · rw [ofL_app, if_neg hv]
    · rw [hat, hb]; decide
    · rw [hb]; decide
    · rw [hat]; rfl
  · rw [if_neg c0, if_neg c0, if_neg c0]
    by_cases c1 : wh = 1
    · rw [if_pos c1, if_pos c1, if_pos c1]; exact turn_d (.inr rfl) h0
    · rw [if_neg c1, if_neg c1, if_neg c1]
      by_cases c2 : wh = 2
      · rw [if_pos c2, if_pos c2, if_pos c2]; exact turn_d (.inl rfl) h0
      · rw [if_neg c2, if_neg c2, if_neg c2]
        by_cases c3 : wh = 3
        · rw [if_pos c3, if_pos c3, if_pos c3]; exact turn_d (.inl rfl) h0
        · rw [if_neg c3, if_neg c3, if_neg c3]; exact turn_d (.inr rfl) h0
/-- who has a timestamp is done; none is later than the last one; no two have the same -/
structure Good (L : List Wr) (la : Int) : Prop where
  three : ∀ w, (ofL L w).2 ≠ 0 → (ofL L w).1 = 3
  le : ∀ w, (ofL L w).2 ≤ la
  ne : ∀ v w, v ≠ w → (ofL L v).2 = (ofL L w).2 → (ofL L v).2 = 0
theorem Good.nil : Good [] 0 := by
  have h : ∀ w, ofL [] w = w0r := fun w => of_out (by simp; omega)
  exact ⟨fun w e => absurd (by rw [h]) e, fun w => by rw [h]; decide, fun v w _ _ => by rw [h]⟩
section
variable {L M : List Wr} {la lb ee : Int}
theorem StepD.zero (g : Good L la) {j : Int} (h : (ofL L j).1 < 3) : (ofL L j).2 = 0 := by
  by_cases e : (ofL L j).2 = 0
  · exact e
  · have := g.three j e; omega
theorem StepD.good (h : StepD L la M lb ee) (g : Good L la) (h0 : 0 ≤ la) : Good M lb := by
  rcases h with ⟨rfl, rfl, _⟩ | ⟨_, j, _, _, hs, _, _, hx⟩
  · exact g
  · refine ⟨fun w e => ?_, fun w => ?_, fun v w hvw e => ?_⟩
    · by_cases hw : w = j
      · subst hw
        rcases hx with ⟨x, _⟩ | ⟨_, x, _⟩
        · exact absurd x e
        · exact x
      · rw [hs w hw] at e ⊢; exact g.three w e
    · by_cases hw : w = j
      · subst hw; omega
      · rw [hs w hw]; have := g.le w; omega
    · by_cases hv : v = j
      · subst hv
        have hw : w ≠ v := fun e => hvw e.symm
        rw [hs w hw] at e
        have := g.le w
        omega
      · by_cases hw : w = j
        · subst hw
          rw [hs v hv] at e ⊢
          have := g.le v
          omega
        · rw [hs v hv, hs w hw] at e
          rw [hs v hv]
          exact g.ne v w hvw e
theorem StepD.la_le (h : StepD L la M lb ee) : la ≤ lb := by
  rcases h with ⟨rfl, rfl, _⟩ | ⟨_, j, _, _, hs, _, _, hx⟩ <;> omega
/-- what is seen of one writer -/
theorem StepD.at (h : StepD L la M lb ee) (g : Good L la) (h0 : 0 ≤ la) (w : Int) : ¬ (ofL M w).1 < (ofL L w).1 ∧ ((ofL L w).2 ≠ 0 → (ofL M w).2 = (ofL L w).2) ∧ ((ofL M w).2 ≠ 0 → (ofL M w).1 = 3) ∧ ((ofL L w).1 ≠ (ofL M w).1 → (ofL M w).2 ≠ 0 → la < (ofL M w).2) := by
  have gm := StepD.good h g h0
  refine ⟨?_, ?_, gm.three w, ?_⟩
  all_goals rcases h with ⟨rfl, rfl, _⟩ | ⟨_, j, _, _, hs, h1, h2, hx⟩
  · omega
  · by_cases hw : w = j
    · subst hw; omega
    · rw [hs w hw]; omega
  · intro; rfl
  · by_cases hw : w = j
    · subst hw
      intro e
      exact absurd (StepD.zero g h2) e
    · rw [hs w hw]; intro; rfl
  · intro e; exact absurd rfl e
  · by_cases hw : w = j
    · subst hw; omega
    · rw [hs w hw]; intro e; exact absurd rfl e
/-- how many of the first k turned -/
def chg (L M : List Wr) : Nat → Nat
  | 0 => 0
  | k + 1 => if (ofL L (k : Int)).1 = (ofL M (k : Int)).1 then chg L M k else chg L M k + 1
theorem chg_same (L : List Wr) : ∀ k, chg L L k = 0
  | 0 => rfl
  | k + 1 => by unfold chg; rw [if_pos rfl]; exact chg_same L k
theorem chg_one {j : Int} (h1 : 1 ≤ j) (hs : ∀ w, w ≠ j → ofL M w = ofL L w) (hj : (ofL L j).1 < (ofL M j).1) : ∀ k : Nat, chg L M k = if j < (k : Int) then 1 else 0
  | 0 => by rw [if_neg (by simp; omega)]; rfl
  | k + 1 => by
    unfold chg
    rw [chg_one h1 hs hj k]
    by_cases e : (k : Int) = j
    · rw [e, if_neg (by omega), if_neg (by omega), if_pos (by omega)]
    · rw [hs _ e, if_pos rfl]
      by_cases c : j < (k : Int)
      · rw [if_pos c, if_pos (by omega)]
      · rw [if_neg c, if_neg (by omega)]
theorem StepD.le1 (h : StepD L la M lb ee) (k : Nat) : chg L M k ≤ 1 := by
  rcases h with ⟨rfl, rfl, _⟩ | ⟨_, j, h1, _, hs, h2, _, hx⟩
  · rw [chg_same]; omega
  · rw [chg_one h1 hs h2]; split <;> omega
theorem StepD.all (h : StepD L la M lb ee) {k : Nat} (hk : k = L.length + 2) : (ee = 0 ∧ chg L M k = 1) ∨ (ee ≠ 0 ∧ chg L M k = 0) := by
  rcases h with ⟨rfl, rfl, h0⟩ | ⟨h0, j, h1, h3, hs, h2, _, hx⟩
  · exact .inr ⟨h0, chg_same _ _⟩
  · exact .inl ⟨h0, by rw [chg_one h1 hs h2, if_pos (by omega)]⟩
end
end Go.Proofs.YtmkgipbepipjkaaDoor
