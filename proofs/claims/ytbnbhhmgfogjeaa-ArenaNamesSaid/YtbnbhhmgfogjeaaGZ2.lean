/- An arena of slots of 2; one of slots of 4096, all used. -/
import Derived.Test.YtbnbhhmgfogjeaaGX
namespace Go.Proofs.Ytbnbhhmgfogjeaa
open Go.ChangeShapes Go.WideShapes Go.ChangeAt Go.RowKit Go.Maps
set_option linter.unusedVariables false
set_option linter.unusedSimpArgs false

def tw0 : AS := (0, [], [])
def tw1 : AS := (alA 2 tw0).1
def tw2 : AS := wrA 2 1 ⟨#[97, 98, 99]⟩ tw1
def tw3 : AS := wrA 2 1 ⟨#[97, 98]⟩ tw2
def tw4 : AS := frA 2 tw3
def tw5 : AS := frA 1 tw4
def tw6 : AS := frA 1 tw5
def tw7 : AS := wrA 2 1 ⟨#[]⟩ tw6
theorem t0 : tw0.2.2.length < 1000000000 ∧ tw0.2.1.length = 0 ∧ isA tw0 0 = false ∧ frAE 0 tw0 = 5 ∧ frA 0 tw0 = tw0 := ⟨by decide +kernel, rfl, rfl, rfl, rfl⟩
theorem t1 : (alA 2 tw0).2 = (1, 0) := by decide +kernel
theorem t2 : isA tw1 1 = true := by decide +kernel
theorem t3 : (rdA 2 1 tw1).data.toList = (padT 2 ⟨#[]⟩).data.toList := by decide +kernel
theorem t3' : rdA 2 1 tw1 = padT 2 ⟨#[]⟩ := ByteArray.ext (Array.toList_inj.1 t3)
theorem t4 : wrAE 2 1 ⟨#[97, 98, 99]⟩ tw1 = 40 := by decide +kernel
theorem t5 : wrAE 2 1 ⟨#[97, 98]⟩ tw2 = 0 := by decide +kernel
theorem t6 : frAE 2 tw3 = 5 := by decide +kernel
theorem t7 : frAE 1 tw4 = 0 := by decide +kernel
theorem t8 : frAE 1 tw5 = 5 := by decide +kernel
theorem t9 : wrAE 2 1 ⟨#[]⟩ tw6 = 5 := by decide +kernel
theorem t10 : isA tw7 0 = false := by decide +kernel
theorem t11 : tw7.2.1.length = 1 := by decide +kernel
theorem t12 : usA tw7 = 0 := by decide +kernel
structure FI (k : Nat) (st : AS) : Prop where
  len : st.2.1.length = k
  full : ∀ i, i < k → fullP 4096 (st.2.1.getD i newP) = true
  gen : ∀ i, k ≤ i → i ≤ 4096 → gn.ofC st.2.2 (zOf i 0) = 0
  glen : st.2.2.length ≤ k
  is : ∀ i, i < k → isA st (zOf i 0 * 4294967296 + 1) = true
theorem FI.new : FI 0 (0, [], []) := ⟨rfl, (fun i h => absurd h (Nat.not_lt_zero i)), (fun _ _ _ => rfl), Nat.le_refl _, (fun i h => absurd h (Nat.not_lt_zero i))⟩
theorem FI.low {k : Nat} {st : AS} (h : FI k st) (hu : Pu 4096 st) : lowL 4096 st.1 st.2.1 = k := by
  have h1 := lowL_le (s := 4096) hu.2.2.1
  have h2 := (lowL_is 4096 st.2.1 _ st.1 rfl hu.2.2.1).2
  rw [h.len] at h1
  by_cases e : lowL 4096 st.1 st.2.1 < k
  · have h3 := h.full _ e
    have h4 := h2 (st.2.1.getD (lowL 4096 st.1 st.2.1) newP) (by rw [List.getD_eq_getElem?_getD, List.getElem?_eq_getElem (by rw [h.len]; exact e)]; rfl)
    rw [h4] at h3; cases h3
  · omega
theorem new_next : nextO 4096 newP = 0 := by unfold nextO newP; rfl
theorem new_full : fullP 4096 newP = false := by decide +kernel
theorem al_full : fullP 4096 (alS 4096 newP) = true := by decide +kernel
theorem FI.step {k : Nat} {st : AS} (h : FI k st) (hu : Pu 4096 st) (hk : k < 4096) : (alA 4096 st).2 = (zOf k 0 * 4294967296 + 1, 0) ∧ FI (k + 1) (alA 4096 st).1 := by
  have hlow := h.low hu
  have hlen := h.len
  have hal : alA 4096 st = putA 4096 k (st.2.1 ++ [newP]) st.2.2 := by
    unfold alA
    rw [hlow, hlen, if_neg (by omega), if_neg (by omega)]
  have hg : (st.2.1 ++ [newP]).getD k newP = newP := by
    rw [List.getD_eq_getElem?_getD, List.getElem?_append_right (by omega), hlen, Nat.sub_self]; rfl
  have hge : gn.ofC st.2.2 (zOf k 0) = 0 := h.gen k (Nat.le_refl _) (by omega)
  have hlt : k < (st.2.1 ++ [newP]).length := by rw [List.length_append, hlen]; simp
  have hl2 : (st.2.1 ++ [newP]).length ≤ 4096 := by rw [List.length_append, hlen]; simp only [List.length_cons, List.length_nil]; omega
  have hpk : PgOk 4096 newP := PgOk.new (by decide)
  have hrg : ∀ i, i ≤ 4096 → gn.rg (zOf i 0) := fun i hi => by show _ ∧ _; unfold zOf; omega
  have hst : (putA 4096 k (st.2.1 ++ [newP]) st.2.2).1 = (k, (st.2.1 ++ [newP]).set k (alS 4096 newP), gn.putC st.2.2 (zOf k 0) 1) := by
    unfold putA; rw [hg, new_next, hge]; rfl
  have hx : (putA 4096 k (st.2.1 ++ [newP]) st.2.2).2 = (zOf k 0 * 4294967296 + 1, 0) := by
    unfold putA; rw [hg, new_next, hge]; rfl
  rw [hal]
  refine ⟨hx, ?_, fun i hi => ?_, fun i hi hi2 => ?_, ?_, fun i hi => ?_⟩
  · rw [hst]; simp [hlen]
  · rw [hst]
    simp only
    rw [getD_set hlt]
    by_cases e : i = k
    · rw [if_pos e]; exact al_full
    · rw [if_neg e, List.getD_eq_getElem?_getD, List.getElem?_append_left (by omega), ← List.getD_eq_getElem?_getD]
      exact h.full i (by omega)
  · rw [hst]
    simp only
    rw [gn.of_put_ne hu.2.1 (hrg k (by omega)) (wf32 (by decide) (by decide)) (by unfold zOf; omega)]
    exact h.gen i (by omega) hi2
  · rw [hst]
    have := gn.len_put st.2.2 (zOf k 0) 1
    have := h.glen
    show (gn.putC st.2.2 (zOf k 0) 1).length ≤ _
    omega
  · have hmk := h_mk (hrg i (by omega)) (g := 1) (by decide) (by decide)
    rw [put_is hu.2.1 hlt hl2 (.inr ⟨rfl, hlen.symm⟩) (by rw [hg]; exact hpk) (by rw [hg]; exact new_full) hmk.2.2.1 hmk.2.2.2, hmk.1, hg, new_next, hge, hmk.2.1]
    by_cases e : i = k
    · rw [e, if_pos rfl]; decide
    · rw [if_neg (by unfold zOf; omega)]
      exact h.is i (by omega)
theorem FI.last {st : AS} (h : FI 4096 st) (hu : Pu 4096 st) : (alA 4096 st).2 = (0, 41) ∧ (alA 4096 st).1 = (4096, st.2.1, st.2.2) ∧ usA st = 4096 := by
  have hal : alA 4096 st = ((4096, st.2.1, st.2.2), 0, 41) := by
    unfold alA
    rw [h.low hu, h.len, if_neg (by decide), if_pos rfl]
  rw [hal]
  refine ⟨rfl, rfl, ?_⟩
  rw [us_sum, h.len, sum_full 4096 (by rw [h.len]; exact Nat.le_refl _) h.full]
/-- behind it: the seventh given back, and given again -/
theorem FI.again {st : AS} (h : FI 4096 st) (hu : Pu 4096 st) : frAE 1970324836974593 (4096, st.2.1, st.2.2) = 0 ∧ (Pu 4096 (4096, st.2.1, st.2.2) → (alA 4096 (frA 1970324836974593 (4096, st.2.1, st.2.2))).2 = (1970324836974594, 0) ∧ (alA 4096 (frA 1970324836974593 (4096, st.2.1, st.2.2))).1.2.1.length = 4096) := by
  have hi : isA (4096, st.2.1, st.2.2) 1970324836974593 = true := h.is 7 (by decide)
  refine ⟨by unfold frAE; rw [if_pos hi], fun hu2 => ?_⟩
  have hl := h.last hu
  have hlow : lowL 4096 4096 st.2.1 = 4096 := lowL_end (by rw [h.len]; exact Nat.le_refl _)
  have hal : (alA 4096 (4096, st.2.1, st.2.2)).2.2 = 41 := by
    unfold alA
    simp only
    rw [hlow, h.len, if_neg (by decide), if_pos rfl]
  have hx : hR 1970324836974593 := by unfold hR HM; decide
  have ha := again_hi (by decide) (by decide) hu2 hx hi (fun q => by rw [hal] at q; exact absurd q.1 (by decide))
  have hlf := low_freed hu2 hi
  simp only at hlf
  rw [hlow, if_neg (by decide)] at hlf
  refine ⟨Prod.ext (ha.2.trans (by decide)) ha.1, ?_⟩
  have hlen : (frA 1970324836974593 (4096, st.2.1, st.2.2)).2.1.length = 4096 := by rw [frA_yes hi]; simp only; rw [List.length_set, h.len]
  unfold alA
  rw [hlf, hlen, if_pos (by decide)]
  unfold putA
  simp only
  rw [List.length_set, hlen]
end Go.Proofs.Ytbnbhhmgfogjeaa
