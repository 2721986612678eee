/- What is given behind a Free. -/
import Derived.Test.YtbncpfkoeahhpaaGU
namespace Go.Proofs.Ytbncpfkoeahhpaa
open Go.ChangeShapes Go.WideShapes Go.ChangeAt Go.RowKit Go.Maps
set_option linter.unusedVariables false
set_option linter.unusedSimpArgs false

theorem lowL_eq {s low r : Nat} {L : List PS} (h0 : low ≤ L.length) (hr : low ≤ r) (hf : ∀ i, low ≤ i → i < r → ∃ P, L[i]? = some P ∧ fullP s P = true) (hn : ∃ P, L[r]? = some P ∧ fullP s P = false) : lowL s low L = r := by
  obtain ⟨h1, h2⟩ := lowL_is s L _ low rfl h0
  obtain ⟨P, hP, hPf⟩ := hn
  have hge := lowL_ge (s := s) (low := low) (L := L)
  rcases Nat.lt_trichotomy (lowL s low L) r with h | h | h
  · obtain ⟨Q, hQ, hQf⟩ := hf _ hge h
    rw [h2 Q hQ] at hQf; cases hQf
  · exact h
  · obtain ⟨Q, hQ, hQf⟩ := h1 r hr h
    rw [hP] at hQ; cases hQ
    rw [hPf] at hQf; cases hQf
theorem PgOk.cap {s : Nat} {P : PS} (h : PgOk s P) : P.2.1.length ≤ 4096 / s := by
  have hi : Inv s P.1 _ _ P.2.1 P.2.2.1 P.2.2.2 := h.inv
  have hs := hi.s2
  have := hi.ct
  have := (Nat.le_div_iff_mul_le (show 0 < s by omega)).2 hi.le
  omega
theorem PgOk.freed {s : Nat} {P : PS} (h : PgOk s P) {o : Int} (ho : isC P.2.1 o = true) : fullP s (frS o P) = false ∧ nextO s (frS o P) = o.toNat := by
  have hl := len_del h.up (is_mem.1 ho)
  have hc := h.cap
  unfold frS
  rw [if_pos ho]
  exact ⟨decide_eq_false (by simp only; omega), rfl⟩
theorem hP_mk {l k : Nat} {g : Int} (hl : l ≤ 65535) (hk : k ≤ 65535) (h0 : 0 ≤ g) (h1 : g ≤ 4294967295) : hP (zOf l k * 4294967296 + g) = l := by unfold hP zOf; omega
theorem putA_rg {s l : Nat} {L : List PS} {G : List gn.Ct} (hl : l ≤ 4095) (kn : nextO s (L.getD l newP) + s ≤ 4096) : hR (putA s l L G).2.1 ∧ hP (putA s l L G).2.1 = l ∧ (putA s l L G).2.2 = 0 := by
  have hm : 0 ≤ (gn.ofC G (zOf l (nextO s (L.getD l newP))) + 1) % 4294967296 ∧ (gn.ofC G (zOf l (nextO s (L.getD l newP))) + 1) % 4294967296 ≤ 4294967295 := by omega
  refine ⟨?_, hP_mk (by omega) (by omega) hm.1 hm.2, rfl⟩
  unfold putA
  simp only
  exact (h_mk (show gn.rg (zOf l (nextO s (L.getD l newP))) from by show _ ∧ _; unfold zOf; omega) hm.1 hm.2).2.2
theorem alA_rg {s : Nat} {st : AS} (h2 : 2 ≤ s) (h4 : s ≤ 4096) (hu : Pu s st) : hR (alA s st).2.1 := by
  rcases alA_cases h2 h4 hu.1 hu.2.2.1 hu.2.2.2 with e | ⟨l, L, e, _, h5, h6, h7, h8, h9⟩
  · rw [e]; exact ⟨Int.le_refl _, (by decide : (0 : Int) ≤ HM)⟩
  · rw [e]; exact (putA_rg (by omega) (h8.next h9).1).1
/-- where the next one is -/
theorem alA_low {s : Nat} {st : AS} (h2 : 2 ≤ s) (h4 : s ≤ 4096) (hu : Pu s st) : ((alA s st).2.2 = 0 ∧ hP (alA s st).2.1 = lowL s st.1 st.2.1) ∨ ((alA s st).2.2 ≠ 0 ∧ lowL s st.1 st.2.1 = st.2.1.length) := by
  rcases alA_cases h2 h4 hu.1 hu.2.2.1 hu.2.2.2 with e | ⟨l, L, e, el, h5, h6, h7, h8, h9⟩
  · by_cases hl : lowL s st.1 st.2.1 < st.2.1.length
    · have : (alA s st).2.2 = 0 := by unfold alA; rw [if_pos hl]; rfl
      rw [e] at this; cases this
    · rw [e]
      exact .inr ⟨(by decide : (41 : Int) ≠ 0), by have := lowL_le (s := s) hu.2.2.1; omega⟩
  · rw [e, ← el]
    exact .inl ⟨rfl, (putA_rg (by omega) (h8.next h9).1).2.1⟩
section
variable {s : Nat} {st : AS} {x : Int}
theorem frA_yes (hi : isA st x = true) : frA x st = (min st.1 (hP x), st.2.1.set (hP x) (frS (hO x) (st.2.1.getD (hP x) newP)), st.2.2) := by unfold frA; rw [if_pos hi]
theorem frA_G : (frA x st).2.2 = st.2.2 := by unfold frA; split <;> rfl
/-- behind a Free: the first page that has room -/
theorem low_freed (hu : Pu s st) (hi : isA st x = true) : lowL s (frA x st).1 (frA x st).2.1 = if lowL s st.1 st.2.1 < hP x then lowL s st.1 st.2.1 else hP x := by
  have hp := is_parts hi
  have hle := hu.2.2.1
  have his := lowL_is s st.2.1 _ st.1 rfl hle
  have hge := lowL_ge (s := s) (low := st.1) (L := st.2.1)
  have hfr := (hu.1 _ (getD_mem hp.1)).freed hp.2.1
  have hset : ∀ i, i ≠ hP x → (st.2.1.set (hP x) (frS (hO x) (st.2.1.getD (hP x) newP)))[i]? = st.2.1[i]? := fun i hne => by rw [List.getElem?_set, if_neg (Ne.symm hne)]
  rw [frA_yes hi]
  simp only
  by_cases h : lowL s st.1 st.2.1 < hP x
  · rw [if_pos h, Nat.min_eq_left (by omega)]
    refine lowL_eq (by rw [List.length_set]; exact hle) hge (fun i h1 h2 => ?_) ?_
    · rw [hset i (by omega)]; exact his.1 i h1 h2
    · rw [hset _ (by omega)]
      have hl : lowL s st.1 st.2.1 < st.2.1.length := by omega
      exact ⟨_, List.getElem?_eq_getElem hl, his.2 _ (List.getElem?_eq_getElem hl)⟩
  · rw [if_neg h]
    refine lowL_eq (by rw [List.length_set]; omega) (Nat.min_le_right _ _) (fun i h1 h2 => ?_) ?_
    · rw [hset i (by omega)]
      exact his.1 i (by omega) (by omega)
    · exact ⟨_, by rw [List.getElem?_set, if_pos rfl, if_pos hp.1], hfr.1⟩
theorem again_lo (h2 : 2 ≤ s) (h4 : s ≤ 4096) (hu : Pu s st) (hx : hR x) (hi : isA st x = true) (he : (alA s st).2.2 = 0) (hlt : hP (alA s st).2.1 < hP x) : (alA s (frA x st)).2.2 = 0 ∧ hP (alA s (frA x st)).2.1 ≠ hP x := by
  have hp := is_parts hi
  have hl0 : hP (alA s st).2.1 = lowL s st.1 st.2.1 := by
    rcases alA_low h2 h4 hu with h | h
    · exact h.2
    · exact absurd he h.1
  have hlf := low_freed hu hi
  rw [hl0] at hlt
  rw [if_pos hlt] at hlf
  have hlen : (frA x st).2.1.length = st.2.1.length := by rw [frA_yes hi]; simp only; rw [List.length_set]
  have hal : alA s (frA x st) = putA s (lowL s st.1 st.2.1) (frA x st).2.1 (frA x st).2.2 := by
    unfold alA
    rw [hlf, if_pos (by omega)]
  have hl := hu.2.2.2
  have hg : (frA x st).2.1.getD (lowL s st.1 st.2.1) newP = st.2.1.getD (lowL s st.1 st.2.1) newP := by
    rw [frA_yes hi]; simp only; rw [getD_set hp.1, if_neg (by omega)]
  have hlt2 : lowL s st.1 st.2.1 < st.2.1.length := by omega
  have hnf : fullP s (st.2.1.getD (lowL s st.1 st.2.1) newP) = false := (lowL_is s st.2.1 _ st.1 rfl hu.2.2.1).2 _ (by rw [List.getElem?_eq_getElem hlt2, List.getD_eq_getElem?_getD, List.getElem?_eq_getElem hlt2]; rfl)
  have hr := putA_rg (s := s) (l := lowL s st.1 st.2.1) (L := (frA x st).2.1) (G := (frA x st).2.2) (by omega) (by rw [hg]; exact ((hu.1 _ (getD_mem hlt2)).next hnf).1)
  rw [hal]
  exact ⟨hr.2.2, by rw [hr.2.1]; omega⟩
theorem again_hi (h2 : 2 ≤ s) (h4 : s ≤ 4096) (hu : Pu s st) (hx : hR x) (hi : isA st x = true) (hn : ¬ ((alA s st).2.2 = 0 ∧ hP (alA s st).2.1 < hP x)) : (alA s (frA x st)).2.2 = 0 ∧ (alA s (frA x st)).2.1 = hZ x * 4294967296 + (hG x + 1) % 4294967296 := by
  have hp := is_parts hi
  have hlf := low_freed hu hi
  have hnl : ¬ lowL s st.1 st.2.1 < hP x := fun h => by
    rcases alA_low h2 h4 hu with h5 | h5
    · exact hn ⟨h5.1, by rw [h5.2]; exact h⟩
    · have := h5.2; have := hp.1; omega
  rw [if_neg hnl] at hlf
  have hlen : (frA x st).2.1.length = st.2.1.length := by rw [frA_yes hi]; simp only; rw [List.length_set]
  have hal : alA s (frA x st) = putA s (hP x) (frA x st).2.1 (frA x st).2.2 := by
    unfold alA
    rw [hlf, if_pos (by have := hp.1; omega)]
  have hg : (frA x st).2.1.getD (hP x) newP = frS (hO x) (st.2.1.getD (hP x) newP) := by
    rw [frA_yes hi]; simp only; rw [getD_set hp.1, if_pos rfl]
  have hno := ((hu.1 _ (getD_mem hp.1)).freed hp.2.1).2
  have hz : zOf (hP x) (hO x).toNat = hZ x := by
    have := h_z hx.1 hx.2
    have := (h_parts hx.1 hx.2).2.1
    unfold zOf
    omega
  rw [hal]
  unfold putA
  simp only
  rw [hg, hno, hz, frA_G, hp.2.2]
  refine ⟨?_, ?_⟩ <;> first | trivial | rfl
end
end Go.Proofs.Ytbncpfkoeahhpaa
