/- What is left out one behind the other, the greatest calls first: what holds on the way. Rows of places of the call's own, written over. -/
import Derived.Test.YtgbcncfgpdlmiaaML
import Derived.Test.YtgbcncfgpdlmiaaGV
namespace Go.Proofs.Ytgbcncfgpdlmiaa
open Go.ChangeShapes Go.WideShapes Go.ChangeAt Go.RowKit Go.Maps
set_option linter.unusedVariables false
set_option linter.unusedSimpArgs false

/-- Q: the places as they are now; S: which ones were left out; down to call c, of which the places ahead of i were looked at -/
structure IV (P : List Pl) (m : Nat) (n c : Int) (i : Nat) (Q S : List Pl) : Prop where
  pl : P.length = m
  ql : Q.length = m
  nd : S.Nodup
  lo : ∀ p ∈ S, c ≤ p.2
  mem : ∀ p ∈ S, p ∈ P
  at' : ∀ (j : Nat) (p : Pl), P[j]? = some p → Q[j]? = some p ∨ (p ∈ S ∧ Q[j]? = some (p.1, -1))
  hi : ∀ p ∈ P, c < p.2 → p.2 ≤ n → p ∈ S
  now : ∀ (j : Nat) (p : Pl), j < i → P[j]? = some p → p.2 = c → p ∈ S
  fr : ∀ (j : Nat) (p : Pl), i ≤ j → Q[j]? = some p → p.2 = c → p ∉ S
theorem IV.start (P : List Pl) (n : Int) : IV P P.length n n 0 P [] :=
  ⟨rfl, rfl, List.nodup_nil, (fun p h => by cases h), (fun p h => by cases h), fun j p h => Or.inl h, (fun p _ h1 h2 => by omega), fun j p h => absurd h (Nat.not_lt_zero _), (fun j p _ _ _ h => by cases h)⟩
theorem IV.skip {P Q S : List Pl} {m i : Nat} {n c : Int} {q : Pl} (h : IV P m n c i Q S) (hq : Q[i]? = some q) (hc : q.2 ≠ c) : IV P m n c (i + 1) Q S :=
  { h with
    now := fun j p hj hp h2 => by
      by_cases e : j = i
      · subst e
        rcases h.at' j p hp with h3 | h3
        · rw [hq] at h3
          have := Option.some.inj h3
          subst this
          exact absurd h2 hc
        · exact h3.1
      · exact h.now j p (by omega) hp h2
    fr := fun j p hj => h.fr j p (by omega) }
/-- the same place behind it is written over, up to k -/
def MkI (Q : List Pl) (z : Pl) (i k : Nat) (X : List Pl) : Prop := X.length = Q.length ∧ ∀ j : Nat, X[j]? = if i < j ∧ j < k ∧ Q[j]? = some z then some (z.1, -1) else Q[j]?
theorem MkI.start (Q : List Pl) (z : Pl) (i : Nat) : MkI Q z i (i + 1) Q := ⟨rfl, fun j => by rw [if_neg (by omega)]⟩
theorem MkI.same {Q X : List Pl} {z : Pl} {i k : Nat} (h : MkI Q z i k X) {j : Nat} (hj : j ≤ i ∨ k ≤ j) : X[j]? = Q[j]? := by rw [h.2 j, if_neg (by omega)]
theorem MkI.yes {Q X : List Pl} {z : Pl} {i k : Nat} (h : MkI Q z i k X) (hq : Q[k]? = some z) (hi : i < k) : MkI Q z i (k + 1) (X.set k (z.1, -1)) := by
  refine ⟨by rw [List.length_set]; exact h.1, fun j => ?_⟩
  by_cases e : k = j
  · subst e
    rw [List.getElem?_set_self (by rw [h.1]; exact (List.getElem?_eq_some_iff.1 hq).1), if_pos ⟨hi, by omega, hq⟩]
  · rw [List.getElem?_set_ne e, h.2 j]
    by_cases h2 : i < j ∧ j < k ∧ Q[j]? = some z
    · rw [if_pos h2, if_pos ⟨h2.1, by omega, h2.2.2⟩]
    · rw [if_neg h2, if_neg (fun h3 => h2 ⟨h3.1, by omega, h3.2.2⟩)]
theorem MkI.no {Q X : List Pl} {z : Pl} {i k : Nat} (h : MkI Q z i k X) (hq : Q[k]? ≠ some z) : MkI Q z i (k + 1) X := by
  refine ⟨h.1, fun j => ?_⟩
  rw [h.2 j]
  by_cases e : j = k
  · subst e
    rw [if_neg (fun h3 => hq h3.2.2), if_neg (fun h3 => hq h3.2.2)]
  · by_cases h2 : i < j ∧ j < k ∧ Q[j]? = some z
    · rw [if_pos h2, if_pos ⟨h2.1, by omega, h2.2.2⟩]
    · rw [if_neg h2, if_neg (fun h3 => h2 ⟨h3.1, by omega, h3.2.2⟩)]
theorem IV.hit {P Q S X : List Pl} {m i : Nat} {n c : Int} {z : Pl} (h : IV P m n c i Q S) (hq : Q[i]? = some z) (hc : z.2 = c) (h0 : 0 ≤ c) (hx : MkI Q z i m X) : IV P m n c (i + 1) X (z :: S) := by
  have hz : z ∉ S := h.fr i z (Nat.le_refl _) hq hc
  have him : i < m := by rw [← h.ql]; exact (List.getElem?_eq_some_iff.1 hq).1
  have hPi : ∃ p, P[i]? = some p := ⟨_, List.getElem?_eq_getElem (by rw [h.pl]; exact him)⟩
  obtain ⟨p0, hp0⟩ := hPi
  have hzp : z = p0 := by
    rcases h.at' i p0 hp0 with h1 | h1
    · rw [hq] at h1; exact Option.some.inj h1
    · rw [hq] at h1
      have := Option.some.inj h1.2
      rw [this] at hc
      simp only at hc
      omega
  subst hzp
  refine ⟨h.pl, by rw [hx.1, h.ql], List.nodup_cons.2 ⟨hz, h.nd⟩, ?_, ?_, ?_, ?_, ?_, ?_⟩
  · intro p hp
    rcases List.mem_cons.1 hp with rfl | hp
    · omega
    · exact h.lo p hp
  · intro p hp
    rcases List.mem_cons.1 hp with rfl | hp
    · exact List.mem_of_getElem? hp0
    · exact h.mem p hp
  · intro j p hp
    rw [hx.2 j]
    by_cases h2 : i < j ∧ j < m ∧ Q[j]? = some z
    · rw [if_pos h2]
      rcases h.at' j p hp with h3 | h3
      · rw [h2.2.2] at h3
        have := Option.some.inj h3
        subst this
        exact Or.inr ⟨List.mem_cons_self .., rfl⟩
      · rw [h2.2.2] at h3
        have := Option.some.inj h3.2
        rw [this] at hc
        simp only at hc
        omega
    · rw [if_neg h2]
      rcases h.at' j p hp with h3 | h3
      · exact Or.inl h3
      · exact Or.inr ⟨List.mem_cons_of_mem _ h3.1, h3.2⟩
  · exact fun p hp h1 h2 => List.mem_cons_of_mem _ (h.hi p hp h1 h2)
  · intro j p hj hp h2
    by_cases e : j = i
    · subst e
      rw [hp0] at hp
      have := Option.some.inj hp
      subst this
      exact List.mem_cons_self ..
    · exact List.mem_cons_of_mem _ (h.now j p (by omega) hp h2)
  · intro j p hj hp h2
    rw [hx.2 j] at hp
    by_cases h3 : i < j ∧ j < m ∧ Q[j]? = some z
    · rw [if_pos h3] at hp
      have := Option.some.inj hp
      rw [← this] at h2
      simp only at h2
      omega
    · rw [if_neg h3] at hp
      intro hm
      rcases List.mem_cons.1 hm with e | hm
      · subst e
        exact h3 ⟨by omega, by rw [← h.ql]; exact (List.getElem?_eq_some_iff.1 hp).1, hp⟩
      · exact h.fr j p (by omega) hp h2 hm
theorem IV.next {P Q S : List Pl} {m : Nat} {n c : Int} (h : IV P m n c m Q S) : IV P m n (c - 1) 0 Q S :=
  { h with
    lo := fun p hp => by have := h.lo p hp; omega
    hi := fun p hp h1 h2 => by
      by_cases e : p.2 = c
      · obtain ⟨j, hj, hpe⟩ := List.mem_iff_getElem.1 hp
        exact h.now j p (by rw [← h.pl]; exact hj) (by rw [← hpe]; exact List.getElem?_eq_getElem hj) e
      · exact h.hi p hp (by omega) h2
    now := fun j p hj => absurd hj (Nat.not_lt_zero _)
    fr := fun j p _ hp h2 hm => by have := h.lo p hm; omega }
theorem IV.done {P Q S E : List Pl} {m : Nat} {n : Int} {L : List Ev} (h : IV P m n (-1) 0 Q S) (hE : E.Nodup) (he : ∀ x, x ∈ E ↔ x ∈ P) (hL : ∀ e ∈ L, 0 ≤ e.2.2.1 ∧ e.2.2.1 ≤ n) : wS S L = wS E L :=
  wS_same h.nd hE hL fun p h1 h2 => ⟨fun hp => (he p).2 (h.mem p hp), fun hp => h.hi p ((he p).1 hp) (by omega) h2⟩
theorem IV.wS {P Q S : List Pl} {m i : Nat} {n c : Int} {z : Pl} {L : List Ev} (h : IV P m n c i Q S) (hq : Q[i]? = some z) (hc : z.2 = c) (h0 : 0 ≤ c) : wS [z] (wS S L) = wS (z :: S) L :=
  wS_step h.nd (h.fr i z (Nat.le_refl _) hq hc) (fun p hp => by have := h.lo p hp; omega) (by omega)
/-- one place -/
theorem ris_one (z : Pl) : Ris [z] := List.pairwise_singleton _ _
theorem wo_one {z : Pl} {E : List Pl} {L : List Ev} (hr : Ris E) (hm : ∀ x, x ∈ E ↔ x ∈ [z]) : woL E L = wS [z] L := by
  rw [ris_eq hr (ris_one z) hm, woL_eq (ris_one z)]
theorem wS_len (S : List Pl) (L : List Ev) : (wS S L).length ≤ L.length := by
  unfold wS
  rw [List.length_map]
  exact List.length_filter_le _ _
theorem wS_prs {S : List Pl} {L : List Ev} {n : Nat} (h : ∀ e ∈ L, e.2.2.2.2.2.2.length ≤ n) : ∀ e ∈ wS S L, e.2.2.2.2.2.2.length ≤ n := by
  intro e he
  obtain ⟨x, hx, rfl⟩ := List.mem_map.1 he
  exact h x (List.mem_filter.1 hx).1
/-- a row of places of the call's own -/
def QA (W : World) (B : Nat) (A : Option Addr) (m : Nat) (Q : List Pl) : Prop := Q.length = m ∧ (0 < m → ∃ g, A = some ⟨g, 0, none⟩ ∧ B ≤ g ∧ (∃ cur, Blk W g cur 45) ∧ PH W g 0 Q)
theorem QA.of_own {W : World} {B : Nat} {A : Option Addr} {n c : Nat} {P : List Pl} (h : ROwn plc 2 W B 45 (.slice A n c) n P) : QA W B A n P := by
  refine ⟨h.1, fun hn => ?_⟩
  have hr := h.rsl plc_len
  obtain ⟨g, off, hA, hg, hc⟩ := hr.2 hn
  subst hA
  rcases h.2.2 with ⟨e, h2⟩ | ⟨g2, cap, cur, e, hB, hg2, _⟩
  · omega
  · cases e
    have hk : Blk W g cur 45 := hg2
    refine ⟨g, rfl, hB, ⟨cur, hk⟩, hg, fun j p hp => ⟨⟨?_, ?_⟩, hk.frozen _, hk.frozen _⟩⟩
    · exact hc j p hp 0 (by decide)
    · exact hc j p hp 1 (by decide)
theorem PH.later {W W' : World} {g off : Nat} {L : List Pl} (h : PH W g off L) (hb : Below W.heap.size W W') : PH W' g off L := ⟨Nat.lt_of_lt_of_le h.lt hb.size, fun j p hp => by
  have h1 : ∀ o, W'.cell? ⟨g, o, none⟩ = W.cell? ⟨g, o, none⟩ := fun o => hb.cell (p := ⟨g, o, none⟩) h.lt
  have h2 : ∀ o, W'.frozen? ⟨g, o, none⟩ = W.frozen? ⟨g, o, none⟩ := fun o => by
    unfold World.frozen?
    rw [hb.block g h.lt]
  rw [h1, h1, h2, h2]
  exact h.at' j p hp⟩
theorem QA.later {W W' : World} {B : Nat} {A : Option Addr} {n : Nat} {P : List Pl} (h : QA W B A n P) (hb : Below W.heap.size W W') : QA W' B A n P :=
  ⟨h.1, fun hn => by
    obtain ⟨g, hA, hB, ⟨cur, hk⟩, hp⟩ := h.2 hn
    exact ⟨g, hA, hB, ⟨cur, hk.later hb⟩, hp.later hb⟩⟩
theorem PH.set2 {W : World} {g off : Nat} {L : List Pl} (h : PH W g off L) (k : Nat) (p : Pl) (x : Int) (hk : L[k]? = some p) : PH (W.setCell ⟨g, off + k * 2 + 1, none⟩ (.int .i64 x)) g off (L.set k (p.1, x)) := by
  refine ⟨by simpa using h.lt, fun j q hp => ?_⟩
  rw [World.frozen?_setCell, World.frozen?_setCell]
  have hj : j < L.length := by
    have := (List.getElem?_eq_some_iff.1 hp).1
    rwa [List.length_set] at this
  obtain ⟨⟨c0, c1⟩, f⟩ := h.at' j _ (List.getElem?_eq_getElem hj)
  refine ⟨?_, f⟩
  by_cases e : k = j
  · subst e
    rw [List.getElem?_set_self hj] at hp
    obtain rfl := Option.some.inj hp
    have hpe := (List.getElem?_eq_some_iff.1 hk).2
    rw [hpe] at c0 c1
    exact ⟨(cs_other (by omega)).trans c0, cs_same (u := .int .i64 p.2) c1⟩
  · rw [List.getElem?_set_ne e, List.getElem?_eq_getElem hj] at hp
    obtain rfl := Option.some.inj hp
    exact ⟨(cs_other (by omega)).trans c0, (cs_other (by omega)).trans c1⟩
theorem QA.set {W : World} {B g m k : Nat} {Q : List Pl} {p : Pl} (h : QA W B (some ⟨g, 0, none⟩) m Q) (hk : Q[k]? = some p) (x : Int) : QA (W.setCell ⟨g, k * 2 + 1, none⟩ (.int .i64 x)) B (some ⟨g, 0, none⟩) m (Q.set k (p.1, x)) := by
  refine ⟨by rw [List.length_set]; exact h.1, fun hn => ?_⟩
  obtain ⟨g2, hA, hB, ⟨cur, hc⟩, hp⟩ := h.2 hn
  cases hA
  have h1 := hp.set2 k p x hk
  rw [Nat.zero_add] at h1
  exact ⟨g, rfl, hB, ⟨_, hc.set (j := k * 2 + 1) _⟩, h1⟩
/-- the events as they are now: the ones that were handed in, or some of the call's own -/
def OneE (w W : World) (v : Value) (M : List Ev) : Prop := ∃ A n c Rs, v = .slice A n c ∧ EvS W A n Rs ∧ Rs.map Prod.fst = M ∧ ((∀ W', Below w.heap.size w W' → EvS W' A n Rs) ∨ EvO W w.heap.size v n Rs)
theorem OneE.later {w W W' : World} {v : Value} {M : List Ev} (h : OneE w W v M) (hb : Below W.heap.size W W') : OneE w W' v M := by
  obtain ⟨A, n, c, Rs, hv, h1, h2, h3⟩ := h
  exact ⟨A, n, c, Rs, hv, h1.later hb, h2, h3.imp id (fun h => h.later hb)⟩
theorem EvO.set45 {W : World} {B g o n : Nat} {v u : Value} {Rs : List RE} {cur : Array Value} (h : EvO W B v n Rs) (hk : Blk W g cur 45) : EvO (W.setCell ⟨g, o, none⟩ u) B v n Rs := by
  have key : ∀ i : Nat, i ≠ g → (W.setCell ⟨g, o, none⟩ u).heap[i]? = W.heap[i]? := fun i hi => Below.heap_setCell W ⟨g, o, none⟩ u i hi
  refine ⟨h.row.keepS fun i hi => key i ?_, fun r hr => (h.po r hr).keep (by simp) fun i hi => key i ?_⟩
  · rintro rfl
    obtain ⟨c2, hc⟩ := h.row.tag i hi
    have h2 : W.heap[i]? = some (.cells cur 45 (0, 0)) := hk
    rw [h2] at hc
    simp at hc
  · rintro rfl
    obtain ⟨_, c2, hc⟩ := (h.po r hr).own i hi
    have h2 : W.heap[i]? = some (.cells cur 45 (0, 0)) := hk
    rw [h2] at hc
    simp at hc
theorem OneE.set {w W : World} {v u : Value} {M : List Ev} {g o : Nat} {cur : Array Value} (h : OneE w W v M) (hb : Below w.heap.size w W) (hg : w.heap.size ≤ g) (hk : Blk W g cur 45) : OneE w (W.setCell ⟨g, o, none⟩ u) v M := by
  obtain ⟨A, n, c, Rs, rfl, h1, h2, h3⟩ := h
  rcases h3 with h3 | h3
  · exact ⟨A, n, c, Rs, rfl, h3 _ (Below.setCell (p := ⟨g, o, none⟩) hb hg _), h2, Or.inl h3⟩
  · have := h3.set45 (o := o) (u := u) hk
    exact ⟨A, n, c, Rs, rfl, this.evs, h2, Or.inr this⟩
theorem OneE.of_own {w w1 W : World} {A : Option Addr} {n c : Nat} {Rs : List RE} (h : EvO W w1.heap.size (.slice A n c) n Rs) (hw : w.heap.size ≤ w1.heap.size) : OneE w W (.slice A n c) (Rs.map Prod.fst) :=
  ⟨A, n, c, Rs, rfl, h.evs, rfl, Or.inr (h.base hw)⟩
/-- the reads' bounds, by the events -/
theorem evs_np {W : World} {A : Option Addr} {n : Nat} {Rs : List RE} {M : List Ev} (h : EvS W A n Rs) (hm : Rs.map Prod.fst = M) (hp : ∀ e ∈ M, e.2.2.2.2.2.2.length ≤ 100000) : ∀ r ∈ Rs, r.2.2.1 ≤ 100000 := by
  intro r hr
  have h1 := (h.po r hr).rd.1
  have h2 := hp r.1 (by rw [← hm]; exact List.mem_map_of_mem hr)
  omega
theorem evs_cr {Rs : List RE} {M : List Ev} (hm : Rs.map Prod.fst = M) {n : Int} (hn : n ≤ 100000) (hp : ∀ e ∈ M, 0 ≤ e.2.2.1 ∧ e.2.2.1 ≤ n) : ∀ r ∈ Rs, -9223372036854775808 ≤ r.1.2.2.1 ∧ r.1.2.2.1 ≤ 9223372036854775807 := by
  intro r hr
  have h2 := hp r.1 (by rw [← hm]; exact List.mem_map_of_mem hr)
  omega
end Go.Proofs.Ytgbcncfgpdlmiaa
