/- The log beside the model. -/
import Derived.Test.YtoinjnocopejjaaLA
namespace Go.Proofs.Ytoinjnocopejjaa
set_option linter.unusedVariables false
set_option linter.unusedSimpArgs false
def gl (g : Lg) (i : Nat) : Lf := g.lives.getD i lf0
def sti (s : MS) (i : Nat) : Int × Int := s.txns.getD i (0, 0)
structure LI (s : MS) (g : Lg) : Prop where
  time : g.time = s.clock
  len : g.lives.length = s.txns.length
  who : ∀ t n (i : Nat), i < g.lives.length → (txW s t n = (i : Int) + 1 ↔ (gl g i).task = t ∧ (gl g i).n = n)
  cnt : ∀ t : Int, 0 ≤ t → t < s.tasks.length → cntL t g.lives = (s.tasks.getD t.toNat []).length
  sn : ∀ i, i < g.lives.length → (gl g i).sn = (sti s i).2
  ws1 : ∀ i, i < g.lives.length → (sti s i).1 = 1 → ∀ k f, lastW k (gl g i).ws = some f → (getR s k).2 = ⟨(i : Int) + 1, 0, f.tomb, f.val⟩
  ws2 : ∀ i, i < g.lives.length → (sti s i).1 = 1 → ∀ k, lastW k (gl g i).ws = none → (getR s k).2.w ≠ (i : Int) + 1
  fts : ∀ f ∈ g.facts, f.ts ≤ g.time
  fac : ∀ k q, s.floor ≤ q → seenB (getR s k).1 q = !(bestF k q g.facts).tomb ∧ (seenB (getR s k).1 q = true → (seen (getR s k).1 q).val = (bestF k q g.facts).val)
  low : ∀ p ∈ s.txns, p.1 = 1 → s.floor ≤ p.2
theorem LI.new (c : Conf) : LI (newM c) lg0 := by
  refine ⟨rfl, rfl, fun t n i hi => absurd hi (Nat.not_lt_zero i), fun t h1 h2 => ?_, fun i hi => absurd hi (Nat.not_lt_zero i), fun i hi => absurd hi (Nat.not_lt_zero i), fun i hi => absurd hi (Nat.not_lt_zero i), (fun _ h => by cases h), fun k q _ => ⟨rfl, fun h => by cases h⟩, (fun _ h => by cases h)⟩
  show 0 = ((List.replicate c.ta.toNat ([] : List Int)).getD t.toNat []).length
  rw [List.getD_eq_getElem?_getD]
  cases hj : (List.replicate c.ta.toNat ([] : List Int))[t.toNat]? with
  | none => rfl
  | some y => rw [List.eq_of_mem_replicate (List.mem_of_getElem? hj)]; rfl
theorem findN_at {t n : Int} : ∀ {l : List Lf} {i : Nat}, i < l.length → ((l.getD i lf0).task = t ∧ (l.getD i lf0).n = n) → (∀ j, j < i → ¬ ((l.getD j lf0).task = t ∧ (l.getD j lf0).n = n)) → findN t n l = i
  | x :: l, 0, _, h, _ => by unfold findN; rw [if_pos (show x.task = t ∧ x.n = n from h)]
  | x :: l, i + 1, hi, h, hj => by
    unfold findN
    rw [if_neg (show ¬ (x.task = t ∧ x.n = n) from hj 0 (Nat.zero_lt_succ i)), findN_at (l := l) (i := i) (by rw [List.length_cons] at hi; omega) h (fun j hj2 => hj (j + 1) (by omega))]
theorem findN_no {t n : Int} : ∀ {l : List Lf}, (∀ j, j < l.length → ¬ ((l.getD j lf0).task = t ∧ (l.getD j lf0).n = n)) → findN t n l = l.length
  | [], _ => rfl
  | x :: l, h => by
    unfold findN
    rw [if_neg (show ¬ (x.task = t ∧ x.n = n) from h 0 (by rw [List.length_cons]; omega)), findN_no (l := l) (fun j hj => h (j + 1) (by rw [List.length_cons]; omega)), List.length_cons]
theorem LI.find_yes {s : MS} {g : Lg} (h : LI s g) {t n : Int} {i : Nat} (hi : i < g.lives.length) (hw : txW s t n = (i : Int) + 1) : findL g t n = i := by
  unfold findL
  rw [findN_at hi ((h.who t n i hi).1 hw) (fun j hj e => by have := (h.who t n j (by omega)).2 e; omega), if_pos hi]
theorem LI.find_no {s : MS} {g : Lg} (h : LI s g) {t n : Int} (hw : txW s t n = 0) : findL g t n = -1 := by
  unfold findL
  rw [findN_no (fun j hj e => by have := (h.who t n j hj).2 e; omega), if_neg (Nat.lt_irrefl _)]
theorem LI.find {s : MS} {g : Lg} (h : LI s g) (hm : OkM s) (t n : Int) : (txW s t n = 0 ∧ findL g t n = -1) ∨ ∃ i : Nat, i < g.lives.length ∧ txW s t n = (i : Int) + 1 ∧ findL g t n = i := by
  rcases hm.tx t n with e | ⟨_, _, _, _, _, h1, h2⟩
  · exact .inl ⟨e, h.find_no e⟩
  · have hl := h.len
    have e : txW s t n = ((txW s t n - 1).toNat : Int) + 1 := by omega
    exact .inr ⟨(txW s t n - 1).toNat, by omega, e, h.find_yes (by omega) e⟩
theorem stW_i (s : MS) (i : Nat) : stW s ((i : Int) + 1) = (sti s i).1 := by
  unfold stW sti
  rw [if_neg (by omega), show ((i : Int) + 1 - 1).toNat = i from by omega]
theorem snW_i (s : MS) (i : Nat) : snW s ((i : Int) + 1) = (sti s i).2 := by
  unfold snW sti
  rw [if_neg (by omega), show ((i : Int) + 1 - 1).toNat = i from by omega]
theorem LI.any {s : MS} {g : Lg} (h : LI s g) (hm : OkM s) {i : Nat} (hi : i < g.lives.length) (ha : (sti s i).1 = 1) : anyI s ((i : Int) + 1) = true ↔ (gl g i).ws ≠ [] := by
  have hh : anyI s ((i : Int) + 1) = true ↔ ∃ k, (getR s k).2.w = (i : Int) + 1 := by
    unfold anyI
    rw [List.any_eq_true]
    constructor
    · rintro ⟨p, hp, e⟩
      exact ⟨p.1, by unfold getR; rw [get_of_mem hm.up hp]; exact of_decide_eq_true e⟩
    · rintro ⟨k, e⟩
      cases e2 : hasK s.rows k with
      | true => exact ⟨_, get_mem (d := rw0) e2, decide_eq_true e⟩
      | false =>
        unfold getR at e
        rw [get_none e2] at e
        have : (0 : Int) = (i : Int) + 1 := e
        omega
  rw [hh]
  constructor
  · rintro ⟨k, e⟩ e2
    exact h.ws2 i hi ha k (by rw [e2]; rfl) e
  · intro e
    cases hw : (gl g i).ws with
    | nil => exact absurd hw e
    | cons f l =>
      cases hl : lastW f.key (gl g i).ws with
      | none => exact absurd rfl (lastW_none.1 hl f (by rw [hw]; exact List.mem_cons_self ..))
      | some x => exact ⟨f.key, by rw [h.ws1 i hi ha _ _ hl]⟩
/-- what a turn may do, and what is noted -/
theorem stepC {s : MS} {g : Lg} (hm : OkM s) (h : LI s g) (at_ t : Int) (x : Cl) :
    let s' := (doM s t x).1; let g' := noteL g at_ t x (doM s t x).2
    (s' = s ∧ g' = g)
    ∨ ((0 ≤ t ∧ t < s.tasks.length) ∧ (actN s.txns : Int) < s.cf.ac ∧ s' = beginM s t ∧ g' = { g with lives := g.lives ++ [⟨t, (cntL t g.lives : Int) + 1, g.time, [], at_, 0⟩] })
    ∨ (∃ (i : Nat) (f : Fc), i < g.lives.length ∧ (sti s i).1 = 1 ∧ clashM s ((i : Int) + 1) (getR s f.key) = false ∧ s' = putM s f.key ⟨(i : Int) + 1, 0, f.tomb, f.val⟩ ∧ g' = addW g i f ∧ f.key = x.2.2.1)
    ∨ (∃ i : Nat, i < g.lives.length ∧ (sti s i).1 = 1 ∧ s' = endM s ((i : Int) + 1) 4 (dropR ((i : Int) + 1)) ∧ g' = g)
    ∨ (∃ i : Nat, i < g.lives.length ∧ (sti s i).1 = 1 ∧ (gl g i).ws ≠ [] ∧ s' = endM { s with clock := s.clock + 1 } ((i : Int) + 1) 3 (commR ((i : Int) + 1) (s.clock + 1)) ∧ g' = { overW g i at_ with time := g.time + 1, facts := g.facts ++ lastFs (g.time + 1) (gl g i).ws })
    ∨ (∃ i : Nat, i < g.lives.length ∧ (sti s i).1 = 1 ∧ (gl g i).ws = [] ∧ s' = endM s ((i : Int) + 1) 3 (dropR ((i : Int) + 1)) ∧ g' = overW g i at_)
    ∨ (s' = vacM s ∧ g' = g) := by
  intro s' g'
  by_cases hr : refM s t x ≠ 0
  · left
    refine ⟨by show (doM s t x).1 = s; unfold doM; rw [if_pos hr], ?_⟩
    show noteL g at_ t x (doM s t x).2 = g
    unfold doM; rw [if_pos hr]; unfold noteL; rw [if_pos (.inl hr)]
  replace hr : refM s t x = 0 := Decidable.not_not.1 hr
  obtain ⟨ht, hk, hnm, hfit, _⟩ := refM_0 hr
  have ed : doM s t x = actM s t (txW s t x.2.1) x := by unfold doM; rw [if_neg (fun e => e hr)]
  have es : s' = (actM s t (txW s t x.2.1) x).1 := by show (doM s t x).1 = _; rw [ed]
  have eg : g' = noteL g at_ t x (actM s t (txW s t x.2.1) x).2 := by show noteL g at_ t x (doM s t x).2 = _; rw [ed]
  clear_value s' g'
  clear ed
  obtain ⟨kd, y⟩ := x
  simp only at hk hnm
  have hw : namedK kd = true → ∃ i : Nat, i < g.lives.length ∧ txW s t y.1 = (i : Int) + 1 ∧ findL g t y.1 = i ∧ (sti s i).1 = 1 := fun e => by
    have h1 := hnm e
    rcases h.find hm t y.1 with ⟨e2, _⟩ | ⟨i, h2, h3, h4⟩
    · exact absurd e2 h1.1
    · exact ⟨i, h2, h3, h4, by rw [← stW_i, ← h3]; exact h1.2⟩
  rcases (by omega : kd = 1 ∨ kd = 2 ∨ kd = 3 ∨ kd = 4 ∨ kd = 5 ∨ kd = 6 ∨ kd = 7 ∨ kd = 8 ∨ kd = 9) with rfl | rfl | rfl | rfl | rfl | rfl | rfl | rfl | rfl
  · have es : s' = (if s.cf.ac ≤ actN s.txns then (s, asE_ 34) else (beginM s t, as0)).1 := es
    have eg : g' = noteL g at_ t (1, y) (if s.cf.ac ≤ actN s.txns then (s, asE_ 34) else (beginM s t, as0)).2 := eg
    by_cases e : s.cf.ac ≤ actN s.txns
    · rw [if_pos e] at es eg
      exact .inl ⟨es, eg⟩
    · rw [if_neg e] at es eg
      refine .inr (.inl ⟨ht, by omega, es, ?_⟩)
      rw [eg]; unfold noteL
      rw [if_neg (fun e2 => e2.elim (fun e3 => e3 rfl) (fun e3 => e3.1 rfl)), if_pos rfl]
  · left
    refine ⟨es, ?_⟩
    rw [eg]; unfold noteL
    split
    · rfl
    · rfl
  · obtain ⟨i, hi, h1, h2, h3⟩ := hw rfl
    have es : s' = (if clashM s (txW s t y.1) (getR s y.2.1) = true then (s, asE_ 33) else if fullM s y.2.1 = true then (s, asE_ 34) else (putM s y.2.1 ⟨txW s t y.1, 0, false, y.2.2.2.1⟩, as0)).1 := es
    have eg : g' = noteL g at_ t (3, y) (if clashM s (txW s t y.1) (getR s y.2.1) = true then (s, asE_ 33) else if fullM s y.2.1 = true then (s, asE_ 34) else (putM s y.2.1 ⟨txW s t y.1, 0, false, y.2.2.2.1⟩, as0)).2 := eg
    rw [h1] at es eg
    by_cases e : clashM s ((i : Int) + 1) (getR s y.2.1) = true
    · rw [if_pos e] at es eg
      exact .inl ⟨es, eg⟩
    rw [if_neg e] at es eg
    by_cases e2 : fullM s y.2.1 = true
    · rw [if_pos e2] at es eg
      exact .inl ⟨es, eg⟩
    rw [if_neg e2] at es eg
    refine .inr (.inr (.inl ⟨i, ⟨0, y.2.1, false, y.2.2.2.1⟩, hi, h3, by simpa using e, es, ?_, rfl⟩))
    rw [eg]; unfold noteL
    rw [if_neg (fun e2 => e2.elim (fun e3 => e3 rfl) (fun e3 => by have := e3.2; simp only at this; omega)), if_neg (by simp), if_pos rfl]
    simp only
    rw [h2]; rfl
  · obtain ⟨i, hi, h1, h2, h3⟩ := hw rfl
    have es : s' = (if clashM s (txW s t y.1) (getR s y.2.1) = true then (s, asE_ 33) else if readB s (txW s t y.1) (getR s y.2.1) = false then (s, as0) else if fullM s y.2.1 = true then (s, asE_ 34) else (putM s y.2.1 ⟨txW s t y.1, 0, true, emp⟩, ((0, true, emp, []) : As))).1 := es
    have eg : g' = noteL g at_ t (4, y) (if clashM s (txW s t y.1) (getR s y.2.1) = true then (s, asE_ 33) else if readB s (txW s t y.1) (getR s y.2.1) = false then (s, as0) else if fullM s y.2.1 = true then (s, asE_ 34) else (putM s y.2.1 ⟨txW s t y.1, 0, true, emp⟩, ((0, true, emp, []) : As))).2 := eg
    rw [h1] at es eg
    by_cases e : clashM s ((i : Int) + 1) (getR s y.2.1) = true
    · rw [if_pos e] at es eg
      exact .inl ⟨es, eg⟩
    rw [if_neg e] at es eg
    by_cases e3 : readB s ((i : Int) + 1) (getR s y.2.1) = false
    · rw [if_pos e3] at es eg
      refine .inl ⟨es, ?_⟩
      rw [eg]; unfold noteL
      split
      · rfl
      · rfl
    rw [if_neg e3] at es eg
    by_cases e2 : fullM s y.2.1 = true
    · rw [if_pos e2] at es eg
      exact .inl ⟨es, eg⟩
    rw [if_neg e2] at es eg
    refine .inr (.inr (.inl ⟨i, ⟨0, y.2.1, true, emp⟩, hi, h3, by simpa using e, es, ?_, rfl⟩))
    rw [eg]; unfold noteL
    rw [if_neg (fun e2 => e2.elim (fun e3 => e3 rfl) (fun e3 => by have := e3.2; simp only at this; omega)), if_neg (by simp), if_neg (by simp), if_pos rfl, if_pos rfl]
    simp only
    rw [h2]; rfl
  · left
    refine ⟨es, ?_⟩
    rw [eg]; unfold noteL
    split
    · rfl
    · rfl
  · obtain ⟨i, hi, h1, h2, h3⟩ := hw rfl
    have hany := h.any hm hi h3
    have es : s' = (if anyI s (txW s t y.1) = true ∧ s.cf.ts ≤ s.clock then (endM s (txW s t y.1) 4 (dropR (txW s t y.1)), asE_ 35) else if anyI s (txW s t y.1) = true then (endM { s with clock := s.clock + 1 } (txW s t y.1) 3 (commR (txW s t y.1) (s.clock + 1)), as0) else (endM s (txW s t y.1) 3 (commR (txW s t y.1) s.clock), as0)).1 := es
    have eg : g' = noteL g at_ t (6, y) (if anyI s (txW s t y.1) = true ∧ s.cf.ts ≤ s.clock then (endM s (txW s t y.1) 4 (dropR (txW s t y.1)), asE_ 35) else if anyI s (txW s t y.1) = true then (endM { s with clock := s.clock + 1 } (txW s t y.1) 3 (commR (txW s t y.1) (s.clock + 1)), as0) else (endM s (txW s t y.1) 3 (commR (txW s t y.1) s.clock), as0)).2 := eg
    rw [h1] at es eg
    have hn : noteL g at_ t (6, y) as0 = if (gl g i).ws = [] then overW g i at_ else { overW g i at_ with time := g.time + 1, facts := g.facts ++ lastFs (g.time + 1) (gl g i).ws } := by
      unfold noteL
      rw [if_neg (fun e2 => e2.elim (fun e3 => e3 rfl) (fun e3 => by have := e3.2; simp only at this; omega)), if_neg (by simp), if_neg (by simp), if_neg (by simp), if_pos rfl]
      simp only
      rw [h2]; rfl
    by_cases e : anyI s ((i : Int) + 1) = true ∧ s.cf.ts ≤ s.clock
    · rw [if_pos e] at es eg
      refine .inr (.inr (.inr (.inl ⟨i, hi, h3, es, ?_⟩)))
      rw [eg]; rfl
    rw [if_neg e] at es eg
    by_cases e2 : anyI s ((i : Int) + 1) = true
    · rw [if_pos e2] at es eg
      refine .inr (.inr (.inr (.inr (.inl ⟨i, hi, h3, hany.1 e2, es, ?_⟩))))
      rw [eg, hn, if_neg (hany.1 e2)]
    · rw [if_neg e2] at es eg
      have hws : (gl g i).ws = [] := by
        cases hh : (gl g i).ws with
        | nil => rfl
        | cons a b => exact absurd (hany.2 (by rw [hh]; simp)) e2
      refine .inr (.inr (.inr (.inr (.inr (.inl ⟨i, hi, h3, hws, ?_, ?_⟩)))))
      · rw [es]
        simp only
        unfold endM
        have ea : anyI s ((i : Int) + 1) = false := by simpa using e2
        congr 1
        unfold mapR mp
        congr 1
        refine List.map_congr_left (fun p hp => ?_)
        rw [commR_same ea p hp]
        unfold dropR
        unfold anyI at ea
        rw [List.any_eq_false] at ea
        rw [if_neg (fun e => ea p hp (decide_eq_true e))]
      · rw [eg, hn, if_pos hws]
  · obtain ⟨i, hi, h1, h2, h3⟩ := hw rfl
    have es : s' = (endM s (txW s t y.1) 4 (dropR (txW s t y.1))) := es
    rw [h1] at es
    refine .inr (.inr (.inr (.inl ⟨i, hi, h3, es, ?_⟩)))
    rw [eg]; unfold noteL
    split
    · rfl
    · rfl
  · refine .inr (.inr (.inr (.inr (.inr (.inr ⟨es, ?_⟩)))))
    rw [eg]; unfold noteL
    split
    · rfl
    · rfl
  · left
    refine ⟨es, ?_⟩
    rw [eg]; unfold noteL
    split
    · rfl
    · rfl
end Go.Proofs.Ytoinjnocopejjaa
