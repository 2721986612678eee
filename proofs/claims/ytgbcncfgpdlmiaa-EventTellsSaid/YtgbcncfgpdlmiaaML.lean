/- Without: an event is gone just if its call is among them; how many are left ahead of it. Without of a legal history is legal. One by one, the greatest ones first, is at once. -/
import Derived.Test.YtgbcncfgpdlmiaaWO
import Derived.Test.YtgbcncfgpdlmiaaU5
namespace Go.Proofs.Ytgbcncfgpdlmiaa
open Go.ChangeShapes Go.WideShapes Go.ChangeAt Go.RowKit Go.Maps
set_option linter.unusedVariables false
set_option linter.unusedSimpArgs false

/-- the calls of a task below a call that are among these -/
def isL (e : Ev) (p : Pl) : Bool := decide (p.1 = e.2.1) && decide (0 ≤ p.2) && decide (p.2 < e.2.2.1)
def wx (E : List Pl) (e : Ev) : Nat := E.countP (isL e)
theorem isL_iff {e : Ev} {p : Pl} : isL e p = true ↔ p.1 = e.2.1 ∧ 0 ≤ p.2 ∧ p.2 < e.2.2.1 := by
  unfold isL; simp [and_assoc]
theorem cLt_count (P : List Pl) (t : Pl) : cLt P t = P.countP (fun p => decide (cmpP p t < 0)) := by
  unfold cLt; rw [List.countP_eq_length_filter]
theorem count_split (P : List Pl) (e : Ev) (h : 0 ≤ e.2.2.1) : P.countP (fun p => decide (cmpP p (e.2.1, e.2.2.1) < 0)) = P.countP (fun p => decide (cmpP p (e.2.1, 0) < 0)) + P.countP (isL e) := by
  induction P with
  | nil => rfl
  | cons p P ih =>
    rw [List.countP_cons, List.countP_cons, List.countP_cons, ih]
    have h1 : (decide (cmpP p (e.2.1, e.2.2.1) < 0) = true) ↔ (decide (cmpP p (e.2.1, 0) < 0) = true) ∨ isL e p = true := by
      rw [decide_eq_true_iff, decide_eq_true_iff, isL_iff, cmpP_lt, cmpP_lt]
      simp only
      omega
    have h2 : ¬ ((decide (cmpP p (e.2.1, 0) < 0) = true) ∧ isL e p = true) := by
      rw [decide_eq_true_iff, isL_iff, cmpP_lt]
      simp only
      omega
    by_cases a : decide (cmpP p (e.2.1, 0) < 0) = true
    · rw [if_pos (h1.2 (Or.inl a)), if_pos a, if_neg (fun b => h2 ⟨a, b⟩)]; omega
    · by_cases b : isL e p = true
      · rw [if_pos (h1.2 (Or.inr b)), if_neg a, if_pos b]; omega
      · rw [if_neg (fun c => (h1.1 c).elim a b), if_neg a, if_neg b]; omega
theorem count_less (P : List Pl) (t c : Int) (h : c ≤ 0) : P.countP (fun p => decide (cmpP p (t, c) < 0)) ≤ P.countP (fun p => decide (cmpP p (t, 0) < 0)) := by
  refine List.countP_mono_left fun p _ hp => ?_
  rw [decide_eq_true_iff, cmpP_lt] at hp ⊢
  simp only at hp ⊢
  omega
theorem lessI_eq (E : List Pl) (e : Ev) : lessI E e = ((wx E e : Nat) : Int) := by
  unfold lessI wx
  rw [cLt_count, cLt_count]
  by_cases h : 0 ≤ e.2.2.1
  · rw [count_split E e h]
    rw [if_neg (by omega)]
    omega
  · have h1 := count_less E e.2.1 e.2.2.1 (by omega)
    have h2 : E.countP (isL e) = 0 := by
      rw [List.countP_eq_zero]
      intro p _ hp
      rw [isL_iff] at hp
      omega
    rw [h2]
    split <;> omega
theorem goneB_eq {E : List Pl} (hr : Ris E) (e : Ev) : goneB E e = decide (((e.2.1, e.2.2.1) : Pl) ∈ E) := by
  have hs := ris_srt hr
  obtain ⟨t, ht⟩ : ∃ t : Pl, (e.2.1, e.2.2.1) = t := ⟨_, rfl⟩
  unfold goneB
  rw [ht]
  unfold isP
  cases hk : E[cLt E t]? with
  | none =>
    refine (decide_eq_false fun h => ?_).symm
    obtain ⟨j, hj, he⟩ := List.mem_iff_getElem.1 h
    have h1 : cLt E t ≤ j := by
      apply Nat.not_lt.1
      intro hl
      have := (hs t j t (by rw [← he]; exact List.getElem?_eq_getElem hj)).2 hl
      rw [cmpP_lt] at this
      omega
    rw [List.getElem?_eq_none_iff] at hk
    omega
  | some p =>
    refine decide_eq_decide.2 ?_
    rw [cmpP_eq]
    constructor
    · rintro rfl
      exact List.mem_of_getElem? hk
    · intro h
      obtain ⟨j, hj, he⟩ := List.mem_iff_getElem.1 h
      have h1 : cLt E t ≤ j := by
        apply Nat.not_lt.1
        intro hl
        have := (hs t j t (by rw [← he]; exact List.getElem?_eq_getElem hj)).2 hl
        rw [cmpP_lt] at this
        omega
      have hlt := (List.getElem?_eq_some_iff.1 hk).1
      have hpe := (List.getElem?_eq_some_iff.1 hk).2
      by_cases hjk : cLt E t = j
      · subst hjk; rw [← hpe, he]
      · have h2 := List.pairwise_iff_getElem.1 hr _ _ hlt hj (by omega)
        rw [hpe, he] at h2
        have := (hs t _ p hk).1 h2
        omega
/-- without these, told by who is among them -/
def wM (S : List Pl) (e : Ev) : Ev := (e.1, e.2.1, e.2.2.1 - (wx S e : Nat), e.2.2.2)
def wS (S : List Pl) (L : List Ev) : List Ev := (L.filter (fun e => !decide (((e.2.1, e.2.2.1) : Pl) ∈ S))).map (wM S)
theorem woL_eq {E : List Pl} (hr : Ris E) (L : List Ev) : woL E L = wS E L := by
  unfold woL wS
  have h1 : (fun e => !goneB E e) = (fun e : Ev => !decide (((e.2.1, e.2.2.1) : Pl) ∈ E)) := by
    funext e
    rw [goneB_eq hr]
  have h2 : woE E = wM E := by
    funext e
    unfold woE wM
    rw [lessI_eq]
  rw [h1, h2]
theorem ris_nd {E : List Pl} (h : Ris E) : E.Nodup := by
  refine List.Pairwise.imp (fun {a b} hab => ?_) h
  rintro rfl
  rw [cmpP_lt] at hab
  omega
/-- only what is among them, of the tasks and calls that there are, matters -/
theorem wx_same {S T : List Pl} {e : Ev} (hs : S.Nodup) (ht : T.Nodup) (h : ∀ p : Pl, isL e p = true → (p ∈ S ↔ p ∈ T)) : wx S e = wx T e := by
  unfold wx
  rw [List.countP_eq_length_filter, List.countP_eq_length_filter]
  refine List.Perm.length_eq ((List.perm_ext_iff_of_nodup (hs.filter _) (ht.filter _)).2 fun p => ?_)
  rw [List.mem_filter, List.mem_filter]
  constructor
  · rintro ⟨a, b⟩; exact ⟨(h p b).1 a, b⟩
  · rintro ⟨a, b⟩; exact ⟨(h p b).2 a, b⟩
theorem wS_same {S T : List Pl} {L : List Ev} {M : Int} (hs : S.Nodup) (ht : T.Nodup) (hL : ∀ e ∈ L, 0 ≤ e.2.2.1 ∧ e.2.2.1 ≤ M) (h : ∀ p : Pl, 0 ≤ p.2 → p.2 ≤ M → (p ∈ S ↔ p ∈ T)) : wS S L = wS T L := by
  unfold wS
  rw [List.filter_congr (q := fun e : Ev => !decide (((e.2.1, e.2.2.1) : Pl) ∈ T)) (fun e he => by
    have h1 := hL e he
    have := h (e.2.1, e.2.2.1) h1.1 h1.2
    rw [decide_eq_decide.2 this])]
  refine List.map_congr_left fun e he => ?_
  have h1 := hL e (List.mem_filter.1 he).1
  unfold wM
  rw [wx_same hs ht fun p hp => ?_]
  rw [isL_iff] at hp
  exact h p hp.2.1 (by omega)
theorem wx_cons (z : Pl) (S : List Pl) (e : Ev) : wx (z :: S) e = wx S e + if isL e z = true then 1 else 0 := by
  unfold wx; rw [List.countP_cons]
theorem wx_one (z : Pl) (e : Ev) : wx [z] e = if isL e z = true then 1 else 0 := by
  rw [wx_cons]
  show 0 + _ = _
  rw [Nat.zero_add]
/-- how many calls of a task from a call on, below another one -/
theorem wx_low {S : List Pl} {e : Ev} {c : Int} (h : ∀ p ∈ S, p.1 = e.2.1 → c ≤ p.2) (hc : e.2.2.1 ≤ c) : wx S e = 0 := by
  unfold wx
  rw [List.countP_eq_zero]
  intro p hp hl
  rw [isL_iff] at hl
  have := h p hp hl.1
  omega
theorem count_one {z : Pl} : ∀ {S : List Pl}, S.Nodup → S.countP (fun p => decide (p = z)) ≤ 1
  | [], _ => Nat.zero_le _
  | x :: S, h => by
    have h1 := List.nodup_cons.1 h
    rw [List.countP_cons]
    by_cases hx : x = z
    · have h2 : S.countP (fun p => decide (p = z)) = 0 := by
        rw [List.countP_eq_zero]
        intro p hp hl
        rw [decide_eq_true_iff] at hl
        exact h1.1 (by rw [hx, ← hl]; exact hp)
      rw [h2]
      split <;> omega
    · rw [if_neg (by rw [decide_eq_true_iff]; exact hx)]
      have := count_one (z := z) h1.2
      omega
theorem count_or (S : List Pl) (f g k : Pl → Bool) (h : ∀ p, f p = true → g p = true ∨ k p = true) : S.countP f ≤ S.countP g + S.countP k := by
  induction S with
  | nil => exact Nat.le_refl _
  | cons x S ih =>
    rw [List.countP_cons, List.countP_cons, List.countP_cons]
    have := h x
    cases hf : f x <;> cases hg : g x <;> cases hk : k x <;> simp_all <;> omega
theorem wx_high : ∀ (n : Nat) (S : List Pl) (e : Ev) (c : Int), S.Nodup → (∀ p ∈ S, p.1 = e.2.1 → c ≤ p.2) → e.2.2.1 = c + (n : Int) → wx S e ≤ n
  | 0, S, e, c, hn, h, he => by rw [wx_low h (by omega)]; exact Nat.le_refl _
  | n + 1, S, e, c, hn, h, he => by
    obtain ⟨a, t, cl, an⟩ := e
    simp only at he h
    have ih := wx_high n S (a, t, cl - 1, an) c hn (by simp only; exact h) (by simp only; omega)
    have h1 := count_one (z := (t, cl - 1)) hn
    have h2 := count_or S (isL (a, t, cl, an)) (isL (a, t, cl - 1, an)) (fun p => decide (p = (t, cl - 1))) (fun p hp => by
      obtain ⟨p1, p2⟩ := p
      rw [isL_iff] at hp
      rw [isL_iff, decide_eq_true_iff, Prod.mk.injEq]
      simp only at hp ⊢
      omega)
    unfold wx at ih ⊢
    omega
/-- one more, not above any that were taken out -/
theorem wS_step {S : List Pl} {z : Pl} {L : List Ev} (hn : S.Nodup) (hz : z ∉ S) (hc : ∀ p ∈ S, z.2 ≤ p.2) (h0 : 0 ≤ z.2) : wS [z] (wS S L) = wS (z :: S) L := by
  obtain ⟨t, c⟩ := z
  simp only at hc h0
  have key : ∀ e : Ev, ((e.2.1, e.2.2.1) : Pl) ∉ S → (((e.2.1, e.2.2.1 - (wx S e : Nat)) : Pl) = (t, c) ↔ ((e.2.1, e.2.2.1) : Pl) = (t, c)) ∧ ((t = e.2.1 ∧ c < e.2.2.1 - (wx S e : Nat)) ↔ (t = e.2.1 ∧ c < e.2.2.1)) := by
    rintro ⟨a, u, cl, an⟩ hne
    simp only at hne ⊢
    by_cases hu : u = t
    · subst hu
      by_cases hlt : c < cl
      · have h1 := wx_high (cl - (c + 1)).toNat S (a, u, cl, an) (c + 1) hn (fun p hp hpt => by
          have := hc p hp
          by_cases he : p.2 = c
          · exact absurd hp (by rw [show p = (u, c) from Prod.ext hpt he]; exact hz)
          · omega) (by simp only; omega)
        rw [Prod.mk.injEq, Prod.mk.injEq]
        omega
      · have h1 := wx_low (S := S) (e := (a, u, cl, an)) (c := c) (fun p hp _ => hc p hp) (by simp only; omega)
        rw [h1]
        simp
    · rw [Prod.mk.injEq, Prod.mk.injEq]
      constructor
      · constructor <;> rintro ⟨h, _⟩ <;> exact absurd h hu
      · constructor <;> rintro ⟨h, _⟩ <;> exact absurd h.symm hu
  unfold wS
  rw [List.filter_map, List.map_map, List.filter_filter]
  rw [List.filter_congr (q := fun e : Ev => !decide (((e.2.1, e.2.2.1) : Pl) ∈ ((t, c) : Pl) :: S)) (fun e he => by
    by_cases h1 : ((e.2.1, e.2.2.1) : Pl) ∈ S
    · rw [decide_eq_true h1, decide_eq_true (List.mem_cons_of_mem _ h1)]
      simp
    · have h2 := (key e h1).1
      rw [decide_eq_false h1]
      simp only [Function.comp, Bool.not_false, Bool.and_true]
      congr 1
      refine decide_eq_decide.2 ?_
      unfold wM
      simp only
      rw [List.mem_singleton, List.mem_cons, h2]
      simp only [h1, or_false])]
  refine List.map_congr_left fun e he => ?_
  have h1 := List.mem_filter.1 he
  have h3 : ((e.2.1, e.2.2.1) : Pl) ∉ S := fun hm => by
    have := h1.2
    rw [decide_eq_true (List.mem_cons_of_mem _ hm)] at this
    simp at this
  have h2 := (key e h3).2
  simp only [Function.comp]
  unfold wM
  simp only
  have h4 : wx [((t, c) : Pl)] (e.1, e.2.1, e.2.2.1 - ((wx S e : Nat) : Int), e.2.2.2) = if isL e (t, c) = true then 1 else 0 := by
    rw [wx_one]
    have : (isL (e.1, e.2.1, e.2.2.1 - ((wx S e : Nat) : Int), e.2.2.2) (t, c) = true) ↔ (isL e (t, c) = true) := by
      rw [isL_iff, isL_iff]
      simp only
      constructor
      · rintro ⟨a, b, d⟩; exact ⟨a, b, (h2.1 ⟨a, d⟩).2⟩
      · rintro ⟨a, b, d⟩; exact ⟨a, b, (h2.2 ⟨a, d⟩).2⟩
    by_cases hi : isL e (t, c) = true
    · rw [if_pos hi, if_pos (this.2 hi)]
    · rw [if_neg hi, if_neg (fun h => hi (this.1 h))]
  rw [h4, wx_cons (t, c) S e]
  split
  · simp only [Prod.mk.injEq, true_and, and_true]; omega
  · simp only [Prod.mk.injEq, true_and, and_true]; omega
def gx (S : List Pl) (t c : Int) : Nat := wx S (0, t, c, an0)
theorem wx_gx (S : List Pl) (e : Ev) : wx S e = gx S e.2.1 e.2.2.1 := rfl
theorem count_mem {z : Pl} : ∀ {S : List Pl}, S.Nodup → S.countP (fun p => decide (p = z)) = if z ∈ S then 1 else 0
  | [], _ => by simp
  | x :: S, h => by
    have h1 := List.nodup_cons.1 h
    rw [List.countP_cons, count_mem h1.2]
    by_cases hx : x = z
    · subst hx
      simp [h1.1]
    · have : z ≠ x := fun k => hx k.symm
      simp [hx, this]
theorem count_or2 (S : List Pl) (f g k : Pl → Bool) (h : ∀ p, f p = true ↔ g p = true ∨ k p = true) (h2 : ∀ p, ¬ (g p = true ∧ k p = true)) : S.countP f = S.countP g + S.countP k := by
  induction S with
  | nil => rfl
  | cons x S ih =>
    rw [List.countP_cons, List.countP_cons, List.countP_cons]
    have := h x
    have := h2 x
    cases hf : f x <;> cases hg : g x <;> cases hk : k x <;> simp_all <;> omega
theorem gx_succ {S : List Pl} (hn : S.Nodup) (t c : Int) (hc : 0 ≤ c) : gx S t (c + 1) = gx S t c + if ((t, c) : Pl) ∈ S then 1 else 0 := by
  rw [← count_mem hn]
  unfold gx wx
  refine count_or2 S _ _ _ (fun p => ?_) (fun p => ?_)
  · obtain ⟨p1, p2⟩ := p
    rw [isL_iff, isL_iff, decide_eq_true_iff, Prod.mk.injEq]
    simp only
    omega
  · obtain ⟨p1, p2⟩ := p
    rw [isL_iff, decide_eq_true_iff, Prod.mk.injEq]
    simp only
    omega
theorem gx_zero (S : List Pl) (t : Int) : gx S t 0 = 0 := by
  unfold gx wx
  rw [List.countP_eq_zero]
  intro p _ hl
  rw [isL_iff] at hl
  simp only at hl
  omega
theorem wS_snoc (S : List Pl) (L : List Ev) (e : Ev) : wS S (L ++ [e]) = wS S L ++ if ((e.2.1, e.2.2.1) : Pl) ∈ S then [] else [wM S e] := by
  unfold wS
  rw [List.filter_append, List.map_append]
  by_cases h : ((e.2.1, e.2.2.1) : Pl) ∈ S <;> simp [h]
/-- how many a task has, without these -/
def Lft (S : List Pl) (L : List Ev) (t : Int) : Prop := ∃ f : Nat, f + gx S t ((cnt L t / 3 : Nat) : Int) = cnt L t / 3 ∧ cnt (wS S L) t = 3 * f + if ((t, ((cnt L t / 3 : Nat) : Int)) : Pl) ∈ S then 0 else cnt L t % 3
theorem lft_snoc {S : List Pl} (hn : S.Nodup) {L : List Ev} {t : Int} {e : Ev} (h : Lft S L t) (he : e.2.1 = t → e.2.2.1 = ((cnt L t / 3 : Nat) : Int)) : Lft S (L ++ [e]) t := by
  obtain ⟨f, h1, h2⟩ := h
  unfold Lft
  rw [wS_snoc, cnt_app]
  by_cases ht : e.2.1 = t
  · have h3 := he ht
    rw [ht, h3, if_pos rfl]
    generalize cnt L t = n at *
    by_cases hm : ((t, ((n / 3 : Nat) : Int)) : Pl) ∈ S
    · rw [if_pos hm] at h2 ⊢
      rw [List.append_nil, h2]
      by_cases h4 : n % 3 = 2
      · have h5 : (n + 1) / 3 = n / 3 + 1 := by omega
        have h6 : (n + 1) % 3 = 0 := by omega
        have h7 := gx_succ hn t ((n / 3 : Nat) : Int) (by omega)
        rw [if_pos hm] at h7
        refine ⟨f, ?_, ?_⟩
        · rw [h5, show ((n / 3 + 1 : Nat) : Int) = ((n / 3 : Nat) : Int) + 1 by omega, h7]; omega
        · rw [h6]; split <;> rfl
      · have h5 : (n + 1) / 3 = n / 3 := by omega
        refine ⟨f, ?_, ?_⟩
        · rw [h5]; exact h1
        · rw [h5, if_pos hm]
    · rw [if_neg hm] at h2 ⊢
      rw [cnt_app, h2]
      have hwm : (wM S e).2.1 = t := ht
      rw [if_pos hwm]
      by_cases h4 : n % 3 = 2
      · have h5 : (n + 1) / 3 = n / 3 + 1 := by omega
        have h6 : (n + 1) % 3 = 0 := by omega
        have h7 := gx_succ hn t ((n / 3 : Nat) : Int) (by omega)
        rw [if_neg hm] at h7
        refine ⟨f + 1, ?_, ?_⟩
        · rw [h5, show ((n / 3 + 1 : Nat) : Int) = ((n / 3 : Nat) : Int) + 1 by omega, h7]; omega
        · rw [h6]; split <;> omega
      · have h5 : (n + 1) / 3 = n / 3 := by omega
        have h6 : (n + 1) % 3 = n % 3 + 1 := by omega
        refine ⟨f, ?_, ?_⟩
        · rw [h5]; exact h1
        · rw [h5, if_neg hm, h6]; omega
  · rw [if_neg ht, Nat.add_zero]
    refine ⟨f, h1, ?_⟩
    by_cases hm : ((e.2.1, e.2.2.1) : Pl) ∈ S
    · rw [if_pos hm, List.append_nil]; exact h2
    · have hwm : ¬ (wM S e).2.1 = t := ht
      rw [if_neg hm, cnt_app, if_neg hwm, Nat.add_zero]; exact h2
theorem okE_cl {tasks : Int} {L : List Ev} {e : Ev} (h : okE tasks L e = true) : e.2.2.1 = ((cnt L e.2.1 / 3 : Nat) : Int) ∧ e.1 = 1 + ((cnt L e.2.1 % 3 : Nat) : Int) := by
  obtain ⟨wh, t, cl, a⟩ := e
  unfold okE nextE at h
  rw [Bool.and_eq_true, decide_eq_true_eq, decide_eq_true_eq] at h
  simp only [Prod.mk.injEq] at h
  exact ⟨h.2.2.2.1, h.2.1⟩
theorem legal_both {S : List Pl} (hn : S.Nodup) {tasks : Int} (L : List Ev) (h : legalR tasks [] L = true) : legalR tasks [] (wS S L) = true ∧ ∀ t, Lft S L t := by
  obtain ⟨n, hl⟩ : ∃ n, L.length = n := ⟨_, rfl⟩
  induction n generalizing L with
  | zero =>
    obtain rfl := List.eq_nil_of_length_eq_zero hl
    refine ⟨rfl, fun t => ⟨0, ?_, ?_⟩⟩
    · rw [show cnt [] t = 0 from rfl]
      show 0 + gx S t 0 = 0
      rw [gx_zero]
    · rw [show cnt (wS S []) t = 0 from rfl, show cnt [] t = 0 from rfl]
      split <;> rfl
  | succ n ih =>
    obtain ⟨M, e, rfl⟩ : ∃ M e, L = M ++ [e] := ⟨L.dropLast, L.getLast (by intro h; rw [h] at hl; cases hl), (List.dropLast_concat_getLast _).symm⟩
    rw [legalR_snoc2, Bool.and_eq_true, List.nil_append] at h
    obtain ⟨h1, h2⟩ := ih M h.1 (by simpa using hl)
    have hc := okE_cl h.2
    refine ⟨?_, fun t => lft_snoc hn (h2 t) (fun ht => by rw [← ht]; exact hc.1)⟩
    rw [wS_snoc]
    by_cases hm : ((e.2.1, e.2.2.1) : Pl) ∈ S
    · rw [if_pos hm, List.append_nil]; exact h1
    · rw [if_neg hm, legalR_snoc2, h1, Bool.true_and, List.nil_append]
      obtain ⟨f, h3, h4⟩ := h2 e.2.1
      have ho := h.2
      obtain ⟨wh, t, cl, a⟩ := e
      simp only at hc hm h3 h4
      rw [hc.1] at hm
      rw [if_neg hm] at h4
      unfold okE nextE at ho ⊢
      unfold wM
      rw [wx_gx]
      rw [Bool.and_eq_true, decide_eq_true_eq, decide_eq_true_eq] at ho ⊢
      simp only [Prod.mk.injEq, true_and] at ho ⊢
      refine ⟨ho.1, ?_, ?_, ho.2.2.2⟩
      · rw [h4]; omega
      · rw [h4, hc.1]; omega
theorem legal_wS {S : List Pl} (hn : S.Nodup) {tasks : Int} {L : List Ev} (h : legalR tasks [] L = true) : legalR tasks [] (wS S L) = true := (legal_both hn L h).1
/-- the calls of a legal history are within it -/
theorem legal_call {tasks : Int} (L : List Ev) (h : legalR tasks [] L = true) : ∀ e ∈ L, 0 ≤ e.2.2.1 ∧ e.2.2.1 ≤ (L.length : Int) := by
  obtain ⟨n, hl⟩ : ∃ n, L.length = n := ⟨_, rfl⟩
  induction n generalizing L with
  | zero =>
    obtain rfl := List.eq_nil_of_length_eq_zero hl
    intro e he
    cases he
  | succ n ih =>
    obtain ⟨M, x, rfl⟩ : ∃ M e, L = M ++ [e] := ⟨L.dropLast, L.getLast (by intro h; rw [h] at hl; cases hl), (List.dropLast_concat_getLast _).symm⟩
    rw [legalR_snoc2, Bool.and_eq_true, List.nil_append] at h
    have ih2 := ih M h.1 (by simpa using hl)
    intro e he
    rw [List.length_append]
    rcases List.mem_append.1 he with he | he
    · have := ih2 e he
      simp
      omega
    · rw [List.mem_singleton] at he
      subst he
      have h1 := (okE_cl h.2).1
      have h2 := cnt_le M e.2.1
      rw [h1]
      simp
      omega
theorem bare_len : ∀ L : List Ev, (bareL L).length + L.countP (fun e => decide (e.1 = 2)) = L.length
  | [] => rfl
  | e :: L => by
    have ih := bare_len L
    unfold bareL at ih ⊢
    rw [List.countP_cons, List.filter_cons]
    by_cases h : e.1 = 2
    · simp [h]; simp at ih; omega
    · simp [h]; simp at ih; omega
end Go.Proofs.Ytgbcncfgpdlmiaa
