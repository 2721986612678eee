/- PM, PS, PT in one. -/
import Derived.Test.YtoinjnocopejjaaSA
/- A history's player, in plain words; what there may be behind a history. -/
namespace Go.Proofs.Ytoinjnocopejjaa
set_option linter.unusedVariables false
set_option linter.unusedSimpArgs false
theorem pairs_le_ (s : MS) (t : Int) (x : Cl) : ((doM s t x).2.2.2.2).length ≤ 128 := by
  unfold doM
  split
  · exact Nat.zero_le _
  · rename_i hr
    have hfit := (refM_0 (show refM s t x = 0 by omega)).2.2.2.1
    generalize txW s t x.2.1 = w
    unfold actM
    split
    · split <;> exact Nat.zero_le _
    · simp only; split <;> exact Nat.zero_le _
    · split
      · exact Nat.zero_le _
      split <;> exact Nat.zero_le _
    · split
      · exact Nat.zero_le _
      split
      · exact Nat.zero_le _
      split <;> exact Nat.zero_le _
    · rename_i hk2
      unfold fitsM at hfit
      rw [if_neg (by omega), if_neg (by omega), if_pos hk2] at hfit
      simp only [Bool.and_eq_true] at hfit
      have h0 := of_decide_eq_true hfit.2.2.1
      have h1 := of_decide_eq_true hfit.2.2.2
      show (scanP s w x.2.2.1 x.2.2.2.1 x.2.2.2.2.2.1 s.rows []).length ≤ 128
      rw [scanP_eq s w _ _ h0 _ _ (by simpa using h0), List.length_take]
      omega
    · split
      · exact Nat.zero_le _
      split <;> exact Nat.zero_le _
    · exact Nat.zero_le _
    · exact Nat.zero_le _
    · exact Nat.zero_le _
/-- an event: what, task, call, answer -/
abbrev Ev := Int × Int × Int × As
abbrev Ps := List (List Cl)
structure Pg where
  prog : List Cl
  call : Int
  ph : Int
  don : Int
structure Dn where
  task : Int
  call : Int
  a : As
  mark : Int
  back : Int
structure Pl where
  m : MS
  tasks : List Pg
  taken : Int
  done : List Dn
def pg0 : Pg := ⟨[], 0, 0, 0⟩
def cl0 : Cl := (0, 0, emp, emp, emp, 0, 0)
def dn0 : Dn := ⟨0, 0, as0, 0, 0⟩
def newP (c : Conf) (P : Ps) : Pl := ⟨newM c, (List.range c.ta.toNat).map (fun i => ⟨P.getD i [], 0, 0, 0⟩), 0, []⟩
def tkP (p : Pl) (t : Int) : Pg := p.tasks.getD t.toNat pg0
def setP (p : Pl) (t : Int) (g : Pg) : List Pg := p.tasks.set t.toNat g
/-- is an event not of the programs by its own numbers? -/
def badP (p : Pl) (e : Ev) : Bool :=
  decide (e.1 < 1) || decide (3 < e.1) || decide (e.2.1 < 0) || decide ((p.tasks.length : Int) ≤ e.2.1) ||
  (decide ((tkP p e.2.1).ph ≠ e.1 - 1) || decide (e.2.2.1 ≠ (tkP p e.2.1).call) || (decide (e.1 ≠ 3) && decide (e.2.2.2 ≠ as0)))
def clG (g : Pg) : Cl := g.prog.getD g.call.toNat cl0
def markP (p : Pl) (t : Int) (call : Int) (g : Pg) : Pl :=
  { m := (doM p.m t (clG g)).1, tasks := setP p t { g with ph := 2, don := p.done.length }, taken := p.taken + 1, done := p.done ++ [⟨t, call, (doM p.m t (clG g)).2, p.taken, -1⟩] }
def backP (p : Pl) (t : Int) (g : Pg) : Pl :=
  { m := p.m, tasks := setP p t { g with ph := 0, call := g.call + 1 }, taken := p.taken + 1, done := p.done.set g.don.toNat { (p.done.getD g.don.toNat dn0) with back := p.taken } }
def takeP (p : Pl) (e : Ev) : Pl × Int :=
  if badP p e = true then (p, 4)
  else if e.1 = 1 then
    (if ((tkP p e.2.1).prog.length : Int) ≤ (tkP p e.2.1).call then ({ p with taken := p.taken + 1 }, 4)
     else ({ p with tasks := setP p e.2.1 { (tkP p e.2.1) with ph := 1 }, taken := p.taken + 1 }, 0))
  else if e.1 = 2 then (markP p e.2.1 e.2.2.1 (tkP p e.2.1), 0)
  else (backP p e.2.1 (tkP p e.2.1), if e.2.2.2 = (p.done.getD (tkP p e.2.1).don.toNat dn0).a then 0 else 7)
def playP : Pl → List Ev → Option Pl
  | p, [] => some p
  | p, e :: l => if (takeP p e).2 = 4 then none else playP (takeP p e).1 l
def clP (P : Ps) (d : Dn) : Cl := (P.getD d.task.toNat []).getD d.call.toNat cl0
def runD (P : Ps) : MS → List Dn → MS
  | s, [] => s
  | s, d :: l => runD P (doM s d.task (clP P d)).1 l
theorem runD_app (P : Ps) : ∀ (l m : List Dn) (s : MS), runD P s (l ++ m) = runD P (runD P s l) m
  | [], m, s => rfl
  | d :: l, m, s => by
    show runD P _ (l ++ m) = runD P (runD P _ l) m
    exact runD_app P l m _
theorem runD_set (P : Ps) : ∀ (l : List Dn) (k : Nat) (d d' : Dn) (s : MS), l[k]? = some d → d'.task = d.task → d'.call = d.call → runD P s (l.set k d') = runD P s l
  | [], k, d, d', s, h, _, _ => by simp at h
  | x :: l, 0, d, d', s, h, h1, h2 => by
    simp at h; subst h
    show runD P (doM s d'.task (clP P d')).1 l = runD P (doM s x.task (clP P x)).1 l
    have : clP P d' = clP P x := by unfold clP; rw [h1, h2]
    rw [this, h1]
  | x :: l, k + 1, d, d', s, h, h1, h2 => runD_set P l k d d' _ (by simpa using h) h1 h2
theorem playP_app : ∀ (l m : List Ev) (p : Pl), playP p (l ++ m) = (playP p l).bind fun q => playP q m
  | [], m, p => rfl
  | e :: l, m, p => by
    show (if (takeP p e).2 = 4 then none else playP (takeP p e).1 (l ++ m)) = Option.bind (if (takeP p e).2 = 4 then none else playP (takeP p e).1 l) _
    split
    · rfl
    · exact playP_app l m _
theorem play_take {p : Pl} {l : List Ev} {k : Nat} {e : Ev} (h : l[k]? = some e) : playP p (l.take (k + 1)) = (playP p (l.take k)).bind fun q => if (takeP q e).2 = 4 then none else some (takeP q e).1 := by
  rw [List.take_add_one, h, playP_app]
  rfl
theorem play_some {p q : Pl} {l : List Ev} (h : playP p l = some q) (k : Nat) : ∃ q', playP p (l.take k) = some q' := by
  have e : l.take k ++ l.drop k = l := List.take_append_drop k l
  rw [← e, playP_app] at h
  cases hq : playP p (l.take k) with
  | none => rw [hq] at h; cases h
  | some q' => exact ⟨q', rfl⟩
theorem play_none {p : Pl} {l : List Ev} {k : Nat} (h : playP p (l.take k) = none) : playP p l = none := by
  have e : l.take k ++ l.drop k = l := List.take_append_drop k l
  rw [← e, playP_app, h]; rfl
/-- what holds of a player -/
structure POk (c : Conf) (P : Ps) (p : Pl) : Prop where
  ok : OkM p.m
  cf : p.m.cf = c
  len : (p.tasks.length : Int) = c.ta
  prg : ∀ (i : Nat) g, p.tasks[i]? = some g → g.prog = P.getD i [] ∧ 0 ≤ g.call ∧ g.call ≤ g.prog.length ∧ (0 ≤ g.ph ∧ g.ph ≤ 2) ∧ (g.ph ≠ 0 → g.call < g.prog.length)
  mrk : ∀ (i : Nat) g, p.tasks[i]? = some g → g.ph = 2 → ∃ (k : Nat) (d : Dn), g.don = k ∧ p.done[k]? = some d ∧ d.back = -1 ∧ d.task = i ∧ d.call = g.call
  dn : ∀ (k : Nat) d, p.done[k]? = some d → (0 ≤ d.task ∧ d.task < c.ta ∧ 0 ≤ d.call ∧ d.call < ((P.getD d.task.toNat []).length : Int)) ∧ (-1 ≤ d.back ∧ d.back < p.taken ∧ 0 ≤ d.mark ∧ d.mark < p.taken) ∧ d.a.2.2.2.length ≤ 128 ∧ (d.back = -1 → ∃ g, p.tasks[d.task.toNat]? = some g ∧ g.ph = 2 ∧ g.don = k)
  tk : (p.done.length : Int) ≤ p.taken
  run : p.m = runD P (newM c) p.done
  tx : p.m.txns.length ≤ p.done.length
theorem POk.new {c : Conf} (h : mayB c = true) (P : Ps) : POk c P (newP c P) := by
  have hc := may_lo h
  refine ⟨OkM.new h, rfl, ?_, fun i g hg => ?_, fun i g hg hp => ?_, fun k d hd => ?_, Int.le_refl _, rfl, Nat.le_refl _⟩
  · show (((List.range c.ta.toNat).map _).length : Int) = c.ta
    rw [List.length_map, List.length_range]; omega
  · have hg2 : ((List.range c.ta.toNat).map (fun i => (⟨P.getD i [], 0, 0, 0⟩ : Pg)))[i]? = some g := hg
    clear hg
    rw [List.getElem?_map] at hg2
    cases hr : (List.range c.ta.toNat)[i]? with
    | none => rw [hr] at hg2; cases hg2
    | some j =>
      rw [hr] at hg2
      have hj : j = i := by
        obtain ⟨h1, h2⟩ := List.getElem?_eq_some_iff.1 hr
        rw [List.getElem_range] at h2; exact h2.symm
      subst hj
      have hg3 : some (⟨P.getD j [], 0, 0, 0⟩ : Pg) = some g := hg2
      cases hg3
      refine ⟨rfl, Int.le_refl _, ?_, ⟨Int.le_refl _, show (0 : Int) ≤ 2 by decide⟩, fun h => absurd rfl h⟩
      show (0 : Int) ≤ _; omega
  · have hg2 : ((List.range c.ta.toNat).map (fun i => (⟨P.getD i [], 0, 0, 0⟩ : Pg)))[i]? = some g := hg
    clear hg
    rw [List.getElem?_map] at hg2
    cases hr : (List.range c.ta.toNat)[i]? with
    | none => rw [hr] at hg2; cases hg2
    | some j =>
      rw [hr] at hg2
      have hg3 : some (⟨P.getD j [], 0, 0, 0⟩ : Pg) = some g := hg2
      cases hg3
      exact absurd (show (0 : Int) = 2 from hp) (by decide)
  · cases (show ([] : List Dn)[k]? = some d from hd)
theorem bad_no {p : Pl} {e : Ev} (h : badP p e = false) : 1 ≤ e.1 ∧ e.1 ≤ 3 ∧ 0 ≤ e.2.1 ∧ e.2.1 < p.tasks.length ∧ (tkP p e.2.1).ph = e.1 - 1 ∧ e.2.2.1 = (tkP p e.2.1).call ∧ (e.1 = 3 ∨ e.2.2.2 = as0) := by
  unfold badP at h
  simp only [Bool.or_eq_false_iff, Bool.and_eq_false_iff, decide_eq_false_iff_not, Decidable.not_not] at h
  obtain ⟨⟨⟨⟨h1, h2⟩, h3⟩, h4⟩, ⟨h5, h6⟩, h7⟩ := h
  exact ⟨by omega, by omega, by omega, by omega, h5, h6, h7⟩
theorem tk_at {p : Pl} {t : Int} (h0 : 0 ≤ t) (h : t < p.tasks.length) : p.tasks[t.toNat]? = some (tkP p t) := by
  unfold tkP
  rw [List.getD_eq_getElem?_getD, List.getElem?_eq_getElem (by omega)]; rfl
theorem setP_at {p : Pl} {t : Int} {g g' : Pg} {i : Nat} (h0 : 0 ≤ t) (h : t < p.tasks.length) (hi : (setP p t g)[i]? = some g') : (i = t.toNat ∧ g' = g) ∨ (i ≠ t.toNat ∧ p.tasks[i]? = some g') := by
  unfold setP at hi
  rw [List.getElem?_set] at hi
  by_cases e : t.toNat = i
  · rw [if_pos e, if_pos (by omega)] at hi
    cases hi; exact .inl ⟨e.symm, rfl⟩
  · rw [if_neg e] at hi
    exact .inr ⟨fun x => e x.symm, hi⟩
theorem setP_len (p : Pl) (t : Int) (g : Pg) : (setP p t g).length = p.tasks.length := by unfold setP; rw [List.length_set]
theorem setP_self {p : Pl} {t : Int} {g : Pg} (h0 : 0 ≤ t) (h : t < p.tasks.length) : (setP p t g)[t.toNat]? = some g := by
  unfold setP; rw [List.getElem?_set, if_pos rfl, if_pos (by omega)]
theorem setP_ne {p : Pl} {t : Int} {g : Pg} {i : Nat} (h : i ≠ t.toNat) : (setP p t g)[i]? = p.tasks[i]? := by
  unfold setP; rw [List.getElem?_set, if_neg (fun e => h e.symm)]
theorem POk.take {c : Conf} {P : Ps} {p : Pl} (h : POk c P p) (e : Ev) (hn : (takeP p e).2 ≠ 4) : POk c P (takeP p e).1 := by
  unfold takeP at hn ⊢
  cases hb : badP p e with
  | true => rw [hb, if_pos rfl] at hn; exact absurd rfl hn
  | false =>
    rw [hb] at hn
    rw [if_neg (by decide)] at hn ⊢
    obtain ⟨w, t, call, a⟩ := e
    obtain ⟨h1, h2, h3, h4, h5, h6, h7⟩ := bad_no hb
    simp only at h1 h2 h3 h4 h5 h6 h7 hn ⊢
    have htk := tk_at h3 h4
    obtain ⟨g, hg⟩ : ∃ g, tkP p t = g := ⟨_, rfl⟩
    rw [hg] at h5 h6 htk hn ⊢
    obtain ⟨q1, q2, q3, q4, q5⟩ := h.prg _ _ htk
    clear hb hg h7
    have hta : t < c.ta := by have := h.len; omega
    by_cases e1 : w = 1
    · rw [if_pos e1] at hn ⊢
      by_cases hf : (g.prog.length : Int) ≤ g.call
      · rw [if_pos hf] at hn; exact absurd rfl hn
      · rw [if_neg hf]
        have hp0 : g.ph = 0 := by omega
        refine ⟨h.ok, h.cf, by rw [setP_len]; exact h.len, fun i g' hi => ?_, fun i g' hi hp => ?_, fun k d hd => ?_, by show (p.done.length : Int) ≤ p.taken + 1; have := h.tk; omega, h.run, h.tx⟩
        · rcases setP_at h3 h4 hi with ⟨rfl, rfl⟩ | ⟨_, hi⟩
          · refine ⟨q1, q2, q3, ⟨by show (0 : Int) ≤ 1; decide, by show (1 : Int) ≤ 2; decide⟩, fun _ => by show g.call < (g.prog.length : Int); omega⟩
          · exact h.prg i g' hi
        · rcases setP_at h3 h4 hi with ⟨rfl, rfl⟩ | ⟨_, hi⟩
          · exact absurd (show (1 : Int) = 2 from hp) (by decide)
          · exact h.mrk i g' hi hp
        · obtain ⟨r1, r2, r3, r4⟩ := h.dn k d hd
          refine ⟨r1, ⟨r2.1, by show d.back < p.taken + 1; omega, r2.2.2.1, by show d.mark < p.taken + 1; omega⟩, r3, fun hbk => ?_⟩
          obtain ⟨g', hg', hph, hdn⟩ := r4 hbk
          refine ⟨g', ?_, hph, hdn⟩
          show (setP p t _)[_]? = _
          rw [setP_ne]
          · exact hg'
          · intro e; rw [e, htk] at hg'; cases hg'; omega
    · rw [if_neg e1] at hn ⊢
      by_cases e2 : w = 2
      · rw [if_pos e2] at hn ⊢
        have hp1 : g.ph = 1 := by omega
        have hcl := q5 (by omega)
        refine ⟨h.ok.do_ _ _, (doM_cf _ _ _).trans h.cf, by show ((setP p t _).length : Int) = _; rw [setP_len]; exact h.len, fun i g' hi => ?_, fun i g' hi hp => ?_, fun k d hd => ?_, ?_, ?_, ?_⟩
        · rcases setP_at h3 h4 hi with ⟨rfl, rfl⟩ | ⟨_, hi⟩
          · exact ⟨q1, q2, q3, ⟨by show (0 : Int) ≤ 2; decide, by show (2 : Int) ≤ 2; decide⟩, fun _ => hcl⟩
          · exact h.prg i g' hi
        · rcases setP_at h3 h4 hi with ⟨rfl, rfl⟩ | ⟨_, hi⟩
          · refine ⟨p.done.length, ⟨t, call, (doM p.m t (clG g)).2, p.taken, -1⟩, rfl, ?_, rfl, ?_, h6⟩
            · show (p.done ++ [_])[_]? = _
              rw [List.getElem?_append_right (Nat.le_refl _), Nat.sub_self]; rfl
            · show t = ((t.toNat : Nat) : Int); omega
          · obtain ⟨k, d, z1, z2, z3⟩ := h.mrk i g' hi hp
            refine ⟨k, d, z1, ?_, z3⟩
            show (p.done ++ [_])[k]? = _
            rw [List.getElem?_append_left (List.getElem?_eq_some_iff.1 z2).1]; exact z2
        · have hd : (p.done ++ [(⟨t, call, (doM p.m t (clG g)).2, p.taken, -1⟩ : Dn)])[k]? = some d := hd
          by_cases hk : k < p.done.length
          · rw [List.getElem?_append_left hk] at hd
            obtain ⟨r1, r2, r3, r4⟩ := h.dn k d hd
            refine ⟨r1, ⟨r2.1, by show d.back < p.taken + 1; omega, r2.2.2.1, by show d.mark < p.taken + 1; omega⟩, r3, fun hbk => ?_⟩
            obtain ⟨g', hg', hph, hdn⟩ := r4 hbk
            refine ⟨g', ?_, hph, hdn⟩
            show (setP p t _)[_]? = _
            rw [setP_ne]
            · exact hg'
            · intro e; rw [e, htk] at hg'; cases hg'; omega
          · have hk2 : k = p.done.length := by
              have := (List.getElem?_eq_some_iff.1 hd).1
              simp at this; omega
            subst hk2
            rw [List.getElem?_append_right (Nat.le_refl _), Nat.sub_self] at hd
            cases hd
            have htk0 := h.tk
            refine ⟨⟨h3, hta, by show 0 ≤ call; omega, ?_⟩, ⟨Int.le_refl _, by show (-1 : Int) < p.taken + 1; omega, by show 0 ≤ p.taken; omega, by show p.taken < p.taken + 1; omega⟩, pairs_le_ _ _ _, fun _ => ⟨_, setP_self h3 h4, rfl, rfl⟩⟩
            show call < _
            rw [h6, ← q1]; exact hcl
        · show ((p.done ++ [_]).length : Int) ≤ p.taken + 1
          have := h.tk
          simp; omega
        · show (doM p.m t (clG g)).1 = runD P (newM c) (p.done ++ [_])
          rw [runD_app, ← h.run]
          show _ = (doM p.m t (clP P _)).1
          unfold clG clP
          rw [q1, h6]
        · show ((doM p.m t (clG g)).1.txns.length) ≤ (p.done ++ [_]).length
          have h8 := doM_txns p.m t (clG g)
          have h9 := h.tx
          simp; omega
      · rw [if_neg e2] at hn ⊢
        have hp2 : g.ph = 2 := by omega
        have hcl := q5 (by omega)
        obtain ⟨k0, d0, z1, z2, z3, z4, z5⟩ := h.mrk _ _ htk hp2
        have hk0 := (List.getElem?_eq_some_iff.1 z2).1
        have ek : g.don.toNat = k0 := by omega
        have ed : p.done.getD g.don.toNat dn0 = d0 := by rw [ek, List.getD_eq_getElem?_getD, z2]; rfl
        have hcases : ∀ k d, (p.done.set g.don.toNat { (p.done.getD g.don.toNat dn0) with back := p.taken })[k]? = some d → (k = k0 ∧ d = { d0 with back := p.taken }) ∨ (k ≠ k0 ∧ p.done[k]? = some d) := fun k d hd => by
          rw [ed, ek, List.getElem?_set] at hd
          by_cases e : k0 = k
          · rw [if_pos e, if_pos hk0] at hd; cases hd; exact .inl ⟨e.symm, rfl⟩
          · rw [if_neg e] at hd; exact .inr ⟨fun x => e x.symm, hd⟩
        refine ⟨h.ok, h.cf, by show ((setP p t _).length : Int) = _; rw [setP_len]; exact h.len, fun i g' hi => ?_, fun i g' hi hp => ?_, fun k d hd => ?_, ?_, ?_, ?_⟩
        · rcases setP_at h3 h4 hi with ⟨rfl, rfl⟩ | ⟨_, hi⟩
          · exact ⟨q1, by show 0 ≤ g.call + 1; omega, by show g.call + 1 ≤ (g.prog.length : Int); omega, ⟨by show (0 : Int) ≤ 0; decide, by show (0 : Int) ≤ 2; decide⟩, fun h => absurd rfl h⟩
          · exact h.prg i g' hi
        · rcases setP_at h3 h4 hi with ⟨rfl, rfl⟩ | ⟨hne, hi⟩
          · exact absurd (show (0 : Int) = 2 from hp) (by decide)
          · obtain ⟨k, d, y1, y2, y3, y4, y5⟩ := h.mrk i g' hi hp
            refine ⟨k, d, y1, ?_, y3, y4, y5⟩
            show (p.done.set _ _)[k]? = _
            rw [ek, List.getElem?_set, if_neg]
            · exact y2
            · intro e; subst e; rw [z2] at y2; cases y2; exact hne (by omega)
        · have hd := hcases k d hd
          rcases hd with ⟨rfl, rfl⟩ | ⟨hne, hd⟩
          · obtain ⟨r1, r2, r3, r4⟩ := h.dn k d0 z2
            have htk0 := h.tk
            have hpt : 0 ≤ p.taken := by omega
            have hmk : d0.mark < p.taken + 1 := by omega
            have hb1 : -1 ≤ p.taken := by omega
            refine ⟨r1, ⟨hb1, Int.lt_succ p.taken, r2.2.2.1, hmk⟩, r3, fun hbk => ?_⟩
            have h9 : p.taken = -1 := hbk
            rw [h9] at hpt
            exact absurd hpt (by decide)
          · obtain ⟨r1, r2, r3, r4⟩ := h.dn k d hd
            refine ⟨r1, ⟨r2.1, by show d.back < p.taken + 1; omega, r2.2.2.1, by show d.mark < p.taken + 1; omega⟩, r3, fun hbk => ?_⟩
            obtain ⟨g', hg', hph, hdn⟩ := r4 hbk
            refine ⟨g', ?_, hph, hdn⟩
            show (setP p t _)[_]? = _
            rw [setP_ne]
            · exact hg'
            · intro e; rw [e, htk] at hg'; cases hg'; exact hne (Int.ofNat.inj (hdn.symm.trans z1))
        · show ((p.done.set _ _).length : Int) ≤ p.taken + 1
          rw [List.length_set]; have := h.tk; omega
        · show p.m = runD P (newM c) (p.done.set _ _)
          rw [ed, ek, h.run]
          exact (runD_set P p.done k0 d0 { d0 with back := p.taken } (newM c) z2 rfl rfl).symm
        · show p.m.txns.length ≤ (p.done.set _ _).length
          rw [List.length_set]; exact h.tx
theorem POk.play {c : Conf} {P : Ps} : ∀ {l : List Ev} {p q : Pl}, POk c P p → playP p l = some q → POk c P q
  | [], p, q, h, hq => by cases hq; exact h
  | e :: l, p, q, h, hq => by
    have hq : (if (takeP p e).2 = 4 then none else playP (takeP p e).1 l) = some q := hq
    by_cases h4 : (takeP p e).2 = 4
    · rw [if_pos h4] at hq; cases hq
    · rw [if_neg h4] at hq; exact (h.take e h4).play hq
theorem take_len {p : Pl} {e : Ev} (hn : (takeP p e).2 ≠ 4) : (takeP p e).1.taken = p.taken + 1 ∧ (takeP p e).1.done.length ≤ p.done.length + 1 := by
  unfold takeP at hn ⊢
  cases hb : badP p e with
  | true => rw [hb, if_pos rfl] at hn; exact absurd rfl hn
  | false =>
    rw [hb, if_neg (by decide)] at hn
    rw [if_neg (by decide)]
    split
    · split <;> exact ⟨rfl, Nat.le_succ _⟩
    · split
      · exact ⟨rfl, by show (p.done ++ [_]).length ≤ _; simp⟩
      · exact ⟨rfl, by show (p.done.set _ _).length ≤ _; rw [List.length_set]; omega⟩
theorem play_len : ∀ {l : List Ev} {p q : Pl}, playP p l = some q → q.taken = p.taken + l.length
  | [], p, q, hq => by cases hq; show _ = p.taken + ((0 : Nat) : Int); omega
  | e :: l, p, q, hq => by
    have hq : (if (takeP p e).2 = 4 then none else playP (takeP p e).1 l) = some q := hq
    by_cases h4 : (takeP p e).2 = 4
    · rw [if_pos h4] at hq; cases hq
    · rw [if_neg h4] at hq
      have h1 := play_len hq
      have h2 := (take_len h4).1
      rw [List.length_cons]; omega
end Go.Proofs.Ytoinjnocopejjaa

/- What there may be behind a history: the sums, their bounds. -/
namespace Go.Proofs.Ytoinjnocopejjaa
set_option linter.unusedVariables false
set_option linter.unusedSimpArgs false
def rN (s : MS) : Nat := sumK retR s.rows
/-- what a call that has a Mark, and no Return, asks for -/
def askP (c : Conf) (x : Cl) (took : Nat) : Int × Int := if x.1 = 3 ∨ x.1 = 4 then (2, 1) else if x.1 = 9 then (c.de + 1, 0) else (took, took)
def moreP (c : Conf) (P : Ps) (s : MS) (d : Dn) : Int × Int := if 0 ≤ d.back then (0, 0) else askP c (clP P d) (rN s - rN (doM s d.task (clP P d)).1)
def sumR (c : Conf) (P : Ps) : MS → List Dn → Int × Int
  | s, [] => (0, 0)
  | s, d :: l => ((moreP c P s d).1 + (sumR c P (doM s d.task (clP P d)).1 l).1, (moreP c P s d).2 + (sumR c P (doM s d.task (clP P d)).1 l).2)
theorem sumR_snoc (c : Conf) (P : Ps) : ∀ (l : List Dn) (s : MS) (d : Dn), sumR c P s (l ++ [d]) = ((sumR c P s l).1 + (moreP c P (runD P s l) d).1, (sumR c P s l).2 + (moreP c P (runD P s l) d).2)
  | [], s, d => by
    show ((moreP c P s d).1 + 0, (moreP c P s d).2 + 0) = (0 + (moreP c P s d).1, 0 + (moreP c P s d).2)
    rw [Int.add_zero, Int.add_zero, Int.zero_add, Int.zero_add]
  | x :: l, s, d => by
    have ih := sumR_snoc c P l (doM s x.task (clP P x)).1 d
    show (_ + (sumR c P _ (l ++ [d])).1, _ + (sumR c P _ (l ++ [d])).2) = _
    rw [ih]
    show _ = ((_ + _) + (moreP c P (runD P (doM s x.task (clP P x)).1 l) d).1, (_ + _) + (moreP c P (runD P (doM s x.task (clP P x)).1 l) d).2)
    simp only [Int.add_assoc]
theorem sum_take (c : Conf) (P : Ps) (s : MS) (l : List Dn) (k : Nat) (d : Dn) (h : l[k]? = some d) : sumR c P s (l.take (k + 1)) = ((sumR c P s (l.take k)).1 + (moreP c P (runD P s (l.take k)) d).1, (sumR c P s (l.take k)).2 + (moreP c P (runD P s (l.take k)) d).2) := by
  rw [List.take_add_one, h]; exact sumR_snoc c P _ s d
theorem run_take (P : Ps) (s : MS) (l : List Dn) (k : Nat) (d : Dn) (h : l[k]? = some d) : runD P s (l.take (k + 1)) = (doM (runD P s (l.take k)) d.task (clP P d)).1 := by
  rw [List.take_add_one, h, runD_app]; rfl
theorem run_ok {P : Ps} : ∀ {l : List Dn} {s : MS}, OkM s → OkM (runD P s l)
  | [], s, h => h
  | d :: l, s, h => run_ok (l := l) (h.do_ _ _)
theorem run_cf {P : Ps} : ∀ {l : List Dn} {s : MS}, (runD P s l).cf = s.cf
  | [], s => rfl
  | d :: l, s => (run_cf (l := l)).trans (doM_cf _ _ _)
theorem run_tx {P : Ps} : ∀ {l : List Dn} {s : MS}, (runD P s l).txns.length ≤ s.txns.length + l.length
  | [], s => Nat.le_refl _
  | d :: l, s => by
    have h1 := run_tx (P := P) (l := l) (s := (doM s d.task (clP P d)).1)
    have h2 := doM_txns s d.task (clP P d)
    show (runD P _ l).txns.length ≤ _
    rw [List.length_cons]; omega
/-- how many versions and intents there are at most -/
theorem OkM.rN_le {s : MS} (h : OkM s) : (rN s : Int) ≤ s.cf.ke * s.cf.de := by
  have hm := may_lo h.may
  have hd : ∀ p ∈ s.rows, retR p.2 ≤ s.cf.de.toNat := fun p hp => by have := h.deep p hp; omega
  have h1 : ∀ l : List (ByteArray × Rw), (∀ p ∈ l, retR p.2 ≤ s.cf.de.toNat) → sumK retR l ≤ l.length * s.cf.de.toNat := by
    intro l
    induction l with
    | nil => intro _; show 0 ≤ _; omega
    | cons p l ih =>
      intro hp
      have a := hp p (List.mem_cons_self ..)
      have b := ih (fun q hq => hp q (List.mem_cons_of_mem _ hq))
      show retR p.2 + sumK retR l ≤ _
      rw [List.length_cons, Nat.add_mul]; omega
  have h2 := h1 s.rows hd
  have h3 := h.keys
  have h4 : s.rows.length * s.cf.de.toNat ≤ s.cf.ke.toNat * s.cf.de.toNat := Nat.mul_le_mul_right _ (by omega)
  have h5 : ((s.cf.ke.toNat * s.cf.de.toNat : Nat) : Int) = s.cf.ke * s.cf.de := by
    rw [Int.natCast_mul, Int.toNat_of_nonneg (by omega), Int.toNat_of_nonneg (by omega)]
  unfold rN
  omega
def opN (l : List Dn) : Nat := (l.filter fun d => decide (d.back < 0)).length
def tskN (c : Conf) : Int := max (c.ke * c.de) (c.de + 1)
theorem moreP_b {c : Conf} {P : Ps} {s : MS} (h : OkM s) (hc : s.cf = c) (d : Dn) : 0 ≤ (moreP c P s d).1 ∧ 0 ≤ (moreP c P s d).2 ∧ (if d.back < 0 then (moreP c P s d).1 ≤ tskN c ∧ (moreP c P s d).2 ≤ c.ke * c.de else moreP c P s d = (0, 0)) := by
  have hm := may_lo h.may
  have hr := h.rN_le
  rw [hc] at hm hr
  have hall : c.de ≤ c.ke * c.de := by
    have : 1 * c.de ≤ c.ke * c.de := Int.mul_le_mul_of_nonneg_right (by omega) (by omega)
    omega
  unfold moreP
  by_cases hb : 0 ≤ d.back
  · rw [if_pos hb, if_neg (by omega)]
    exact ⟨Int.le_refl _, Int.le_refl _, rfl⟩
  · rw [if_neg hb, if_pos (by omega)]
    unfold askP tskN
    split
    · refine ⟨by decide, by decide, ?_, ?_⟩
      · show (2 : Int) ≤ _; omega
      · show (1 : Int) ≤ _; omega
    · split
      · refine ⟨?_, Int.le_refl _, ?_, ?_⟩
        · show 0 ≤ c.de + 1; omega
        · show c.de + 1 ≤ _; omega
        · show (0 : Int) ≤ _; omega
      · refine ⟨?_, ?_, ?_, ?_⟩
        · show (0 : Int) ≤ ((rN s - _ : Nat) : Int); omega
        · show (0 : Int) ≤ ((rN s - _ : Nat) : Int); omega
        · show ((rN s - _ : Nat) : Int) ≤ _; omega
        · show ((rN s - _ : Nat) : Int) ≤ _; omega
theorem sumR_b {c : Conf} {P : Ps} (hm : mayB c = true) : ∀ {l : List Dn} {s : MS}, OkM s → s.cf = c → 0 ≤ (sumR c P s l).1 ∧ 0 ≤ (sumR c P s l).2 ∧ (sumR c P s l).1 ≤ (opN l : Int) * tskN c ∧ (sumR c P s l).2 ≤ (opN l : Int) * (c.ke * c.de)
  | [], s, _, _ => by
    refine ⟨Int.le_refl _, Int.le_refl _, ?_, ?_⟩
    · show (0 : Int) ≤ ((0 : Nat) : Int) * _; rw [Int.natCast_zero, Int.zero_mul]; exact Int.le_refl _
    · show (0 : Int) ≤ ((0 : Nat) : Int) * _; rw [Int.natCast_zero, Int.zero_mul]; exact Int.le_refl _
  | d :: l, s, h, hc => by
    obtain ⟨i1, i2, i3, i4⟩ := sumR_b (P := P) hm (l := l) (h.do_ d.task (clP P d)) ((doM_cf _ _ _).trans hc)
    obtain ⟨m1, m2, m3⟩ := moreP_b (P := P) h hc d
    obtain ⟨r, hr⟩ : ∃ r, sumR c P (doM s d.task (clP P d)).1 l = r := ⟨_, rfl⟩
    rw [hr] at i1 i2 i3 i4
    have e1 : sumR c P s (d :: l) = ((moreP c P s d).1 + r.1, (moreP c P s d).2 + r.2) := by rw [← hr]; rfl
    rw [e1]
    obtain ⟨mr, hmr⟩ : ∃ mr, moreP c P s d = mr := ⟨_, rfl⟩
    rw [hmr] at m1 m2 m3 ⊢
    have e2 : opN (d :: l) = (if d.back < 0 then 1 else 0) + opN l := by
      unfold opN
      rw [List.filter_cons]
      by_cases hb : d.back < 0
      · rw [if_pos (decide_eq_true hb), if_pos hb, List.length_cons]; omega
      · rw [if_neg (by rw [decide_eq_false hb]; decide), if_neg hb]; omega
    rw [e2]
    refine ⟨by show 0 ≤ mr.1 + r.1; omega, by show 0 ≤ mr.2 + r.2; omega, ?_, ?_⟩
    · show mr.1 + r.1 ≤ _
      by_cases hb : d.back < 0
      · rw [if_pos hb] at m3 ⊢
        rw [Int.natCast_add, Int.add_mul]
        show _ ≤ (1 : Int) * tskN c + _
        rw [Int.one_mul]; omega
      · rw [if_neg hb] at m3 ⊢
        rw [m3, Nat.zero_add]
        show (0 : Int) + r.1 ≤ _; omega
    · show mr.2 + r.2 ≤ _
      by_cases hb : d.back < 0
      · rw [if_pos hb] at m3 ⊢
        rw [Int.natCast_add, Int.add_mul]
        show _ ≤ (1 : Int) * (c.ke * c.de) + _
        rw [Int.one_mul]; omega
      · rw [if_neg hb] at m3 ⊢
        rw [m3, Nat.zero_add]
        show (0 : Int) + r.2 ≤ _; omega
theorem holes : ∀ (n : Nat) (l : List Nat), l.Nodup → (∀ x ∈ l, x < n) → l.length ≤ n
  | 0, l, _, h => by
    cases l with
    | nil => exact Nat.le_refl _
    | cons x l => exact absurd (h x (List.mem_cons_self ..)) (Nat.not_lt_zero _)
  | n + 1, l, hn, h => by
    have h1 := holes n (l.erase n) (hn.erase n) (fun x hx => by
      have hx2 := (List.Nodup.mem_erase_iff hn).1 hx
      have := h x hx2.2
      omega)
    rw [List.length_erase] at h1
    split at h1 <;> omega
theorem POk.open_le {c : Conf} {P : Ps} {p : Pl} (h : POk c P p) : (opN p.done : Int) ≤ c.ta := by
  have hm := may_lo (h.cf ▸ h.ok.may)
  have hpw : p.done.Pairwise fun d d' => d.back < 0 → d'.back < 0 → d.task.toNat ≠ d'.task.toNat := by
    rw [List.pairwise_iff_getElem]
    intro i j hi hj hij b1 b2 e
    obtain ⟨_, r2, _, r4⟩ := h.dn i _ (List.getElem?_eq_getElem hi)
    obtain ⟨_, s2, _, s4⟩ := h.dn j _ (List.getElem?_eq_getElem hj)
    obtain ⟨g, g1, _, g3⟩ := r4 (by omega)
    obtain ⟨g', g1', _, g3'⟩ := s4 (by omega)
    rw [e, g1'] at g1
    cases g1
    rw [g3] at g3'
    have := Int.ofNat.inj g3'
    omega
  have hnd : ((p.done.filter fun d => decide (d.back < 0)).map fun d => d.task.toNat).Nodup := by
    unfold List.Nodup
    rw [List.pairwise_map]
    refine List.Pairwise.imp_of_mem (fun {a b} ha hb hab => ?_) (List.Pairwise.filter _ hpw)
    exact hab (of_decide_eq_true (List.mem_filter.1 ha).2) (of_decide_eq_true (List.mem_filter.1 hb).2)
  have hlt : ∀ x ∈ ((p.done.filter fun d => decide (d.back < 0)).map fun d => d.task.toNat), x < c.ta.toNat := fun x hx => by
    obtain ⟨d, hd, rfl⟩ := List.mem_map.1 hx
    obtain ⟨k, hk⟩ := List.getElem?_of_mem (List.mem_filter.1 hd).1
    have := (h.dn k d hk).1
    omega
  have := holes _ _ hnd hlt
  rw [List.length_map] at this
  unfold opN
  omega
/-- the answer of Now -/
def mayP (c : Conf) (P : Ps) : Bool := mayB c && (decide ((P.length : Int) ≤ c.ta) && P.all fun l => decide (l.length ≤ 64))
def sumP (c : Conf) (P : Ps) (p : Pl) : Int × Int := ((sumR c P (newM c) p.done).1 + rN p.m, (sumR c P (newM c) p.done).2 + p.m.rows.length)
def nowP (c : Conf) (P : Ps) (l : List Ev) : Int × Int × Int :=
  if mayP c P = false then (0, 0, 1) else match playP (newP c P) l with
  | none => (0, 0, 4)
  | some p => ((sumP c P p).1, (sumP c P p).2, 0)
def boundP (c : Conf) : Int × Int := if mayB c = true then (c.ke * c.de + c.ta * tskN c, c.ke + c.ta * (c.ke * c.de)) else (0, 0)
theorem sumP_b {c : Conf} {P : Ps} {p : Pl} (h : POk c P p) : 0 ≤ (sumP c P p).1 ∧ 0 ≤ (sumP c P p).2 ∧ (sumP c P p).1 ≤ (boundP c).1 ∧ (sumP c P p).2 ≤ (boundP c).2 := by
  have hmay : mayB c = true := h.cf ▸ h.ok.may
  have hm := may_lo hmay
  obtain ⟨i1, i2, i3, i4⟩ := sumR_b (P := P) hmay (l := p.done) (OkM.new hmay) rfl
  have ho := h.open_le
  have hr := h.ok.rN_le
  have hk := h.ok.keys
  rw [h.cf] at hr hk
  have hall : 0 ≤ c.ke * c.de := Int.mul_nonneg (by omega) (by omega)
  have ht : 0 ≤ tskN c := by unfold tskN; omega
  have m1 : (opN p.done : Int) * tskN c ≤ c.ta * tskN c := Int.mul_le_mul_of_nonneg_right ho ht
  have m2 : (opN p.done : Int) * (c.ke * c.de) ≤ c.ta * (c.ke * c.de) := Int.mul_le_mul_of_nonneg_right ho hall
  unfold boundP
  rw [if_pos hmay]
  unfold sumP
  refine ⟨?_, ?_, ?_, ?_⟩ <;> simp only <;> omega
theorem sumR_closed {c : Conf} {P : Ps} : ∀ {l : List Dn} {s : MS}, (∀ d ∈ l, 0 ≤ d.back) → sumR c P s l = (0, 0)
  | [], s, _ => rfl
  | d :: l, s, h => by
    have e : moreP c P s d = (0, 0) := by unfold moreP; rw [if_pos (h d (List.mem_cons_self ..))]
    show ((moreP c P s d).1 + _, (moreP c P s d).2 + _) = _
    rw [e, sumR_closed (fun d' hd => h d' (List.mem_cons_of_mem _ hd))]; rfl
theorem sumR_back {c : Conf} {P : Ps} (hm : mayB c = true) : ∀ {l : List Dn} {s : MS} {k : Nat} {d : Dn} {b : Int}, OkM s → s.cf = c → l[k]? = some d → 0 ≤ b → (sumR c P s (l.set k { d with back := b })).1 ≤ (sumR c P s l).1 ∧ (sumR c P s (l.set k { d with back := b })).2 ≤ (sumR c P s l).2
  | [], s, k, d, b, _, _, hk, _ => by simp at hk
  | x :: l, s, 0, d, b, h, hc, hk, hb => by
    simp at hk; subst hk
    have e : clP P { x with back := b } = clP P x := rfl
    obtain ⟨m1, m2, _⟩ := moreP_b (P := P) h hc x
    have e2 : moreP c P s { x with back := b } = (0, 0) := by unfold moreP; rw [if_pos hb]
    show (moreP c P s { x with back := b }).1 + (sumR c P (doM s x.task (clP P x)).1 l).1 ≤ (moreP c P s x).1 + (sumR c P (doM s x.task (clP P x)).1 l).1 ∧ (moreP c P s { x with back := b }).2 + (sumR c P (doM s x.task (clP P x)).1 l).2 ≤ (moreP c P s x).2 + (sumR c P (doM s x.task (clP P x)).1 l).2
    rw [e2]
    constructor <;> simp only <;> omega
  | x :: l, s, k + 1, d, b, h, hc, hk, hb => by
    obtain ⟨i1, i2⟩ := sumR_back (P := P) hm (l := l) (h.do_ x.task (clP P x)) ((doM_cf _ _ _).trans hc) (show l[k]? = some d by simpa using hk) hb
    show (moreP c P s x).1 + (sumR c P (doM s x.task (clP P x)).1 (l.set k { d with back := b })).1 ≤ (moreP c P s x).1 + (sumR c P (doM s x.task (clP P x)).1 l).1 ∧ (moreP c P s x).2 + (sumR c P (doM s x.task (clP P x)).1 (l.set k { d with back := b })).2 ≤ (moreP c P s x).2 + (sumR c P (doM s x.task (clP P x)).1 l).2
    omega
/-- what an Invoke, a Return make of the sums -/
theorem sumP_take {c : Conf} {P : Ps} {p : Pl} (h : POk c P p) (e : Ev) (hn : (takeP p e).2 ≠ 4) : (e.1 = 1 → sumP c P (takeP p e).1 = sumP c P p) ∧ (e.1 = 3 → (sumP c P (takeP p e).1).1 ≤ (sumP c P p).1 ∧ (sumP c P (takeP p e).1).2 ≤ (sumP c P p).2) := by
  have hmay : mayB c = true := h.cf ▸ h.ok.may
  unfold takeP at hn ⊢
  cases hb : badP p e with
  | true => rw [hb, if_pos rfl] at hn; exact absurd rfl hn
  | false =>
    rw [if_neg (by decide)]
    obtain ⟨h1, h2, h3, h4, h5, h6, h7⟩ := bad_no hb
    refine ⟨fun e1 => ?_, fun e3 => ?_⟩
    · rw [if_pos e1]
      split <;> rfl
    · rw [if_neg (by omega), if_neg (by omega)]
      have htk := tk_at h3 h4
      obtain ⟨k0, d0, z1, z2, z3, z4, z5⟩ := h.mrk _ _ htk (by omega)
      have ek : (tkP p e.2.1).don.toNat = k0 := by rw [z1]; rfl
      have ed : p.done.getD (tkP p e.2.1).don.toNat dn0 = d0 := by rw [ek, List.getD_eq_getElem?_getD, z2]; rfl
      have ht := h.tk
      obtain ⟨i1, i2⟩ := sumR_back (P := P) hmay (b := p.taken) (OkM.new hmay) rfl z2 (by omega)
      show (sumR c P (newM c) (p.done.set (tkP p e.2.1).don.toNat { (p.done.getD (tkP p e.2.1).don.toNat dn0) with back := p.taken })).1 + (rN p.m : Int) ≤ (sumR c P (newM c) p.done).1 + (rN p.m : Int) ∧ (sumR c P (newM c) (p.done.set (tkP p e.2.1).don.toNat { (p.done.getD (tkP p e.2.1).don.toNat dn0) with back := p.taken })).2 + (p.m.rows.length : Int) ≤ (sumR c P (newM c) p.done).2 + (p.m.rows.length : Int)
      rw [ed, ek]
      exact ⟨Int.add_le_add_right i1 _, Int.add_le_add_right i2 _⟩
end Go.Proofs.Ytoinjnocopejjaa

/- Steps and rounds, in plain words; of a larger config they are not less. -/
namespace Go.Proofs.Ytoinjnocopejjaa
set_option linter.unusedVariables false
set_option linter.unusedSimpArgs false
set_option linter.unusedSectionVars false
def lvN (c : Conf) : Int := ((boundP c).2 - 1) / c.fa + 1
def keyN (c : Conf) : Int := 4 * (lvN c + 2) + lvN c + 16
def sloN (c : Conf) : Int := 8 * ((boundP c).1 + 2 * c.ta + 1)
def stepsP (c : Conf) (k : Nat) : Int :=
  if mayB c = false then 0 else if k = 1 then 3 else if k = 2 ∨ k = 3 ∨ k = 4 then keyN c + sloN c
  else if k = 6 ∨ k = 7 then 4 + c.ke * keyN c + sloN c else if k = 5 ∨ k = 8 ∨ k = 9 then 6 + ((boundP c).2 + c.ta + 1) * keyN c + sloN c else 2
def mostP (c : Conf) : Nat → Int
  | 0 => 0
  | n + 1 => max (mostP c n) (stepsP c n)
def roundsP (c : Conf) : Int := c.ta * mostP c 10
structure Num (c : Conf) : Prop where
  all : 2 ≤ c.ke * c.de ∧ c.ke * c.de ≤ 512
  tsk : 3 ≤ tskN c ∧ tskN c ≤ 512
  tt : 3 ≤ c.ta * tskN c ∧ c.ta * tskN c ≤ 3072
  ta : 2 ≤ c.ta * (c.ke * c.de) ∧ c.ta * (c.ke * c.de) ≤ 3072
  b1 : 5 ≤ (boundP c).1 ∧ (boundP c).1 ≤ 3584
  b2 : 3 ≤ (boundP c).2 ∧ (boundP c).2 ≤ 3136
  lv : 1 ≤ lvN c ∧ lvN c ≤ 1046
  key : 29 ≤ keyN c ∧ keyN c ≤ 5254
  slo : 48 ≤ sloN c ∧ sloN c ≤ 28776
  kk : 0 ≤ c.ke * keyN c ∧ c.ke * keyN c ≤ 336256
  ak : 0 ≤ ((boundP c).2 + c.ta + 1) * keyN c ∧ ((boundP c).2 + c.ta + 1) * keyN c ≤ 16513322
theorem mulB {a b A B : Int} (h0 : 0 ≤ a) (h1 : a ≤ A) (h2 : 0 ≤ b) (h3 : b ≤ B) : 0 ≤ a * b ∧ a * b ≤ A * B :=
  ⟨Int.mul_nonneg h0 h2, Int.mul_le_mul h1 h3 h2 (by omega)⟩
theorem mulL {a b A B : Int} (h0 : 0 ≤ A) (h1 : A ≤ a) (h2 : 0 ≤ B) (h3 : B ≤ b) : A * B ≤ a * b := Int.mul_le_mul h1 h3 h2 (by omega)
theorem num_ok {c : Conf} (h : mayB c = true) : Num c := by
  have hm := may_lo h
  have a1 := mulB (a := c.ke) (b := c.de) (A := 64) (B := 8) (by omega) (by omega) (by omega) (by omega)
  have a2 := mulL (a := c.ke) (b := c.de) (A := 1) (B := 2) (by omega) (by omega) (by omega) (by omega)
  have ht : 3 ≤ tskN c ∧ tskN c ≤ 512 := by unfold tskN; omega
  have t1 := mulB (a := c.ta) (b := tskN c) (A := 6) (B := 512) (by omega) (by omega) (by omega) (by omega)
  have t2 := mulL (a := c.ta) (b := tskN c) (A := 1) (B := 3) (by omega) (by omega) (by omega) (by omega)
  have s1 := mulB (a := c.ta) (b := c.ke * c.de) (A := 6) (B := 512) (by omega) (by omega) (by omega) (by omega)
  have s2 := mulL (a := c.ta) (b := c.ke * c.de) (A := 1) (B := 2) (by omega) (by omega) (by omega) (by omega)
  have e1 : (boundP c).1 = c.ke * c.de + c.ta * tskN c := by unfold boundP; rw [if_pos h]
  have e2 : (boundP c).2 = c.ke + c.ta * (c.ke * c.de) := by unfold boundP; rw [if_pos h]
  have b1 : 5 ≤ (boundP c).1 ∧ (boundP c).1 ≤ 3584 := by omega
  have b2 : 3 ≤ (boundP c).2 ∧ (boundP c).2 ≤ 3136 := by omega
  have hd1 : 0 ≤ ((boundP c).2 - 1) / c.fa := Int.ediv_nonneg (by omega) (by omega)
  have hd2 : ((boundP c).2 - 1) / c.fa ≤ 1045 := by
    have h3 : ((boundP c).2 - 1) / c.fa < 1046 := by
      apply Int.ediv_lt_of_lt_mul (by omega)
      have := mulL (a := 1046) (b := c.fa) (A := 1046) (B := 3) (by omega) (by omega) (by omega) (by omega)
      omega
    omega
  have lv : 1 ≤ lvN c ∧ lvN c ≤ 1046 := by unfold lvN; omega
  have key : 29 ≤ keyN c ∧ keyN c ≤ 5254 := by unfold keyN; omega
  have slo : 48 ≤ sloN c ∧ sloN c ≤ 28776 := by unfold sloN; omega
  have kk := mulB (a := c.ke) (b := keyN c) (A := 64) (B := 5254) (by omega) (by omega) (by omega) (by omega)
  have ak := mulB (a := (boundP c).2 + c.ta + 1) (b := keyN c) (A := 3143) (B := 5254) (by omega) (by omega) (by omega) (by omega)
  exact ⟨by omega, ht, by omega, by omega, b1, b2, lv, key, slo, by omega, by omega⟩
theorem steps_b {c : Conf} (h : mayB c = true) (k : Nat) : 0 ≤ stepsP c k ∧ stepsP c k ≤ 16542104 := by
  have n := num_ok h
  have := n.key; have := n.slo; have := n.kk; have := n.ak
  unfold stepsP
  rw [h]
  rw [if_neg (by decide)]
  repeat' split
  all_goals omega
theorem steps_no {c : Conf} (h : mayB c = false) (k : Nat) : stepsP c k = 0 := by unfold stepsP; rw [if_pos h]
theorem steps_nn (c : Conf) (k : Nat) : 0 ≤ stepsP c k ∧ stepsP c k ≤ 16542104 := by
  cases h : mayB c with
  | true => exact steps_b h k
  | false => rw [steps_no h]; decide
theorem most_b (c : Conf) : ∀ n, 0 ≤ mostP c n ∧ mostP c n ≤ 16542104
  | 0 => by show (0 : Int) ≤ 0 ∧ (0 : Int) ≤ _; decide
  | n + 1 => by
    have h1 := most_b c n
    have h2 := steps_nn c n
    show 0 ≤ max _ _ ∧ max _ _ ≤ _
    omega
theorem most_no {c : Conf} (h : mayB c = false) : ∀ n, mostP c n = 0
  | 0 => rfl
  | n + 1 => by show max (mostP c n) (stepsP c n) = 0; rw [most_no h n, steps_no h]; rfl
/-- a config of which no number is less, but Fan the same -/
structure Lgr (c d : Conf) : Prop where
  ta : c.ta ≤ d.ta
  ke : c.ke ≤ d.ke
  de : c.de ≤ d.de
  fa : d.fa = c.fa
section
variable {c d : Conf} (h : mayB c = true) (k : mayB d = true) (l : Lgr c d)
include h k l
theorem Lgr.all : c.ke * c.de ≤ d.ke * d.de := by
  have hm := may_lo h
  have := l.ke; have := l.de
  exact mulL (by omega) (by omega) (by omega) (by omega)
theorem Lgr.tsk : tskN c ≤ tskN d := by
  have := Lgr.all h k l; have := l.de
  unfold tskN; omega
theorem Lgr.bound : (boundP c).1 ≤ (boundP d).1 ∧ (boundP c).2 ≤ (boundP d).2 := by
  have hm := may_lo h
  have n := num_ok h
  have h1 := Lgr.all h k l
  have h2 := Lgr.tsk h k l
  have := l.ta; have := l.ke
  have n1 := n.all; have n2 := n.tsk
  have a := mulL (a := d.ta) (b := tskN d) (A := c.ta) (B := tskN c) (by omega) (by omega) (by omega) (by omega)
  have b := mulL (a := d.ta) (b := d.ke * d.de) (A := c.ta) (B := c.ke * c.de) (by omega) (by omega) (by omega) (by omega)
  unfold boundP
  rw [if_pos h, if_pos k]
  constructor <;> simp only <;> omega
theorem Lgr.key : keyN c ≤ keyN d := by
  have hm := may_lo h
  have hb := (Lgr.bound h k l).2
  have : lvN c ≤ lvN d := by
    unfold lvN
    rw [l.fa]
    have := Int.ediv_le_ediv (c := c.fa) (by omega) (show (boundP c).2 - 1 ≤ (boundP d).2 - 1 by omega)
    omega
  unfold keyN; omega
theorem Lgr.slo : sloN c ≤ sloN d := by
  have hb := (Lgr.bound h k l).1
  have := l.ta
  unfold sloN; omega
theorem Lgr.steps (j : Nat) : stepsP c j ≤ stepsP d j := by
  have hm := may_lo h
  have n := num_ok h
  have h1 := Lgr.key h k l
  have h2 := Lgr.slo h k l
  have h3 := (Lgr.bound h k l).2
  have := l.ke; have := l.ta
  have n1 := n.key; have n2 := n.b2
  have a := mulL (a := d.ke) (b := keyN d) (A := c.ke) (B := keyN c) (by omega) (by omega) (by omega) (by omega)
  have b := mulL (a := (boundP d).2 + d.ta + 1) (b := keyN d) (A := (boundP c).2 + c.ta + 1) (B := keyN c) (by omega) (by omega) (by omega) (by omega)
  unfold stepsP
  rw [if_neg (show ¬ mayB c = false by rw [h]; decide), if_neg (show ¬ mayB d = false by rw [k]; decide)]
  by_cases j1 : j = 1
  · rw [if_pos j1, if_pos j1]; omega
  rw [if_neg j1, if_neg j1]
  by_cases j2 : j = 2 ∨ j = 3 ∨ j = 4
  · rw [if_pos j2, if_pos j2]; omega
  rw [if_neg j2, if_neg j2]
  by_cases j3 : j = 6 ∨ j = 7
  · rw [if_pos j3, if_pos j3]; omega
  rw [if_neg j3, if_neg j3]
  by_cases j4 : j = 5 ∨ j = 8 ∨ j = 9
  · rw [if_pos j4, if_pos j4]; omega
  rw [if_neg j4, if_neg j4]
  omega
theorem Lgr.most : ∀ n, mostP c n ≤ mostP d n
  | 0 => Int.le_refl _
  | n + 1 => by
    have h1 := Lgr.most n
    have h2 := Lgr.steps h k l n
    show max _ _ ≤ max _ _
    omega
theorem Lgr.rounds : roundsP c ≤ roundsP d := by
  have hm := may_lo h
  have := l.ta
  have h1 := Lgr.most h k l 10
  have h2 := most_b c 10
  exact mulL (by omega) (by omega) (by omega) h1
end
/-- two configs, number by number the greater -/
def maxC (c d : Conf) : Conf := ⟨max c.ta d.ta, max c.ac d.ac, max c.ke d.ke, max c.de d.de, max c.ts d.ts, max c.kl d.kl, max c.vl d.vl, c.fa⟩
theorem maxC_may {c d : Conf} (h : mayB c = true) (k : mayB d = true) : mayB (maxC c d) = true := by
  have h1 := may_lo h
  have h2 := may_lo k
  apply mayB_yes
  intro j hj
  match j, hj with
  | 0, _ | 1, _ | 2, _ | 3, _ | 4, _ | 5, _ | 6, _ | 7, _ =>
    simp only [lo, hi, Conf.num, maxC]; omega
theorem maxC_lgr (c d : Conf) : Lgr c (maxC c d) := ⟨by show _ ≤ max _ _; omega, by show _ ≤ max _ _; omega, by show _ ≤ max _ _; omega, rfl⟩
end Go.Proofs.Ytoinjnocopejjaa
