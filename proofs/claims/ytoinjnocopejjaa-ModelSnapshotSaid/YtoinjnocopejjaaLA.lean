/- LA, LB, LC, LD in one. -/
import Derived.Test.YtoinjnocopejjaaSA
/- The log of what was done: its words. -/
namespace Go.Proofs.Ytoinjnocopejjaa
set_option linter.unusedVariables false
set_option linter.unusedSimpArgs false
structure Fc where
  ts : Int
  key : ByteArray
  tomb : Bool
  val : ByteArray
structure Lf where
  task : Int
  n : Int
  sn : Int
  ws : List Fc
  begun : Int
  over : Int
structure Lg where
  time : Int
  facts : List Fc
  lives : List Lf
def lg0 : Lg := ⟨0, [], []⟩
def fc0 : Fc := ⟨0, emp, false, emp⟩
def fcT : Fc := ⟨0, emp, true, emp⟩
def lf0 : Lf := ⟨0, 0, 0, [], 0, 0⟩
/-- where a task's transaction is; the length: nowhere -/
def findN (t n : Int) : List Lf → Nat
  | [] => 0
  | l :: r => if l.task = t ∧ l.n = n then 0 else findN t n r + 1
def findL (g : Lg) (t n : Int) : Int := if findN t n g.lives < g.lives.length then (findN t n g.lives : Int) else -1
def lastW (k : ByteArray) : List Fc → Option Fc
  | [] => none
  | f :: r => match lastW k r with
    | some x => some x
    | none => if f.key = k then some f else none
def bestS (k : ByteArray) (sn : Int) (b f : Fc) : Fc := if f.key = k ∧ f.ts ≤ sn ∧ b.ts < f.ts then f else b
def bestF (k : ByteArray) (sn : Int) (fs : List Fc) : Fc := fs.foldl (bestS k sn) fcT
def readF (fs : List Fc) (l : Lf) (k : ByteArray) : Fc := match lastW k l.ws with
  | some f => f
  | none => bestF k l.sn fs
def readL (g : Lg) (i : Nat) (k : ByteArray) : Fc := readF g.facts (g.lives.getD i lf0) k
def cntL (t : Int) (l : List Lf) : Nat := (l.filter fun x => decide (x.task = t)).length
def lastFs (ts : Int) : List Fc → List Fc
  | [] => []
  | f :: r => if (r.all fun x => decide (x.key ≠ f.key)) = true then { f with ts := ts } :: lastFs ts r else lastFs ts r
def addW (g : Lg) (i : Nat) (f : Fc) : Lg := { g with lives := g.lives.set i { g.lives.getD i lf0 with ws := (g.lives.getD i lf0).ws ++ [f] } }
def overW (g : Lg) (i : Nat) (at_ : Int) : Lg := { g with lives := g.lives.set i { g.lives.getD i lf0 with over := at_ } }
def noteL (g : Lg) (at_ t : Int) (x : Cl) (a : As) : Lg :=
  if a.1 ≠ 0 ∨ (x.1 ≠ 1 ∧ findL g t x.2.1 < 0) then g
  else if x.1 = 1 then { g with lives := g.lives ++ [⟨t, (cntL t g.lives : Int) + 1, g.time, [], at_, 0⟩] }
  else if x.1 = 3 then addW g (findL g t x.2.1).toNat ⟨0, x.2.2.1, false, x.2.2.2.2.1⟩
  else if x.1 = 4 then (if a.2.1 = true then addW g (findL g t x.2.1).toNat ⟨0, x.2.2.1, true, emp⟩ else g)
  else if x.1 = 6 then
    (if (g.lives.getD (findL g t x.2.1).toNat lf0).ws = [] then overW g (findL g t x.2.1).toNat at_
     else { overW g (findL g t x.2.1).toNat at_ with time := g.time + 1, facts := g.facts ++ lastFs (g.time + 1) (g.lives.getD (findL g t x.2.1).toNat lf0).ws })
  else g
theorem lastW_app (k : ByteArray) (f : Fc) : ∀ l : List Fc, lastW k (l ++ [f]) = if f.key = k then some f else lastW k l
  | [] => rfl
  | g :: l => by
    show (match lastW k (l ++ [f]) with | some x => some x | none => if g.key = k then some g else none) = _
    rw [lastW_app k f l]
    by_cases e : f.key = k
    · rw [if_pos e, if_pos e]
    · rw [if_neg e, if_neg e]; rfl
theorem lastW_none {k : ByteArray} : ∀ {l : List Fc}, lastW k l = none ↔ ∀ f ∈ l, f.key ≠ k
  | [] => ⟨fun _ _ h => (by cases h), fun _ => rfl⟩
  | f :: l => by
    have ih := @lastW_none k l
    show (match lastW k l with | some x => some x | none => if f.key = k then some f else none) = none ↔ _
    cases h : lastW k l with
    | some x =>
      constructor
      · intro e; cases e
      · intro e
        rw [ih.2 (fun g hg => e g (List.mem_cons_of_mem _ hg))] at h; cases h
    | none =>
      have h2 := ih.1 h
      simp only
      constructor
      · intro e g hg
        rcases List.mem_cons.1 hg with rfl | hg
        · intro e2; rw [if_pos e2] at e; cases e
        · exact h2 g hg
      · intro e; rw [if_neg (e f (List.mem_cons_self ..))]
theorem lastW_some {k : ByteArray} {x : Fc} : ∀ {l : List Fc}, lastW k l = some x → x ∈ l ∧ x.key = k
  | [], h => by cases h
  | f :: l, h => by
    have h : (match lastW k l with | some x => some x | none => if f.key = k then some f else none) = some x := h
    cases e : lastW k l with
    | some y =>
      rw [e] at h
      obtain rfl : y = x := by simpa using h
      have := lastW_some e
      exact ⟨List.mem_cons_of_mem _ this.1, this.2⟩
    | none =>
      rw [e] at h
      simp only at h
      split at h
      · rename_i e2
        obtain rfl : f = x := by simpa using h
        exact ⟨List.mem_cons_self .., e2⟩
      · cases h
theorem mem_lastFs {ts : Int} {f : Fc} : ∀ {l : List Fc}, f ∈ lastFs ts l ↔ ∃ x, lastW f.key l = some x ∧ f = { x with ts := ts }
  | [] => ⟨fun h => (by cases h), fun ⟨_, h, _⟩ => (by cases h)⟩
  | g :: l => by
    have ih := @mem_lastFs ts f l
    have e : lastW f.key (g :: l) = match lastW f.key l with | some x => some x | none => if g.key = f.key then some g else none := rfl
    rw [e]
    unfold lastFs
    by_cases ha : (l.all fun x => decide (x.key ≠ g.key)) = true
    · rw [if_pos ha]
      have ha2 : lastW g.key l = none := lastW_none.2 (fun x hx => of_decide_eq_true (List.all_eq_true.1 ha x hx))
      rw [List.mem_cons, ih]
      constructor
      · rintro (h1 | ⟨x, h1, h2⟩)
        · have hk : f.key = g.key := by rw [h1]
          refine ⟨g, ?_, h1⟩
          rw [hk, ha2]; simp
        · exact ⟨x, by rw [h1], h2⟩
      · rintro ⟨x, h1, h2⟩
        cases e2 : lastW f.key l with
        | some y => rw [e2] at h1; exact .inr ⟨x, h1, h2⟩
        | none =>
          rw [e2] at h1
          simp only at h1
          split at h1
          · obtain rfl : g = x := by simpa using h1
            exact .inl h2
          · cases h1
    · rw [if_neg ha, ih]
      constructor
      · rintro ⟨x, h1, h2⟩; exact ⟨x, by rw [h1], h2⟩
      · rintro ⟨x, h1, h2⟩
        cases e2 : lastW f.key l with
        | some y => rw [e2] at h1; exact ⟨x, h1, h2⟩
        | none =>
          rw [e2] at h1
          simp only at h1
          split at h1
          · rename_i e3
            exfalso
            apply ha
            rw [List.all_eq_true]
            intro y hy
            refine decide_eq_true ?_
            rw [e3]
            exact lastW_none.1 e2 y hy
          · cases h1
theorem bestF_app (k : ByteArray) (q : Int) (l m : List Fc) : bestF k q (l ++ m) = m.foldl (bestS k q) (bestF k q l) := by unfold bestF; rw [List.foldl_append]
/-- the best of what has timestamps up to c has one up to c -/
theorem best_ts {k : ByteArray} {q c : Int} : ∀ {l : List Fc} {b : Fc}, b.ts ≤ c → (∀ f ∈ l, f.ts ≤ c) → (l.foldl (bestS k q) b).ts ≤ c
  | [], _, hb, _ => hb
  | f :: l, b, hb, h => by
    refine best_ts (l := l) ?_ (fun g hg => h g (List.mem_cons_of_mem _ hg))
    unfold bestS; split
    · exact h f (List.mem_cons_self ..)
    · exact hb
theorem best_none {k : ByteArray} {q : Int} : ∀ {l : List Fc} {b : Fc}, (∀ f ∈ l, f.key = k → q < f.ts ∨ f.ts ≤ b.ts) → l.foldl (bestS k q) b = b
  | [], _, _ => rfl
  | f :: l, b, h => by
    have e : bestS k q b f = b := by
      unfold bestS
      rw [if_neg (fun e => by rcases h f (List.mem_cons_self ..) e.1 with h1 | h1 <;> omega)]
    show l.foldl (bestS k q) (bestS k q b f) = b
    rw [e]
    exact best_none (fun g hg => h g (List.mem_cons_of_mem _ hg))
/-- of facts of one timestamp, later than all, the one of that key is the best -/
theorem best_new {k : ByteArray} {q c : Int} {x : Fc} : ∀ {l : List Fc} {b : Fc}, c ≤ q → (b.ts < c ∨ b = x) → (∀ f ∈ l, f.ts = c) → (∀ f ∈ l, f.key = k → f = x) → (x ∈ l ∨ b = x) → x.key = k → x.ts = c → l.foldl (bestS k q) b = x
  | [], _, _, _, _, _, h, _, _ => h.resolve_left (fun e => by cases e)
  | f :: l, b, hq, hb, hc, hk, h, hx, hxc => by
    have hc1 := hc f (List.mem_cons_self ..)
    show l.foldl (bestS k q) (bestS k q b f) = x
    by_cases e : f.key = k
    · have e2 := hk f (List.mem_cons_self ..) e
      have e3 : bestS k q b f = x := by
        unfold bestS
        rcases hb with hb | hb
        · rw [if_pos ⟨e, by omega, by omega⟩]; exact e2
        · rw [if_neg (fun e4 => by rw [hb] at e4; omega)]; exact hb
      rw [e3]
      exact best_new hq (.inr rfl) (fun g hg => hc g (List.mem_cons_of_mem _ hg)) (fun g hg => hk g (List.mem_cons_of_mem _ hg)) (.inr rfl) hx hxc
    · have e3 : bestS k q b f = b := by unfold bestS; rw [if_neg (fun e4 => e e4.1)]
      rw [e3]
      refine best_new hq hb (fun g hg => hc g (List.mem_cons_of_mem _ hg)) (fun g hg => hk g (List.mem_cons_of_mem _ hg)) ?_ hx hxc
      rcases h with h | h
      · rcases List.mem_cons.1 h with rfl | h
        · exact absurd hx e
        · exact .inl h
      · exact .inr h
end Go.Proofs.Ytoinjnocopejjaa

/- The log beside the model. -/
namespace Go.Proofs.Ytoinjnocopejjaa
set_option linter.unusedVariables false
set_option linter.unusedSimpArgs false
def gl (g : Lg) (i : Nat) : Lf := g.lives.getD i lf0
def sti (s : MS) (i : Nat) : Int × Int := s.txns.getD i (0, 0)
structure LI (s : MS) (g : Lg) : Prop where
  time : g.time = s.clock
  len : g.lives.length = s.txns.length
  who : ∀ t n (i : Nat), i < g.lives.length → (txW s t n = (i : Int) + 1 ↔ (gl g i).task = t ∧ (gl g i).n = n)
  cnt : ∀ t : Int, 0 ≤ t → t < s.tasks.length → cntL t g.lives = (s.tasks.getD t.toNat []).length
  sn : ∀ i, i < g.lives.length → (gl g i).sn = (sti s i).2
  ws1 : ∀ i, i < g.lives.length → (sti s i).1 = 1 → ∀ k f, lastW k (gl g i).ws = some f → (getR s k).2 = ⟨(i : Int) + 1, 0, f.tomb, f.val⟩
  ws2 : ∀ i, i < g.lives.length → (sti s i).1 = 1 → ∀ k, lastW k (gl g i).ws = none → (getR s k).2.w ≠ (i : Int) + 1
  fts : ∀ f ∈ g.facts, f.ts ≤ g.time
  fac : ∀ k q, s.floor ≤ q → seenB (getR s k).1 q = !(bestF k q g.facts).tomb ∧ (seenB (getR s k).1 q = true → (seen (getR s k).1 q).val = (bestF k q g.facts).val)
  low : ∀ p ∈ s.txns, p.1 = 1 → s.floor ≤ p.2
theorem LI.new (c : Conf) : LI (newM c) lg0 := by
  refine ⟨rfl, rfl, fun t n i hi => absurd hi (Nat.not_lt_zero i), fun t h1 h2 => ?_, fun i hi => absurd hi (Nat.not_lt_zero i), fun i hi => absurd hi (Nat.not_lt_zero i), fun i hi => absurd hi (Nat.not_lt_zero i), (fun _ h => by cases h), fun k q _ => ⟨rfl, fun h => by cases h⟩, (fun _ h => by cases h)⟩
  show 0 = ((List.replicate c.ta.toNat ([] : List Int)).getD t.toNat []).length
  rw [List.getD_eq_getElem?_getD]
  cases hj : (List.replicate c.ta.toNat ([] : List Int))[t.toNat]? with
  | none => rfl
  | some y => rw [List.eq_of_mem_replicate (List.mem_of_getElem? hj)]; rfl
theorem findN_at {t n : Int} : ∀ {l : List Lf} {i : Nat}, i < l.length → ((l.getD i lf0).task = t ∧ (l.getD i lf0).n = n) → (∀ j, j < i → ¬ ((l.getD j lf0).task = t ∧ (l.getD j lf0).n = n)) → findN t n l = i
  | x :: l, 0, _, h, _ => by unfold findN; rw [if_pos (show x.task = t ∧ x.n = n from h)]
  | x :: l, i + 1, hi, h, hj => by
    unfold findN
    rw [if_neg (show ¬ (x.task = t ∧ x.n = n) from hj 0 (Nat.zero_lt_succ i)), findN_at (l := l) (i := i) (by rw [List.length_cons] at hi; omega) h (fun j hj2 => hj (j + 1) (by omega))]
theorem findN_no {t n : Int} : ∀ {l : List Lf}, (∀ j, j < l.length → ¬ ((l.getD j lf0).task = t ∧ (l.getD j lf0).n = n)) → findN t n l = l.length
  | [], _ => rfl
  | x :: l, h => by
    unfold findN
    rw [if_neg (show ¬ (x.task = t ∧ x.n = n) from h 0 (by rw [List.length_cons]; omega)), findN_no (l := l) (fun j hj => h (j + 1) (by rw [List.length_cons]; omega)), List.length_cons]
theorem LI.find_yes {s : MS} {g : Lg} (h : LI s g) {t n : Int} {i : Nat} (hi : i < g.lives.length) (hw : txW s t n = (i : Int) + 1) : findL g t n = i := by
  unfold findL
  rw [findN_at hi ((h.who t n i hi).1 hw) (fun j hj e => by have := (h.who t n j (by omega)).2 e; omega), if_pos hi]
theorem LI.find_no {s : MS} {g : Lg} (h : LI s g) {t n : Int} (hw : txW s t n = 0) : findL g t n = -1 := by
  unfold findL
  rw [findN_no (fun j hj e => by have := (h.who t n j hj).2 e; omega), if_neg (Nat.lt_irrefl _)]
theorem LI.find {s : MS} {g : Lg} (h : LI s g) (hm : OkM s) (t n : Int) : (txW s t n = 0 ∧ findL g t n = -1) ∨ ∃ i : Nat, i < g.lives.length ∧ txW s t n = (i : Int) + 1 ∧ findL g t n = i := by
  rcases hm.tx t n with e | ⟨_, _, _, _, _, h1, h2⟩
  · exact .inl ⟨e, h.find_no e⟩
  · have hl := h.len
    have e : txW s t n = ((txW s t n - 1).toNat : Int) + 1 := by omega
    exact .inr ⟨(txW s t n - 1).toNat, by omega, e, h.find_yes (by omega) e⟩
theorem stW_i (s : MS) (i : Nat) : stW s ((i : Int) + 1) = (sti s i).1 := by
  unfold stW sti
  rw [if_neg (by omega), show ((i : Int) + 1 - 1).toNat = i from by omega]
theorem snW_i (s : MS) (i : Nat) : snW s ((i : Int) + 1) = (sti s i).2 := by
  unfold snW sti
  rw [if_neg (by omega), show ((i : Int) + 1 - 1).toNat = i from by omega]
theorem LI.any {s : MS} {g : Lg} (h : LI s g) (hm : OkM s) {i : Nat} (hi : i < g.lives.length) (ha : (sti s i).1 = 1) : anyI s ((i : Int) + 1) = true ↔ (gl g i).ws ≠ [] := by
  have hh : anyI s ((i : Int) + 1) = true ↔ ∃ k, (getR s k).2.w = (i : Int) + 1 := by
    unfold anyI
    rw [List.any_eq_true]
    constructor
    · rintro ⟨p, hp, e⟩
      exact ⟨p.1, by unfold getR; rw [get_of_mem hm.up hp]; exact of_decide_eq_true e⟩
    · rintro ⟨k, e⟩
      cases e2 : hasK s.rows k with
      | true => exact ⟨_, get_mem (d := rw0) e2, decide_eq_true e⟩
      | false =>
        unfold getR at e
        rw [get_none e2] at e
        have : (0 : Int) = (i : Int) + 1 := e
        omega
  rw [hh]
  constructor
  · rintro ⟨k, e⟩ e2
    exact h.ws2 i hi ha k (by rw [e2]; rfl) e
  · intro e
    cases hw : (gl g i).ws with
    | nil => exact absurd hw e
    | cons f l =>
      cases hl : lastW f.key (gl g i).ws with
      | none => exact absurd rfl (lastW_none.1 hl f (by rw [hw]; exact List.mem_cons_self ..))
      | some x => exact ⟨f.key, by rw [h.ws1 i hi ha _ _ hl]⟩
/-- what a turn may do, and what is noted -/
theorem stepC {s : MS} {g : Lg} (hm : OkM s) (h : LI s g) (at_ t : Int) (x : Cl) :
    let s' := (doM s t x).1; let g' := noteL g at_ t x (doM s t x).2
    (s' = s ∧ g' = g)
    ∨ ((0 ≤ t ∧ t < s.tasks.length) ∧ (actN s.txns : Int) < s.cf.ac ∧ s' = beginM s t ∧ g' = { g with lives := g.lives ++ [⟨t, (cntL t g.lives : Int) + 1, g.time, [], at_, 0⟩] })
    ∨ (∃ (i : Nat) (f : Fc), i < g.lives.length ∧ (sti s i).1 = 1 ∧ clashM s ((i : Int) + 1) (getR s f.key) = false ∧ s' = putM s f.key ⟨(i : Int) + 1, 0, f.tomb, f.val⟩ ∧ g' = addW g i f ∧ f.key = x.2.2.1)
    ∨ (∃ i : Nat, i < g.lives.length ∧ (sti s i).1 = 1 ∧ s' = endM s ((i : Int) + 1) 4 (dropR ((i : Int) + 1)) ∧ g' = g)
    ∨ (∃ i : Nat, i < g.lives.length ∧ (sti s i).1 = 1 ∧ (gl g i).ws ≠ [] ∧ s' = endM { s with clock := s.clock + 1 } ((i : Int) + 1) 3 (commR ((i : Int) + 1) (s.clock + 1)) ∧ g' = { overW g i at_ with time := g.time + 1, facts := g.facts ++ lastFs (g.time + 1) (gl g i).ws })
    ∨ (∃ i : Nat, i < g.lives.length ∧ (sti s i).1 = 1 ∧ (gl g i).ws = [] ∧ s' = endM s ((i : Int) + 1) 3 (dropR ((i : Int) + 1)) ∧ g' = overW g i at_)
    ∨ (s' = vacM s ∧ g' = g) := by
  intro s' g'
  by_cases hr : refM s t x ≠ 0
  · left
    refine ⟨by show (doM s t x).1 = s; unfold doM; rw [if_pos hr], ?_⟩
    show noteL g at_ t x (doM s t x).2 = g
    unfold doM; rw [if_pos hr]; unfold noteL; rw [if_pos (.inl hr)]
  replace hr : refM s t x = 0 := Decidable.not_not.1 hr
  obtain ⟨ht, hk, hnm, hfit, _⟩ := refM_0 hr
  have ed : doM s t x = actM s t (txW s t x.2.1) x := by unfold doM; rw [if_neg (fun e => e hr)]
  have es : s' = (actM s t (txW s t x.2.1) x).1 := by show (doM s t x).1 = _; rw [ed]
  have eg : g' = noteL g at_ t x (actM s t (txW s t x.2.1) x).2 := by show noteL g at_ t x (doM s t x).2 = _; rw [ed]
  clear_value s' g'
  clear ed
  obtain ⟨kd, y⟩ := x
  simp only at hk hnm
  have hw : namedK kd = true → ∃ i : Nat, i < g.lives.length ∧ txW s t y.1 = (i : Int) + 1 ∧ findL g t y.1 = i ∧ (sti s i).1 = 1 := fun e => by
    have h1 := hnm e
    rcases h.find hm t y.1 with ⟨e2, _⟩ | ⟨i, h2, h3, h4⟩
    · exact absurd e2 h1.1
    · exact ⟨i, h2, h3, h4, by rw [← stW_i, ← h3]; exact h1.2⟩
  rcases (by omega : kd = 1 ∨ kd = 2 ∨ kd = 3 ∨ kd = 4 ∨ kd = 5 ∨ kd = 6 ∨ kd = 7 ∨ kd = 8 ∨ kd = 9) with rfl | rfl | rfl | rfl | rfl | rfl | rfl | rfl | rfl
  · have es : s' = (if s.cf.ac ≤ actN s.txns then (s, asE_ 34) else (beginM s t, as0)).1 := es
    have eg : g' = noteL g at_ t (1, y) (if s.cf.ac ≤ actN s.txns then (s, asE_ 34) else (beginM s t, as0)).2 := eg
    by_cases e : s.cf.ac ≤ actN s.txns
    · rw [if_pos e] at es eg
      exact .inl ⟨es, eg⟩
    · rw [if_neg e] at es eg
      refine .inr (.inl ⟨ht, by omega, es, ?_⟩)
      rw [eg]; unfold noteL
      rw [if_neg (fun e2 => e2.elim (fun e3 => e3 rfl) (fun e3 => e3.1 rfl)), if_pos rfl]
  · left
    refine ⟨es, ?_⟩
    rw [eg]; unfold noteL
    split
    · rfl
    · rfl
  · obtain ⟨i, hi, h1, h2, h3⟩ := hw rfl
    have es : s' = (if clashM s (txW s t y.1) (getR s y.2.1) = true then (s, asE_ 33) else if fullM s y.2.1 = true then (s, asE_ 34) else (putM s y.2.1 ⟨txW s t y.1, 0, false, y.2.2.2.1⟩, as0)).1 := es
    have eg : g' = noteL g at_ t (3, y) (if clashM s (txW s t y.1) (getR s y.2.1) = true then (s, asE_ 33) else if fullM s y.2.1 = true then (s, asE_ 34) else (putM s y.2.1 ⟨txW s t y.1, 0, false, y.2.2.2.1⟩, as0)).2 := eg
    rw [h1] at es eg
    by_cases e : clashM s ((i : Int) + 1) (getR s y.2.1) = true
    · rw [if_pos e] at es eg
      exact .inl ⟨es, eg⟩
    rw [if_neg e] at es eg
    by_cases e2 : fullM s y.2.1 = true
    · rw [if_pos e2] at es eg
      exact .inl ⟨es, eg⟩
    rw [if_neg e2] at es eg
    refine .inr (.inr (.inl ⟨i, ⟨0, y.2.1, false, y.2.2.2.1⟩, hi, h3, by simpa using e, es, ?_, rfl⟩))
    rw [eg]; unfold noteL
    rw [if_neg (fun e2 => e2.elim (fun e3 => e3 rfl) (fun e3 => by have := e3.2; simp only at this; omega)), if_neg (by simp), if_pos rfl]
    simp only
    rw [h2]; rfl
  · obtain ⟨i, hi, h1, h2, h3⟩ := hw rfl
    have es : s' = (if clashM s (txW s t y.1) (getR s y.2.1) = true then (s, asE_ 33) else if readB s (txW s t y.1) (getR s y.2.1) = false then (s, as0) else if fullM s y.2.1 = true then (s, asE_ 34) else (putM s y.2.1 ⟨txW s t y.1, 0, true, emp⟩, ((0, true, emp, []) : As))).1 := es
    have eg : g' = noteL g at_ t (4, y) (if clashM s (txW s t y.1) (getR s y.2.1) = true then (s, asE_ 33) else if readB s (txW s t y.1) (getR s y.2.1) = false then (s, as0) else if fullM s y.2.1 = true then (s, asE_ 34) else (putM s y.2.1 ⟨txW s t y.1, 0, true, emp⟩, ((0, true, emp, []) : As))).2 := eg
    rw [h1] at es eg
    by_cases e : clashM s ((i : Int) + 1) (getR s y.2.1) = true
    · rw [if_pos e] at es eg
      exact .inl ⟨es, eg⟩
    rw [if_neg e] at es eg
    by_cases e3 : readB s ((i : Int) + 1) (getR s y.2.1) = false
    · rw [if_pos e3] at es eg
      refine .inl ⟨es, ?_⟩
      rw [eg]; unfold noteL
      split
      · rfl
      · rfl
    rw [if_neg e3] at es eg
    by_cases e2 : fullM s y.2.1 = true
    · rw [if_pos e2] at es eg
      exact .inl ⟨es, eg⟩
    rw [if_neg e2] at es eg
    refine .inr (.inr (.inl ⟨i, ⟨0, y.2.1, true, emp⟩, hi, h3, by simpa using e, es, ?_, rfl⟩))
    rw [eg]; unfold noteL
    rw [if_neg (fun e2 => e2.elim (fun e3 => e3 rfl) (fun e3 => by have := e3.2; simp only at this; omega)), if_neg (by simp), if_neg (by simp), if_pos rfl, if_pos rfl]
    simp only
    rw [h2]; rfl
  · left
    refine ⟨es, ?_⟩
    rw [eg]; unfold noteL
    split
    · rfl
    · rfl
  · obtain ⟨i, hi, h1, h2, h3⟩ := hw rfl
    have hany := h.any hm hi h3
    have es : s' = (if anyI s (txW s t y.1) = true ∧ s.cf.ts ≤ s.clock then (endM s (txW s t y.1) 4 (dropR (txW s t y.1)), asE_ 35) else if anyI s (txW s t y.1) = true then (endM { s with clock := s.clock + 1 } (txW s t y.1) 3 (commR (txW s t y.1) (s.clock + 1)), as0) else (endM s (txW s t y.1) 3 (commR (txW s t y.1) s.clock), as0)).1 := es
    have eg : g' = noteL g at_ t (6, y) (if anyI s (txW s t y.1) = true ∧ s.cf.ts ≤ s.clock then (endM s (txW s t y.1) 4 (dropR (txW s t y.1)), asE_ 35) else if anyI s (txW s t y.1) = true then (endM { s with clock := s.clock + 1 } (txW s t y.1) 3 (commR (txW s t y.1) (s.clock + 1)), as0) else (endM s (txW s t y.1) 3 (commR (txW s t y.1) s.clock), as0)).2 := eg
    rw [h1] at es eg
    have hn : noteL g at_ t (6, y) as0 = if (gl g i).ws = [] then overW g i at_ else { overW g i at_ with time := g.time + 1, facts := g.facts ++ lastFs (g.time + 1) (gl g i).ws } := by
      unfold noteL
      rw [if_neg (fun e2 => e2.elim (fun e3 => e3 rfl) (fun e3 => by have := e3.2; simp only at this; omega)), if_neg (by simp), if_neg (by simp), if_neg (by simp), if_pos rfl]
      simp only
      rw [h2]; rfl
    by_cases e : anyI s ((i : Int) + 1) = true ∧ s.cf.ts ≤ s.clock
    · rw [if_pos e] at es eg
      refine .inr (.inr (.inr (.inl ⟨i, hi, h3, es, ?_⟩)))
      rw [eg]; rfl
    rw [if_neg e] at es eg
    by_cases e2 : anyI s ((i : Int) + 1) = true
    · rw [if_pos e2] at es eg
      refine .inr (.inr (.inr (.inr (.inl ⟨i, hi, h3, hany.1 e2, es, ?_⟩))))
      rw [eg, hn, if_neg (hany.1 e2)]
    · rw [if_neg e2] at es eg
      have hws : (gl g i).ws = [] := by
        cases hh : (gl g i).ws with
        | nil => rfl
        | cons a b => exact absurd (hany.2 (by rw [hh]; simp)) e2
      refine .inr (.inr (.inr (.inr (.inr (.inl ⟨i, hi, h3, hws, ?_, ?_⟩)))))
      · rw [es]
        simp only
        unfold endM
        have ea : anyI s ((i : Int) + 1) = false := by simpa using e2
        congr 1
        unfold mapR mp
        congr 1
        refine List.map_congr_left (fun p hp => ?_)
        rw [commR_same ea p hp]
        unfold dropR
        unfold anyI at ea
        rw [List.any_eq_false] at ea
        rw [if_neg (fun e => ea p hp (decide_eq_true e))]
      · rw [eg, hn, if_pos hws]
  · obtain ⟨i, hi, h1, h2, h3⟩ := hw rfl
    have es : s' = (endM s (txW s t y.1) 4 (dropR (txW s t y.1))) := es
    rw [h1] at es
    refine .inr (.inr (.inr (.inl ⟨i, hi, h3, es, ?_⟩)))
    rw [eg]; unfold noteL
    split
    · rfl
    · rfl
  · refine .inr (.inr (.inr (.inr (.inr (.inr ⟨es, ?_⟩)))))
    rw [eg]; unfold noteL
    split
    · rfl
    · rfl
  · left
    refine ⟨es, ?_⟩
    rw [eg]; unfold noteL
    split
    · rfl
    · rfl
end Go.Proofs.Ytoinjnocopejjaa

/- The log beside the model: it stays so. -/
namespace Go.Proofs.Ytoinjnocopejjaa
set_option linter.unusedVariables false
set_option linter.unusedSimpArgs false
theorem getD_set {α : Type} {l : List α} {i j : Nat} {v d : α} (hi : i < l.length) : (l.set i v).getD j d = if j = i then v else l.getD j d := by
  simp only [List.getD_eq_getElem?_getD, List.getElem?_set]
  by_cases e : i = j
  · subst e; rw [if_pos rfl, if_pos rfl, if_pos hi]; rfl
  · rw [if_neg e, if_neg (fun e2 => e e2.symm)]
theorem getD_app {α : Type} {l : List α} {j : Nat} {v d : α} (hj : j < l.length + 1) : (l ++ [v]).getD j d = if j = l.length then v else l.getD j d := by
  simp only [List.getD_eq_getElem?_getD]
  by_cases e : j = l.length
  · subst e; rw [if_pos rfl]; simp
  · rw [if_neg e, List.getElem?_append_left (by omega)]
theorem floor_lo : ∀ (l : List (Int × Int)) (x : Int), ∀ p ∈ l, p.1 = 1 → (l.foldl (fun m p => if p.1 = 1 then min m p.2 else m) x) ≤ p.2
  | q :: l, x, p, hp, e => by
    have h2 := floor_le l (if q.1 = 1 then min x q.2 else x)
    rcases List.mem_cons.1 hp with rfl | hp
    · rw [if_pos e] at h2
      show List.foldl _ (if p.1 = 1 then min x p.2 else x) l ≤ _
      rw [if_pos e]; omega
    · exact floor_lo l _ p hp e
theorem floor_ge {c : Int} : ∀ (l : List (Int × Int)) (x : Int), c ≤ x → (∀ p ∈ l, p.1 = 1 → c ≤ p.2) → c ≤ (l.foldl (fun m p => if p.1 = 1 then min m p.2 else m) x)
  | [], x, hx, _ => hx
  | q :: l, x, hx, hl => by
    refine floor_ge l _ ?_ (fun p hp => hl p (List.mem_cons_of_mem _ hp))
    have := hl q (List.mem_cons_self ..)
    show c ≤ (if q.1 = 1 then min x q.2 else x)
    split
    · rename_i e; have := this e; omega
    · exact hx
theorem cntL_set (t : Int) : ∀ {l : List Lf} {i : Nat} {v : Lf}, v.task = (l.getD i lf0).task → cntL t (l.set i v) = cntL t l
  | [], _, _, _ => rfl
  | x :: l, 0, v, h => by
    have h : v.task = x.task := h
    unfold cntL
    rw [List.set_cons_zero, List.filter_cons, List.filter_cons, h]
    split <;> rfl
  | x :: l, i + 1, v, h => by
    have := @cntL_set t l i v h
    unfold cntL at this ⊢
    rw [List.set_cons_succ, List.filter_cons, List.filter_cons]
    split
    · rw [List.length_cons, List.length_cons, this]
    · exact this
theorem cntL_app (t : Int) (l : List Lf) (v : Lf) : cntL t (l ++ [v]) = cntL t l + if v.task = t then 1 else 0 := by
  unfold cntL
  rw [List.filter_append, List.length_append, List.filter_cons, List.filter_nil]
  by_cases e : v.task = t
  · rw [if_pos e, if_pos (decide_eq_true e)]; rfl
  · rw [if_neg e, if_neg (by simpa using e)]; rfl
theorem tx_begin {s : MS} {t : Int} (ht : 0 ≤ t ∧ t < s.tasks.length) (t' n : Int) : txW (beginM s t) t' n = if t' = t ∧ n = ((s.tasks.getD t.toNat []).length : Int) + 1 then (s.txns.length : Int) + 1 else txW s t' n := by
  unfold txW
  show (if t' < 0 ∨ ((s.tasks.set t.toNat (s.tasks.getD t.toNat [] ++ [((s.txns.length + 1 : Nat) : Int)])).length : Int) ≤ t' ∨ n < 1 ∨ (((s.tasks.set t.toNat (s.tasks.getD t.toNat [] ++ [((s.txns.length + 1 : Nat) : Int)])).getD t'.toNat []).length : Int) < n then 0 else ((s.tasks.set t.toNat (s.tasks.getD t.toNat [] ++ [((s.txns.length + 1 : Nat) : Int)])).getD t'.toNat []).getD (n - 1).toNat 0) = _
  rw [List.length_set, getD_set (show t.toNat < s.tasks.length by omega)]
  by_cases e : t' = t
  · subst e
    rw [if_pos rfl, List.length_append, List.length_singleton]
    by_cases e2 : n = ((s.tasks.getD t'.toNat []).length : Int) + 1
    · rw [if_pos (show t' = t' ∧ n = ((s.tasks.getD t'.toNat []).length : Int) + 1 from ⟨rfl, e2⟩), if_neg (by omega), getD_app (by omega), if_pos (by omega)]; omega
    · rw [if_neg (show ¬ (t' = t' ∧ n = ((s.tasks.getD t'.toNat []).length : Int) + 1) from fun e3 => e2 e3.2)]
      by_cases e4 : n < 1 ∨ ((s.tasks.getD t'.toNat []).length : Int) < n
      · rw [if_pos (by omega), if_pos (by omega)]
      · rw [if_neg (by omega), if_neg (by omega), getD_app (by omega), if_neg (by omega)]
  · rw [if_neg (show ¬ (t' = t ∧ n = ((s.tasks.getD t.toNat []).length : Int) + 1) from fun e3 => e e3.1)]
    by_cases e5 : t' < 0 ∨ (s.tasks.length : Int) ≤ t'
    · rw [if_pos (by omega), if_pos (by omega)]
    · rw [if_neg (show ¬ t'.toNat = t.toNat by omega)]
theorem get_putM {s : MS} (hm : OkM s) (k : ByteArray) (v : Ver) (k' : ByteArray) : getR (putM s k v) k' = if k' = k then ((getR s k).1, v) else getR s k' := by
  unfold getR putM; simp only; rw [get_put hm.up]; rfl
theorem gl_set {g : Lg} {i j : Nat} (hi : i < g.lives.length) {l : Lf} {t : Int} {fs : List Fc} : gl ⟨t, fs, g.lives.set i l⟩ j = if j = i then l else gl g j := getD_set hi
theorem endM_eq {s : MS} {i : Nat} {st c : Int} {f : Rw → Rw} : endM { s with clock := c } ((i : Int) + 1) st f = ⟨s.cf, c, s.floor, s.txns.set i (st, (sti s i).2), s.tasks, mapR f s.rows⟩ := by
  unfold endM
  have e : snW { s with clock := c } ((i : Int) + 1) = (sti s i).2 := snW_i s i
  rw [e, show ((i : Int) + 1 - 1).toNat = i from by omega]
section
variable {s : MS} {g : Lg} (h : LI s g)
include h
/-- a writer's end, but for what it wrote -/
theorem LI.ended {i : Nat} (hi : i < g.lives.length) {st : Int} (hst : st ≠ 1) {c : Int} {rows : List (ByteArray × Rw)} {l : Lf} (hl : l.task = (gl g i).task ∧ l.n = (gl g i).n ∧ l.sn = (gl g i).sn) {fs : List Fc}
    (hrow : ∀ k, ((getK rw0 rows k).2 = (getR s k).2 ∧ (getR s k).2.w ≠ (i : Int) + 1) ∨ ((getK rw0 rows k).2 = ver0 ∧ (getR s k).2.w = (i : Int) + 1))
    (hf : ∀ x ∈ fs, x.ts ≤ c)
    (hfac : ∀ k q, s.floor ≤ q → seenB (getK rw0 rows k).1 q = !(bestF k q fs).tomb ∧ (seenB (getK rw0 rows k).1 q = true → (seen (getK rw0 rows k).1 q).val = (bestF k q fs).val)) :
    LI ⟨s.cf, c, s.floor, s.txns.set i (st, (sti s i).2), s.tasks, rows⟩ ⟨c, fs, g.lives.set i l⟩ := by
  have hlen := h.len
  have hs : ∀ j, sti ⟨s.cf, c, s.floor, s.txns.set i (st, (sti s i).2), s.tasks, rows⟩ j = if j = i then (st, (sti s i).2) else sti s j := fun j => getD_set (by omega)
  have hg : ∀ j, gl ⟨c, fs, g.lives.set i l⟩ j = if j = i then l else gl g j := fun j => gl_set hi
  have hll : (g.lives.set i l).length = g.lives.length := List.length_set ..
  refine ⟨rfl, ?_, fun t n j hj => ?_, fun t h1 h2 => ?_, fun j hj => ?_, fun j hj ha k x hx => ?_, fun j hj ha k hx => ?_, hf, hfac, fun p hp e => ?_⟩
  · show (g.lives.set i l).length = (s.txns.set i _).length
    rw [List.length_set, List.length_set, hlen]
  · have hj : j < g.lives.length := by rw [← hll]; exact hj
    have := h.who t n j hj
    rw [hg j]
    by_cases e : j = i
    · rw [if_pos e, hl.1, hl.2.1, ← e]; exact this
    · rw [if_neg e]; exact this
  · rw [show cntL t (Lg.mk c fs (g.lives.set i l)).lives = cntL t (g.lives.set i l) from rfl, cntL_set t hl.1]
    exact h.cnt t h1 h2
  · have hj : j < g.lives.length := by rw [← hll]; exact hj
    have := h.sn j hj
    rw [hg j, hs j]
    by_cases e : j = i
    · rw [if_pos e, if_pos e, hl.2.2, ← e]; exact this
    · rw [if_neg e, if_neg e]; exact this
  · have hj : j < g.lives.length := by rw [← hll]; exact hj
    rw [hs j] at ha
    rw [hg j] at hx
    by_cases e : j = i
    · rw [if_pos e] at ha; exact absurd ha hst
    · rw [if_neg e] at ha hx
      have := h.ws1 j hj ha k x hx
      show (getK rw0 rows k).2 = _
      rcases hrow k with ⟨h1, h2⟩ | ⟨h1, h2⟩
      · rw [h1]; exact this
      · rw [this] at h2; simp only at h2; omega
  · have hj : j < g.lives.length := by rw [← hll]; exact hj
    rw [hs j] at ha
    rw [hg j] at hx
    by_cases e : j = i
    · rw [if_pos e] at ha; exact absurd ha hst
    · rw [if_neg e] at ha hx
      have := h.ws2 j hj ha k hx
      show (getK rw0 rows k).2.w ≠ _
      rcases hrow k with ⟨h1, h2⟩ | ⟨h1, h2⟩
      · rw [h1]; exact this
      · rw [h1]; show (0 : Int) ≠ _; omega
  · have hp : p ∈ s.txns.set i (st, (sti s i).2) := hp
    rcases List.mem_or_eq_of_mem_set hp with h1 | rfl
    · exact h.low p h1 e
    · exact absurd e hst
end
section
variable {s : MS} {g : Lg} (hm : OkM s) (h : LI s g)
include hm h
theorem LI.drop {i : Nat} (hi : i < g.lives.length) {st : Int} (hst : st ≠ 1) {l : Lf} (hl : l.task = (gl g i).task ∧ l.n = (gl g i).n ∧ l.sn = (gl g i).sn) : LI (endM s ((i : Int) + 1) st (dropR ((i : Int) + 1))) ⟨g.time, g.facts, g.lives.set i l⟩ := by
  have e := endM_eq (s := s) (i := i) (st := st) (c := s.clock) (f := dropR ((i : Int) + 1))
  have e2 : endM s ((i : Int) + 1) st (dropR ((i : Int) + 1)) = ⟨s.cf, s.clock, s.floor, s.txns.set i (st, (sti s i).2), s.tasks, mapR (dropR ((i : Int) + 1)) s.rows⟩ := e
  rw [e2, h.time]
  refine h.ended hi hst hl (fun k => ?_) (fun x hx => by rw [← h.time]; exact h.fts x hx) (fun k q hq => ?_)
  · rw [hm.g_drop (by omega)]
    unfold dropR
    by_cases e : (getR s k).2.w = (i : Int) + 1
    · rw [if_pos e]; exact .inr ⟨rfl, e⟩
    · rw [if_neg e]; exact .inl ⟨rfl, e⟩
  · rw [hm.g_drop (by omega)]
    have e3 : (dropR ((i : Int) + 1) (getR s k)).1 = (getR s k).1 := by unfold dropR; split <;> rfl
    rw [e3]; exact h.fac k q hq
/-- what is seen behind a commit -/
theorem LI.comm {i : Nat} (hi : i < g.lives.length) (ha : (sti s i).1 = 1) {l : Lf} (hl : l.task = (gl g i).task ∧ l.n = (gl g i).n ∧ l.sn = (gl g i).sn) :
    LI (endM { s with clock := s.clock + 1 } ((i : Int) + 1) 3 (commR ((i : Int) + 1) (s.clock + 1))) ⟨g.time + 1, g.facts ++ lastFs (g.time + 1) (gl g i).ws, g.lives.set i l⟩ := by
  rw [endM_eq, h.time]
  have hc := hm.clk.1
  have hts : ∀ x ∈ lastFs (s.clock + 1) (gl g i).ws, x.ts = s.clock + 1 := fun x hx => by
    obtain ⟨y, _, e⟩ := mem_lastFs.1 hx
    rw [e]
  have hft := h.fts
  rw [h.time] at hft
  refine h.ended hi (by decide) hl (fun k => ?_) (fun x hx => ?_) (fun k q hq => ?_)
  · rw [hm.g_comm (by omega)]
    unfold commR
    by_cases e : (getR s k).2.w = (i : Int) + 1
    · rw [if_pos e]; exact .inr ⟨rfl, e⟩
    · rw [if_neg e]; exact .inl ⟨rfl, e⟩
  · rcases List.mem_append.1 hx with h1 | h1
    · have := hft x h1; omega
    · have := hts x h1; omega
  · rw [hm.g_comm (by omega), bestF_app]
    have hb : (bestF k q g.facts).ts ≤ s.clock := best_ts hc hft
    obtain ⟨f1, f2⟩ := h.fac k q hq
    unfold commR
    by_cases e : (getR s k).2.w = (i : Int) + 1
    · rw [if_pos e]
      cases hw : lastW k (gl g i).ws with
      | none => exact absurd e (h.ws2 i hi ha k hw)
      | some x =>
        have hi2 := h.ws1 i hi ha k x hw
        have hxk := (lastW_some hw).2
        simp only
        rw [seenB_cons, seen_cons]
        by_cases hq2 : q < s.clock + 1
        · rw [if_pos hq2, if_pos hq2, best_none (fun f hf _ => .inl (by rw [hts f hf]; exact hq2))]
          exact ⟨f1, f2⟩
        · have hbn : (lastFs (s.clock + 1) (gl g i).ws).foldl (bestS k q) (bestF k q g.facts) = { x with ts := s.clock + 1 } := by
            refine best_new (c := s.clock + 1) (by omega) (.inl (by omega)) hts (fun f hf hk => ?_) (.inl (mem_lastFs.2 ⟨x, by show lastW x.key _ = _; rw [hxk]; exact hw, rfl⟩)) hxk rfl
            obtain ⟨y, hy1, hy2⟩ := mem_lastFs.1 hf
            rw [hk, hw] at hy1
            obtain rfl : x = y := by simpa using hy1
            exact hy2
          rw [if_neg hq2, if_neg hq2, hbn, hi2]
          refine ⟨rfl, fun e5 => ?_⟩
          simp only at e5 ⊢
          cases hxt : x.tomb with
          | true => rw [hxt] at e5; cases e5
          | false => rfl
    · rw [if_neg e]
      have hno : lastW k (gl g i).ws = none := by
        cases hw : lastW k (gl g i).ws with
        | none => rfl
        | some x => exact absurd (by rw [h.ws1 i hi ha k x hw]) e
      rw [best_none (fun f hf hk => by
        obtain ⟨y, hy1, _⟩ := mem_lastFs.1 hf
        rw [hk, hno] at hy1; cases hy1)]
      exact ⟨f1, f2⟩
theorem LI.put {i : Nat} (hi : i < g.lives.length) {f : Fc} (hcl : clashM s ((i : Int) + 1) (getR s f.key) = false) : LI (putM s f.key ⟨(i : Int) + 1, 0, f.tomb, f.val⟩) (addW g i f) := by
  have hgt := get_putM hm f.key ⟨(i : Int) + 1, 0, f.tomb, f.val⟩
  have hg : ∀ j, gl (addW g i f) j = if j = i then { gl g i with ws := (gl g i).ws ++ [f] } else gl g j := fun j => gl_set hi
  have hll : (addW g i f).lives.length = g.lives.length := List.length_set ..
  have hno : ∀ j : Nat, (getR s f.key).2.w = (j : Int) + 1 → j = i := fun j e => by
    unfold clashM at hcl
    rw [Bool.or_eq_false_iff, Bool.and_eq_false_iff] at hcl
    rcases hcl.1 with h1 | h1
    · have := of_decide_eq_false h1; omega
    · have := of_decide_eq_false h1; omega
  refine ⟨h.time, hll.trans h.len, fun t n j hj => ?_, fun t h1 h2 => ?_, fun j hj => ?_, fun j hj ha k x hx => ?_, fun j hj ha k hx => ?_, h.fts, fun k q hq => ?_, h.low⟩
  · have := h.who t n j (by omega)
    rw [hg j]
    by_cases e : j = i
    · rw [if_pos e]; subst e; exact this
    · rw [if_neg e]; exact this
  · show cntL t (g.lives.set i _) = _
    exact (cntL_set t (v := { g.lives.getD i lf0 with ws := (g.lives.getD i lf0).ws ++ [f] }) rfl).trans (h.cnt t h1 h2)
  · have := h.sn j (by omega)
    rw [hg j]
    by_cases e : j = i
    · rw [if_pos e]; subst e; exact this
    · rw [if_neg e]; exact this
  · rw [hgt]
    rw [hg j] at hx
    by_cases e : j = i
    · subst e
      rw [if_pos rfl] at hx
      simp only at hx
      rw [lastW_app] at hx
      by_cases e2 : f.key = k
      · rw [if_pos e2] at hx
        obtain rfl : f = x := by simpa using hx
        rw [if_pos e2.symm]
      · rw [if_neg e2] at hx
        rw [if_neg (fun e3 => e2 e3.symm)]
        exact h.ws1 j (by omega) ha k x hx
    · rw [if_neg e] at hx
      have := h.ws1 j (by omega) ha k x hx
      by_cases e2 : k = f.key
      · subst e2
        exact absurd (hno j (by rw [this])) e
      · rw [if_neg e2]; exact this
  · rw [hgt]
    rw [hg j] at hx
    by_cases e : j = i
    · subst e
      rw [if_pos rfl] at hx
      simp only at hx
      rw [lastW_app] at hx
      by_cases e2 : f.key = k
      · rw [if_pos e2] at hx; cases hx
      · rw [if_neg e2] at hx
        rw [if_neg (fun e3 => e2 e3.symm)]
        exact h.ws2 j (by omega) ha k hx
    · rw [if_neg e] at hx
      have := h.ws2 j (by omega) ha k hx
      by_cases e2 : k = f.key
      · rw [if_pos e2]; simp only; omega
      · rw [if_neg e2]; exact this
  · have := h.fac k q hq
    rw [hgt]
    by_cases e2 : k = f.key
    · rw [if_pos e2]; subst e2; exact this
    · rw [if_neg e2]; exact this
theorem LI.begin {t at_ : Int} (ht : 0 ≤ t ∧ t < s.tasks.length) : LI (beginM s t) { g with lives := g.lives ++ [⟨t, (cntL t g.lives : Int) + 1, g.time, [], at_, 0⟩] } := by
  have hl := h.len
  have hg : ∀ j, j < g.lives.length + 1 → gl { g with lives := g.lives ++ [⟨t, (cntL t g.lives : Int) + 1, g.time, [], at_, 0⟩] } j = if j = g.lives.length then ⟨t, (cntL t g.lives : Int) + 1, g.time, [], at_, 0⟩ else gl g j := fun j hj => getD_app hj
  have hs : ∀ j, j < g.lives.length + 1 → sti (beginM s t) j = if j = g.lives.length then (1, s.clock) else sti s j := fun j hj => by
    show (s.txns ++ [(1, s.clock)]).getD j (0, 0) = _
    rw [hl]; exact getD_app (by omega)
  have hll : ∀ l : Lf, (g.lives ++ [l]).length = g.lives.length + 1 := fun l => by simp
  have hcn := h.cnt t ht.1 ht.2
  refine ⟨h.time, ?_, fun t' n j hj => ?_, fun t' h1 h2 => ?_, fun j hj => ?_, fun j hj ha k x hx => ?_, fun j hj ha k hx => ?_, h.fts, h.fac, fun p hp e => ?_⟩
  · show (g.lives ++ _).length = (s.txns ++ [((1 : Int), s.clock)]).length
    simp [hl]
  · have hj : j < g.lives.length + 1 := by rw [← hll]; exact hj
    rw [hg j hj, tx_begin ht]
    by_cases e : j = g.lives.length
    · rw [if_pos e]
      simp only
      by_cases e2 : t' = t ∧ n = ((s.tasks.getD t.toNat []).length : Int) + 1
      · rw [if_pos e2]
        exact ⟨fun _ => ⟨e2.1.symm, by omega⟩, fun _ => by omega⟩
      · rw [if_neg e2]
        constructor
        · intro e3
          rcases hm.tx t' n with e4 | ⟨_, _, _, _, _, _, h7⟩
          · omega
          · omega
        · intro e3; exact absurd ⟨e3.1.symm, by omega⟩ e2
    · rw [if_neg e]
      have hw := h.who t' n j (by omega)
      by_cases e2 : t' = t ∧ n = ((s.tasks.getD t.toNat []).length : Int) + 1
      · rw [if_pos e2]
        constructor
        · intro e3; omega
        · intro e3
          have e4 := hw.2 e3
          exfalso
          unfold txW at e4
          rw [e2.1, e2.2, if_pos (by omega)] at e4
          omega
      · rw [if_neg e2]; exact hw
  · have h2 : t' < s.tasks.length := by
      have : t' < ((s.tasks.set t.toNat (s.tasks.getD t.toNat [] ++ [((s.txns.length + 1 : Nat) : Int)])).length : Int) := h2
      rwa [List.length_set] at this
    show cntL t' (g.lives ++ [_]) = ((s.tasks.set t.toNat (s.tasks.getD t.toNat [] ++ [((s.txns.length + 1 : Nat) : Int)])).getD t'.toNat []).length
    rw [cntL_app, getD_set (by omega), h.cnt t' h1 h2]
    simp only
    by_cases e : t = t'
    · subst e; rw [if_pos rfl, if_pos rfl]; simp
    · rw [if_neg e, if_neg (by omega)]; rfl
  · have hj : j < g.lives.length + 1 := by rw [← hll]; exact hj
    rw [hg j hj, hs j hj]
    by_cases e : j = g.lives.length
    · rw [if_pos e, if_pos e]; exact h.time
    · rw [if_neg e, if_neg e]; exact h.sn j (by omega)
  · have hj : j < g.lives.length + 1 := by rw [← hll]; exact hj
    rw [hg j hj] at hx
    rw [hs j hj] at ha
    by_cases e : j = g.lives.length
    · rw [if_pos e] at hx; cases hx
    · rw [if_neg e] at hx ha; exact h.ws1 j (by omega) ha k x hx
  · have hj : j < g.lives.length + 1 := by rw [← hll]; exact hj
    rw [hg j hj] at hx
    rw [hs j hj] at ha
    by_cases e : j = g.lives.length
    · have := (hm.get k).2.1.2.1
      show (getR s k).2.w ≠ _
      omega
    · rw [if_neg e] at hx ha; exact h.ws2 j (by omega) ha k hx
  · have hp : p ∈ s.txns ++ [((1 : Int), s.clock)] := hp
    rcases List.mem_append.1 hp with h1 | h1
    · exact h.low p h1 e
    · rw [List.mem_singleton] at h1
      subst h1; exact hm.flo.2
theorem LI.vac : LI (vacM s) g := by
  have hge : s.floor ≤ floorM s := floor_ge _ _ hm.flo.2 h.low
  have hg := hm.g_kept (floorM s)
  have hgr : ∀ k, getR (vacM s) k = keptR (floorM s) (getR s k) := hg
  refine ⟨h.time, h.len, h.who, h.cnt, h.sn, fun i hi ha k f hf => ?_, fun i hi ha k hf => ?_, h.fts, fun k q hq => ?_, fun p hp e => floor_lo _ _ p hp e⟩
  · rw [hgr]; exact h.ws1 i hi ha k f hf
  · rw [hgr]; exact h.ws2 i hi ha k hf
  · have hq : floorM s ≤ q := hq
    have hv := VL.kept (getR s k).1 (floorM s)
    rw [hgr]
    show seenB (kept (getR s k).1 (floorM s)) q = _ ∧ _
    rw [hv.sb q hq]
    have := h.fac k q (by omega)
    refine ⟨this.1, fun e => ?_⟩
    show (seen (kept (getR s k).1 (floorM s)) q).val = _
    rw [hv.sv q hq]
    exact this.2 (by rw [← e]; exact (hv.sb q hq).symm)
theorem LI.do_ (at_ t : Int) (x : Cl) : LI (doM s t x).1 (noteL g at_ t x (doM s t x).2) := by
  have hset : ∀ i, i < g.lives.length → g.lives.set i (gl g i) = g.lives := fun i hi => by
    have e : gl g i = g.lives[i] := by unfold gl; rw [List.getD_eq_getElem?_getD, List.getElem?_eq_getElem hi]; rfl
    rw [e]; exact List.set_getElem_self hi
  rcases stepC hm h at_ t x with ⟨e1, e2⟩ | ⟨ht, _, e1, e2⟩ | ⟨i, f, hi, ha, hc, e1, e2, _⟩ | ⟨i, hi, ha, e1, e2⟩ | ⟨i, hi, ha, hne, e1, e2⟩ | ⟨i, hi, ha, hne, e1, e2⟩ | ⟨e1, e2⟩
  · rw [e1, e2]; exact h
  · rw [e1, e2]; exact h.begin hm ht
  · rw [e1, e2]; exact h.put hm hi hc
  · rw [e1, e2]
    have := h.drop hm hi (st := 4) (by decide) (l := gl g i) ⟨rfl, rfl, rfl⟩
    rw [hset i hi] at this; exact this
  · rw [e1, e2]; exact h.comm hm hi ha ⟨rfl, rfl, rfl⟩
  · rw [e1, e2]; exact h.drop hm hi (by decide) ⟨rfl, rfl, rfl⟩
  · rw [e1, e2]; exact h.vac hm
end
end Go.Proofs.Ytoinjnocopejjaa

/- Of two that overlap, and wrote one key, one did not commit. -/
namespace Go.Proofs.Ytoinjnocopejjaa
set_option linter.unusedVariables false
set_option linter.unusedSimpArgs false
def wrote (g : Lg) (i : Nat) (k : ByteArray) : Prop := lastW k (gl g i).ws ≠ none
structure FI (s : MS) (g : Lg) (now : Int) : Prop where
  bg : ∀ i, i < g.lives.length → 0 < (gl g i).begun ∧ (gl g i).begun ≤ now ∧ 0 ≤ (gl g i).over ∧ (gl g i).over ≤ now
  st : ∀ i, i < g.lives.length → (gl g i).over ≠ 0 → (sti s i).1 ≠ 1
  b : ∀ i j, i < g.lives.length → j < g.lives.length → i ≠ j → (gl g i).over ≠ 0 → (gl g j).begun ≤ (gl g i).over → (sti s j).1 = 1 → ∀ k, wrote g i k → clashB (getR s k).1 (gl g j).sn = true ∧ ¬ wrote g j k
  c : ∀ i j, i < g.lives.length → j < g.lives.length → i ≠ j → (gl g i).over ≠ 0 → (gl g j).over ≠ 0 → (gl g j).begun ≤ (gl g i).over → (gl g i).begun ≤ (gl g j).over → ∀ k, ¬ (wrote g i k ∧ wrote g j k)
theorem FI.new (c : Conf) (now : Int) : FI (newM c) lg0 now := ⟨fun i hi => absurd hi (Nat.not_lt_zero i), fun i hi => absurd hi (Nat.not_lt_zero i), fun i _ hi => absurd hi (Nat.not_lt_zero i), fun i _ hi => absurd hi (Nat.not_lt_zero i)⟩
theorem FI.mono {s : MS} {g : Lg} {now now' : Int} (h : FI s g now) (hn : now ≤ now') : FI s g now' := ⟨fun i hi => by have := h.bg i hi; omega, h.st, h.b, h.c⟩
section
variable {s : MS} {g : Lg} {now : Int} (hm : OkM s) (hl : LI s g) (h : FI s g now)
include hm hl h
/-- a writer's end -/
theorem FI.ended {i : Nat} (hi : i < g.lives.length) (ha : (sti s i).1 = 1) {st at_ : Int} (hat : at_ = 0 ∨ now < at_) (h0 : 0 ≤ now) (hst : st ≠ 1) {c : Int} {rows : List (ByteArray × Rw)} {t : Int} {fs : List Fc}
    (hcl : ∀ k q, q ≤ s.clock → clashB (getR s k).1 q = true → clashB (getK rw0 rows k).1 q = true) (hnew : at_ ≠ 0 → ∀ k q, q ≤ s.clock → wrote g i k → clashB (getK rw0 rows k).1 q = true) :
    FI ⟨s.cf, c, s.floor, s.txns.set i (st, (sti s i).2), s.tasks, rows⟩ ⟨t, fs, g.lives.set i { gl g i with over := at_ }⟩ (max now at_) := by
  have hlen := hl.len
  have hs : ∀ j, sti ⟨s.cf, c, s.floor, s.txns.set i (st, (sti s i).2), s.tasks, rows⟩ j = if j = i then (st, (sti s i).2) else sti s j := fun j => getD_set (by omega)
  have hg : ∀ j, gl ⟨t, fs, g.lives.set i { gl g i with over := at_ }⟩ j = if j = i then { gl g i with over := at_ } else gl g j := fun j => gl_set hi
  have hw : ∀ j k, wrote ⟨t, fs, g.lives.set i { gl g i with over := at_ }⟩ j k ↔ wrote g j k := fun j k => by
    unfold wrote; rw [hg j]
    by_cases e : j = i
    · rw [if_pos e, e]
    · rw [if_neg e]
  have hll : (g.lives.set i { gl g i with over := at_ }).length = g.lives.length := List.length_set ..
  have hov : (gl g i).over = 0 := by
    by_cases e : (gl g i).over = 0
    · exact e
    · exact absurd ha (h.st i hi e)
  have hbgi := h.bg i hi
  have hsn : ∀ j, j < g.lives.length → (gl g j).sn ≤ s.clock := fun j hj => by
    rw [hl.sn j hj]
    have h2 : sti s j = s.txns[j] := by unfold sti; rw [List.getD_eq_getElem?_getD, List.getElem?_eq_getElem (by omega)]; rfl
    rw [h2]
    exact (hm.sn _ (List.getElem_mem _)).2.1
  have hex : ∀ j, j < g.lives.length → j ≠ i → (sti s j).1 = 1 → ∀ k, wrote g i k → ¬ wrote g j k := fun j hj e hj1 k h1 h2 => by
    unfold wrote at h1 h2
    cases e1 : lastW k (gl g i).ws with
    | none => exact h1 e1
    | some x =>
      cases e2 : lastW k (gl g j).ws with
      | none => exact h2 e2
      | some y =>
        have a1 := hl.ws1 i hi ha k x e1
        have a2 := hl.ws1 j hj hj1 k y e2
        rw [a1] at a2
        have := congrArg Ver.w a2
        simp only at this
        omega
  refine ⟨fun j hj => ?_, fun j hj ho => ?_, fun j k hj hk hne ho hbe hk1 key hwr => ?_, fun j k hj hk hne ho ho2 hb1 hb2 key hwr => ?_⟩
  · replace hj : j < g.lives.length := by rw [← hll]; exact hj
    have := h.bg j hj
    rw [hg j]
    by_cases e : j = i
    · rw [if_pos e]; simp only; omega
    · rw [if_neg e]; omega
  · replace hj : j < g.lives.length := by rw [← hll]; exact hj
    rw [hs j]
    rw [hg j] at ho
    by_cases e : j = i
    · rw [if_pos e]; exact hst
    · rw [if_neg e] at ho ⊢; exact h.st j hj ho
  · replace hj : j < g.lives.length := by rw [← hll]; exact hj
    replace hk : k < g.lives.length := by rw [← hll]; exact hk
    rw [hw] at hwr ⊢
    rw [hs k] at hk1
    have eki : k ≠ i := fun e => by rw [if_pos e] at hk1; exact hst hk1
    rw [if_neg eki] at hk1
    rw [hg k, if_neg eki] at hbe ⊢
    rw [hg j] at ho hbe
    show clashB (getK rw0 rows key).1 _ = true ∧ _
    by_cases e : j = i
    · rw [if_pos e] at ho
      subst e
      exact ⟨hnew ho key _ (hsn k hk) hwr, hex k hk eki hk1 key hwr⟩
    · rw [if_neg e] at ho hbe
      obtain ⟨h1, h2⟩ := h.b j k hj hk hne ho hbe hk1 key hwr
      exact ⟨hcl key _ (hsn k hk) h1, h2⟩
  · replace hj : j < g.lives.length := by rw [← hll]; exact hj
    replace hk : k < g.lives.length := by rw [← hll]; exact hk
    rw [hw, hw] at hwr
    rw [hg j] at ho hb1 hb2
    rw [hg k] at ho2 hb1 hb2
    by_cases e : j = i
    · have ek : k ≠ i := fun e2 => hne (e.trans e2.symm)
      rw [if_neg ek] at ho2 hb1 hb2
      rw [if_pos e] at ho hb1 hb2
      subst e
      simp only at ho hb1 hb2
      exact (h.b k j hk hj (fun e2 => hne e2.symm) ho2 hb2 ha key hwr.2).2 hwr.1
    · rw [if_neg e] at ho hb1 hb2
      by_cases ek : k = i
      · rw [if_pos ek] at ho2 hb1 hb2
        subst ek
        simp only at ho2 hb1 hb2
        exact (h.b j k hj hk hne ho hb1 ha key hwr.1).2 hwr.2
      · rw [if_neg ek] at ho2 hb1 hb2
        exact h.c j k hj hk hne ho ho2 hb1 hb2 key hwr
theorem FI.put {i : Nat} (hi : i < g.lives.length) (ha : (sti s i).1 = 1) {f : Fc} (hcl : clashM s ((i : Int) + 1) (getR s f.key) = false) : FI (putM s f.key ⟨(i : Int) + 1, 0, f.tomb, f.val⟩) (addW g i f) now := by
  have hgt := get_putM hm f.key ⟨(i : Int) + 1, 0, f.tomb, f.val⟩
  have hg : ∀ j, gl (addW g i f) j = if j = i then { gl g i with ws := (gl g i).ws ++ [f] } else gl g j := fun j => gl_set hi
  have hll : (addW g i f).lives.length = g.lives.length := List.length_set ..
  have hg1 : ∀ k, (getR (putM s f.key ⟨(i : Int) + 1, 0, f.tomb, f.val⟩) k).1 = (getR s k).1 := fun k => by
    rw [hgt]; by_cases e : k = f.key
    · rw [if_pos e, e]
    · rw [if_neg e]
  have hov : (gl g i).over = 0 := by
    by_cases e : (gl g i).over = 0
    · exact e
    · exact absurd ha (h.st i hi e)
  have hw : ∀ j k, j ≠ i → (wrote (addW g i f) j k ↔ wrote g j k) := fun j k e => by
    unfold wrote; rw [hg j, if_neg e]
  have hwi : ∀ k, wrote (addW g i f) i k → k ≠ f.key → wrote g i k := fun k h1 e => by
    unfold wrote at h1 ⊢
    rw [hg i, if_pos rfl] at h1
    simp only at h1
    rw [lastW_app, if_neg (fun e2 => e e2.symm)] at h1
    exact h1
  have hbe : ∀ j, (gl (addW g i f) j).begun = (gl g j).begun ∧ (gl (addW g i f) j).over = (gl g j).over ∧ (gl (addW g i f) j).sn = (gl g j).sn := fun j => by
    rw [hg j]; by_cases e : j = i
    · rw [if_pos e, e]; exact ⟨rfl, rfl, rfl⟩
    · rw [if_neg e]; exact ⟨rfl, rfl, rfl⟩
  have hsni : snW s ((i : Int) + 1) = (gl g i).sn := by rw [snW_i, hl.sn i hi]
  refine ⟨fun j hj => ?_, fun j hj ho => ?_, fun j k hj hk hne ho hb hk1 key hwr => ?_, fun j k hj hk hne ho ho2 hb1 hb2 key hwr => ?_⟩
  · rw [(hbe j).1, (hbe j).2.1]; exact h.bg j (by omega)
  · rw [(hbe j).2.1] at ho; exact h.st j (by omega) ho
  · rw [(hbe j).2.1] at ho hb
    rw [(hbe k).1] at hb
    rw [(hbe k).2.2, hg1]
    have eji : j ≠ i := fun e => ho (by rw [e]; exact hov)
    rw [hw j key eji] at hwr
    obtain ⟨h1, h2⟩ := h.b j k (by omega) (by omega) hne ho hb hk1 key hwr
    refine ⟨h1, ?_⟩
    by_cases e : k = i
    · subst e
      intro h3
      by_cases e2 : key = f.key
      · subst e2
        unfold clashM at hcl
        rw [Bool.or_eq_false_iff, hsni, h1] at hcl
        cases hcl.2
      · exact h2 (hwi key h3 e2)
    · rw [hw k key e]; exact h2
  · rw [(hbe j).2.1] at ho hb1
    rw [(hbe k).2.1] at ho2 hb2
    rw [(hbe k).1] at hb1
    rw [(hbe j).1] at hb2
    have eji : j ≠ i := fun e => ho (by rw [e]; exact hov)
    have eki : k ≠ i := fun e => ho2 (by rw [e]; exact hov)
    rw [hw j key eji, hw k key eki] at hwr
    exact h.c j k (by omega) (by omega) hne ho ho2 hb1 hb2 key hwr
theorem FI.begin {t at_ : Int} (hat : now < at_) (h0 : 0 ≤ now) : FI (beginM s t) { g with lives := g.lives ++ [⟨t, (cntL t g.lives : Int) + 1, g.time, [], at_, 0⟩] } at_ := by
  have _ := hm
  have hln := hl.len
  have hg : ∀ j, j < g.lives.length + 1 → gl { g with lives := g.lives ++ [⟨t, (cntL t g.lives : Int) + 1, g.time, [], at_, 0⟩] } j = if j = g.lives.length then ⟨t, (cntL t g.lives : Int) + 1, g.time, [], at_, 0⟩ else gl g j := fun j hj => getD_app hj
  have hs : ∀ j, j < g.lives.length + 1 → sti (beginM s t) j = if j = g.lives.length then (1, s.clock) else sti s j := fun j hj => by
    show (s.txns ++ [(1, s.clock)]).getD j (0, 0) = _
    rw [hln]; exact getD_app (by omega)
  have hll : ∀ l : Lf, (g.lives ++ [l]).length = g.lives.length + 1 := fun l => by simp
  have hold : ∀ j, j < g.lives.length + 1 → (gl { g with lives := g.lives ++ [⟨t, (cntL t g.lives : Int) + 1, g.time, [], at_, 0⟩] } j).over ≠ 0 → j < g.lives.length := fun j hj ho => by
    rw [hg j hj] at ho
    by_cases e : j = g.lives.length
    · rw [if_pos e] at ho; exact absurd rfl ho
    · omega
  refine ⟨fun j hj => ?_, fun j hj ho => ?_, fun j k hj hk hne ho hb hk1 key hwr => ?_, fun j k hj hk hne ho ho2 hb1 hb2 key hwr => ?_⟩
  · have hj : j < g.lives.length + 1 := by rw [← hll]; exact hj
    rw [hg j hj]
    by_cases e : j = g.lives.length
    · rw [if_pos e]; simp only; omega
    · rw [if_neg e]; have := h.bg j (by omega); omega
  · have hj : j < g.lives.length + 1 := by rw [← hll]; exact hj
    have hj2 := hold j hj ho
    rw [hg j hj, if_neg (by omega)] at ho
    rw [hs j hj, if_neg (by omega)]
    exact h.st j hj2 ho
  · have hj : j < g.lives.length + 1 := by rw [← hll]; exact hj
    have hk : k < g.lives.length + 1 := by rw [← hll]; exact hk
    have hj2 := hold j hj ho
    unfold wrote at hwr ⊢
    rw [hg j hj, if_neg (by omega)] at ho hb hwr
    rw [hg k hk] at hb ⊢
    have hbj := h.bg j hj2
    by_cases e : k = g.lives.length
    · rw [if_pos e] at hb; simp only at hb; omega
    · rw [if_neg e] at hb ⊢
      rw [hs k hk, if_neg e] at hk1
      exact h.b j k hj2 (by omega) hne ho hb hk1 key hwr
  · have hj : j < g.lives.length + 1 := by rw [← hll]; exact hj
    have hk : k < g.lives.length + 1 := by rw [← hll]; exact hk
    have hj2 := hold j hj ho
    have hk2 := hold k hk ho2
    unfold wrote at hwr
    rw [hg j hj, if_neg (by omega)] at ho hb1 hb2 hwr
    rw [hg k hk, if_neg (by omega)] at ho2 hb1 hb2 hwr
    exact h.c j k hj2 hk2 hne ho ho2 hb1 hb2 key hwr
theorem FI.vac : FI (vacM s) g now := by
  have hgr : ∀ k, getR (vacM s) k = keptR (floorM s) (getR s k) := hm.g_kept (floorM s)
  refine ⟨h.bg, h.st, fun i j hi hj hne ho hb hj1 k hw => ?_, h.c⟩
  obtain ⟨h1, h2⟩ := h.b i j hi hj hne ho hb hj1 k hw
  refine ⟨?_, h2⟩
  rw [hgr]
  have hln := hl.len
  have h3 : sti s j = s.txns[j] := by unfold sti; rw [List.getD_eq_getElem?_getD, List.getElem?_eq_getElem (by omega)]; rfl
  have hlo := floor_lo s.txns s.clock s.txns[j] (List.getElem_mem _) (by rw [← h3]; exact hj1)
  show clashB (kept (getR s k).1 (floorM s)) _ = true
  rw [(VL.kept (getR s k).1 (floorM s)).cb _ (by rw [hl.sn j hj, h3]; exact hlo)]
  exact h1
theorem FI.do_ {at_ : Int} (hat : now < at_) (h0 : 0 ≤ now) (t : Int) (x : Cl) : FI (doM s t x).1 (noteL g at_ t x (doM s t x).2) at_ := by
  have hov : ∀ i, i < g.lives.length → (sti s i).1 = 1 → (gl g i).over = 0 := fun i hi ha => by
    by_cases e : (gl g i).over = 0
    · exact e
    · exact absurd ha (h.st i hi e)
  have hset : ∀ i, i < g.lives.length → (sti s i).1 = 1 → g.lives.set i { gl g i with over := 0 } = g.lives := fun i hi ha => by
    have e : gl g i = g.lives[i] := by unfold gl; rw [List.getD_eq_getElem?_getD, List.getElem?_eq_getElem hi]; rfl
    have e2 : ({ gl g i with over := 0 } : Lf) = g.lives[i] := by rw [← hov i hi ha, ← e]
    rw [e2]; exact List.set_getElem_self hi
  have hd1 : ∀ (i : Nat) k, (getK rw0 (mapR (dropR ((i : Int) + 1)) s.rows) k).1 = (getR s k).1 := fun i k => by
    rw [hm.g_drop (by omega)]; unfold dropR; split <;> rfl
  rcases stepC hm hl at_ t x with ⟨e1, e2⟩ | ⟨ht, _, e1, e2⟩ | ⟨i, f, hi, ha, hc, e1, e2, _⟩ | ⟨i, hi, ha, e1, e2⟩ | ⟨i, hi, ha, hne, e1, e2⟩ | ⟨i, hi, ha, hne, e1, e2⟩ | ⟨e1, e2⟩
  · rw [e1, e2]; exact h.mono (by omega)
  · rw [e1, e2]; exact h.begin hm hl hat h0
  · rw [e1, e2]; exact (h.put hm hl hi ha hc).mono (by omega)
  · rw [e1, e2]
    have := h.ended hm hl hi ha (st := 4) (at_ := 0) (c := s.clock) (t := g.time) (fs := g.facts) (rows := mapR (dropR ((i : Int) + 1)) s.rows) (.inl rfl) h0 (by decide) (fun k q _ hq => by rw [hd1]; exact hq) (fun e => absurd rfl e)
    rw [hset i hi ha] at this
    have e3 := endM_eq (s := s) (i := i) (st := 4) (c := s.clock) (f := dropR ((i : Int) + 1))
    rw [← e3] at this
    exact this.mono (by omega)
  · rw [e1, e2, endM_eq]
    have hg : ∀ k, getK rw0 (mapR (commR ((i : Int) + 1) (s.clock + 1)) s.rows) k = commR ((i : Int) + 1) (s.clock + 1) (getR s k) := hm.g_comm (by omega)
    refine (h.ended hm hl hi ha (st := 3) (at_ := at_) (c := s.clock + 1) (t := g.time + 1) (fs := g.facts ++ lastFs (g.time + 1) (gl g i).ws) (rows := mapR (commR ((i : Int) + 1) (s.clock + 1)) s.rows) (.inr hat) h0 (by decide) (fun k q hq hq2 => ?_) (fun _ k q hq hw => ?_)).mono (by omega)
    · rw [hg]; unfold commR
      split
      · rw [clashB_cons]; exact decide_eq_true (by simp only; omega)
      · exact hq2
    · rw [hg]; unfold commR
      unfold wrote at hw
      cases hx : lastW k (gl g i).ws with
      | none => exact absurd hx hw
      | some y =>
        rw [if_pos (by rw [hl.ws1 i hi ha k y hx]), clashB_cons]
        exact decide_eq_true (by simp only; omega)
  · rw [e1, e2]
    have e3 := endM_eq (s := s) (i := i) (st := 3) (c := s.clock) (f := dropR ((i : Int) + 1))
    have e4 : endM s ((i : Int) + 1) 3 (dropR ((i : Int) + 1)) = ⟨s.cf, s.clock, s.floor, s.txns.set i (3, (sti s i).2), s.tasks, mapR (dropR ((i : Int) + 1)) s.rows⟩ := e3
    rw [e4]
    refine (h.ended hm hl hi ha (st := 3) (at_ := at_) (c := s.clock) (t := g.time) (fs := g.facts) (rows := mapR (dropR ((i : Int) + 1)) s.rows) (.inr hat) h0 (by decide) (fun k q _ hq => by rw [hd1]; exact hq) (fun _ k q hq hw => ?_)).mono (by omega)
    unfold wrote at hw
    rw [hne] at hw
    exact absurd rfl hw
  · rw [e1, e2]; exact (h.vac hm hl).mono (by omega)
end
end Go.Proofs.Ytoinjnocopejjaa
