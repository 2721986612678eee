/- The log of what was done: its words. -/
import Derived.Test.YtoinjnocopejjaaSA
namespace Go.Proofs.Ytoinjnocopejjaa
set_option linter.unusedVariables false
set_option linter.unusedSimpArgs false
structure Fc where
  ts : Int
  key : ByteArray
  tomb : Bool
  val : ByteArray
structure Lf where
  task : Int
  n : Int
  sn : Int
  ws : List Fc
  begun : Int
  over : Int
structure Lg where
  time : Int
  facts : List Fc
  lives : List Lf
def lg0 : Lg := ⟨0, [], []⟩
def fc0 : Fc := ⟨0, emp, false, emp⟩
def fcT : Fc := ⟨0, emp, true, emp⟩
def lf0 : Lf := ⟨0, 0, 0, [], 0, 0⟩
/-- where a task's transaction is; the length: nowhere -/
def findN (t n : Int) : List Lf → Nat
  | [] => 0
  | l :: r => if l.task = t ∧ l.n = n then 0 else findN t n r + 1
def findL (g : Lg) (t n : Int) : Int := if findN t n g.lives < g.lives.length then (findN t n g.lives : Int) else -1
def lastW (k : ByteArray) : List Fc → Option Fc
  | [] => none
  | f :: r => match lastW k r with
    | some x => some x
    | none => if f.key = k then some f else none
def bestS (k : ByteArray) (sn : Int) (b f : Fc) : Fc := if f.key = k ∧ f.ts ≤ sn ∧ b.ts < f.ts then f else b
def bestF (k : ByteArray) (sn : Int) (fs : List Fc) : Fc := fs.foldl (bestS k sn) fcT
def readF (fs : List Fc) (l : Lf) (k : ByteArray) : Fc := match lastW k l.ws with
  | some f => f
  | none => bestF k l.sn fs
def readL (g : Lg) (i : Nat) (k : ByteArray) : Fc := readF g.facts (g.lives.getD i lf0) k
def cntL (t : Int) (l : List Lf) : Nat := (l.filter fun x => decide (x.task = t)).length
def lastFs (ts : Int) : List Fc → List Fc
  | [] => []
  | f :: r => if (r.all fun x => decide (x.key ≠ f.key)) = true then { f with ts := ts } :: lastFs ts r else lastFs ts r
def addW (g : Lg) (i : Nat) (f : Fc) : Lg := { g with lives := g.lives.set i { g.lives.getD i lf0 with ws := (g.lives.getD i lf0).ws ++ [f] } }
def overW (g : Lg) (i : Nat) (at_ : Int) : Lg := { g with lives := g.lives.set i { g.lives.getD i lf0 with over := at_ } }
def noteL (g : Lg) (at_ t : Int) (x : Cl) (a : As) : Lg :=
  if a.1 ≠ 0 ∨ (x.1 ≠ 1 ∧ findL g t x.2.1 < 0) then g
  else if x.1 = 1 then { g with lives := g.lives ++ [⟨t, (cntL t g.lives : Int) + 1, g.time, [], at_, 0⟩] }
  else if x.1 = 3 then addW g (findL g t x.2.1).toNat ⟨0, x.2.2.1, false, x.2.2.2.2.1⟩
  else if x.1 = 4 then (if a.2.1 = true then addW g (findL g t x.2.1).toNat ⟨0, x.2.2.1, true, emp⟩ else g)
  else if x.1 = 6 then
    (if (g.lives.getD (findL g t x.2.1).toNat lf0).ws = [] then overW g (findL g t x.2.1).toNat at_
     else { overW g (findL g t x.2.1).toNat at_ with time := g.time + 1, facts := g.facts ++ lastFs (g.time + 1) (g.lives.getD (findL g t x.2.1).toNat lf0).ws })
  else g
theorem lastW_app (k : ByteArray) (f : Fc) : ∀ l : List Fc, lastW k (l ++ [f]) = if f.key = k then some f else lastW k l
  | [] => rfl
  | g :: l => by
    show (match lastW k (l ++ [f]) with | some x => some x | none => if g.key = k then some g else none) = _
    rw [lastW_app k f l]
    by_cases e : f.key = k
    · rw [if_pos e, if_pos e]
    · rw [if_neg e, if_neg e]; rfl
theorem lastW_none {k : ByteArray} : ∀ {l : List Fc}, lastW k l = none ↔ ∀ f ∈ l, f.key ≠ k
  | [] => ⟨fun _ _ h => (by cases h), fun _ => rfl⟩
  | f :: l => by
    have ih := @lastW_none k l
    show (match lastW k l with | some x => some x | none => if f.key = k then some f else none) = none ↔ _
    cases h : lastW k l with
    | some x =>
      constructor
      · intro e; cases e
      · intro e
        rw [ih.2 (fun g hg => e g (List.mem_cons_of_mem _ hg))] at h; cases h
    | none =>
      have h2 := ih.1 h
      simp only
      constructor
      · intro e g hg
        rcases List.mem_cons.1 hg with rfl | hg
        · intro e2; rw [if_pos e2] at e; cases e
        · exact h2 g hg
      · intro e; rw [if_neg (e f (List.mem_cons_self ..))]
theorem lastW_some {k : ByteArray} {x : Fc} : ∀ {l : List Fc}, lastW k l = some x → x ∈ l ∧ x.key = k
  | [], h => by cases h
  | f :: l, h => by
    have h : (match lastW k l with | some x => some x | none => if f.key = k then some f else none) = some x := h
    cases e : lastW k l with
    | some y =>
      rw [e] at h
      obtain rfl : y = x := by simpa using h
      have := lastW_some e
      exact ⟨List.mem_cons_of_mem _ this.1, this.2⟩
    | none =>
      rw [e] at h
      simp only at h
      split at h
      · rename_i e2
        obtain rfl : f = x := by simpa using h
        exact ⟨List.mem_cons_self .., e2⟩
      · cases h
theorem mem_lastFs {ts : Int} {f : Fc} : ∀ {l : List Fc}, f ∈ lastFs ts l ↔ ∃ x, lastW f.key l = some x ∧ f = { x with ts := ts }
  | [] => ⟨fun h => (by cases h), fun ⟨_, h, _⟩ => (by cases h)⟩
  | g :: l => by
    have ih := @mem_lastFs ts f l
    have e : lastW f.key (g :: l) = match lastW f.key l with | some x => some x | none => if g.key = f.key then some g else none := rfl
    rw [e]
    unfold lastFs
    by_cases ha : (l.all fun x => decide (x.key ≠ g.key)) = true
    · rw [if_pos ha]
      have ha2 : lastW g.key l = none := lastW_none.2 (fun x hx => of_decide_eq_true (List.all_eq_true.1 ha x hx))
      rw [List.mem_cons, ih]
      constructor
      · rintro (h1 | ⟨x, h1, h2⟩)
        · have hk : f.key = g.key := by rw [h1]
          refine ⟨g, ?_, h1⟩
          rw [hk, ha2]; simp
        · exact ⟨x, by rw [h1], h2⟩
      · rintro ⟨x, h1, h2⟩
        cases e2 : lastW f.key l with
        | some y => rw [e2] at h1; exact .inr ⟨x, h1, h2⟩
        | none =>
          rw [e2] at h1
          simp only at h1
          split at h1
          · obtain rfl : g = x := by simpa using h1
            exact .inl h2
          · cases h1
    · rw [if_neg ha, ih]
      constructor
      · rintro ⟨x, h1, h2⟩; exact ⟨x, by rw [h1], h2⟩
      · rintro ⟨x, h1, h2⟩
        cases e2 : lastW f.key l with
        | some y => rw [e2] at h1; exact ⟨x, h1, h2⟩
        | none =>
          rw [e2] at h1
          simp only at h1
          split at h1
          · rename_i e3
            exfalso
            apply ha
            rw [List.all_eq_true]
            intro y hy
            refine decide_eq_true ?_
            rw [e3]
            exact lastW_none.1 e2 y hy
          · cases h1
theorem bestF_app (k : ByteArray) (q : Int) (l m : List Fc) : bestF k q (l ++ m) = m.foldl (bestS k q) (bestF k q l) := by unfold bestF; rw [List.foldl_append]
/-- the best of what has timestamps up to c has one up to c -/
theorem best_ts {k : ByteArray} {q c : Int} : ∀ {l : List Fc} {b : Fc}, b.ts ≤ c → (∀ f ∈ l, f.ts ≤ c) → (l.foldl (bestS k q) b).ts ≤ c
  | [], _, hb, _ => hb
  | f :: l, b, hb, h => by
    refine best_ts (l := l) ?_ (fun g hg => h g (List.mem_cons_of_mem _ hg))
    unfold bestS; split
    · exact h f (List.mem_cons_self ..)
    · exact hb
theorem best_none {k : ByteArray} {q : Int} : ∀ {l : List Fc} {b : Fc}, (∀ f ∈ l, f.key = k → q < f.ts ∨ f.ts ≤ b.ts) → l.foldl (bestS k q) b = b
  | [], _, _ => rfl
  | f :: l, b, h => by
    have e : bestS k q b f = b := by
      unfold bestS
      rw [if_neg (fun e => by rcases h f (List.mem_cons_self ..) e.1 with h1 | h1 <;> omega)]
    show l.foldl (bestS k q) (bestS k q b f) = b
    rw [e]
    exact best_none (fun g hg => h g (List.mem_cons_of_mem _ hg))
/-- of facts of one timestamp, later than all, the one of that key is the best -/
theorem best_new {k : ByteArray} {q c : Int} {x : Fc} : ∀ {l : List Fc} {b : Fc}, c ≤ q → (b.ts < c ∨ b = x) → (∀ f ∈ l, f.ts = c) → (∀ f ∈ l, f.key = k → f = x) → (x ∈ l ∨ b = x) → x.key = k → x.ts = c → l.foldl (bestS k q) b = x
  | [], _, _, _, _, _, h, _, _ => h.resolve_left (fun e => by cases e)
  | f :: l, b, hq, hb, hc, hk, h, hx, hxc => by
    have hc1 := hc f (List.mem_cons_self ..)
    show l.foldl (bestS k q) (bestS k q b f) = x
    by_cases e : f.key = k
    · have e2 := hk f (List.mem_cons_self ..) e
      have e3 : bestS k q b f = x := by
        unfold bestS
        rcases hb with hb | hb
        · rw [if_pos ⟨e, by omega, by omega⟩]; exact e2
        · rw [if_neg (fun e4 => by rw [hb] at e4; omega)]; exact hb
      rw [e3]
      exact best_new hq (.inr rfl) (fun g hg => hc g (List.mem_cons_of_mem _ hg)) (fun g hg => hk g (List.mem_cons_of_mem _ hg)) (.inr rfl) hx hxc
    · have e3 : bestS k q b f = b := by unfold bestS; rw [if_neg (fun e4 => e e4.1)]
      rw [e3]
      refine best_new hq hb (fun g hg => hc g (List.mem_cons_of_mem _ hg)) (fun g hg => hk g (List.mem_cons_of_mem _ hg)) ?_ hx hxc
      rcases h with h | h
      · rcases List.mem_cons.1 h with rfl | h
        · exact absurd hx e
        · exact .inl h
      · exact .inr h
end Go.Proofs.Ytoinjnocopejjaa
