/- MA, P, TC, MB, MC, MD in one. -/
import Derived.WalkKit
import Derived.ProofKit
import Derived.Maps.OwnOps
import Derived.Maps.OwnSet
import Derived.Maps.RangeWalk
import Derived.Maps.Views
import Derived.Maps.Ext
import Derived.WideAt
import Derived.WideShapes
import Derived.Lib.Strings
import Derived.Lib.Bytealg
/- Lists by keys: as a map of them reads; rising. -/
namespace Go.Proofs.Ytoinjnocopejjaa
open Go.ChangeShapes Go.WideShapes Go.ChangeAt Go.RowKit Go.Maps
set_option linter.unusedVariables false
set_option linter.unusedSimpArgs false
/-- a text's bytes -/
def bl (a : ByteArray) : List UInt8 := a.data.toList
theorem bl_inj {a b : ByteArray} (h : bl a = bl b) : a = b := by
  cases a; cases b
  unfold bl at h
  simp only [ByteArray.mk.injEq]
  exact Array.toList_inj.1 h
/-- does a text stand ahead? -/
def kB (a b : ByteArray) : Bool := bytesBefore (bl a) (bl b)
theorem kB_irr (a : ByteArray) : kB a a = false := WideAt.bytes_irrefl _
theorem kB_trans {a b c : ByteArray} (h : kB a b = true) (k : kB b c = true) : kB a c = true := bytes_trans _ _ _ h k
theorem kB_tot {a b : ByteArray} (h : a ≠ b) : kB a b = true ∨ kB b a = true := WideAt.bytes_total _ _ (fun e => h (bl_inj e))
theorem kB_asym {a b : ByteArray} (h : kB a b = true) : kB b a = false := by
  cases e : kB b a with
  | false => rfl
  | true => have := kB_trans h e; rw [kB_irr] at this; cases this
theorem kB_ne {a b : ByteArray} (h : kB a b = true) : a ≠ b := fun e => by rw [e, kB_irr] at h; cases h
section
variable {α β : Type}
def insK (x : ByteArray × α) : List (ByteArray × α) → List (ByteArray × α)
  | [] => [x]
  | y :: r => if kB x.1 y.1 = true then x :: y :: r else y :: insK x r
def delK (l : List (ByteArray × α)) (k : ByteArray) : List (ByteArray × α) := l.filter fun p => decide (p.1 ≠ k)
def putK (l : List (ByteArray × α)) (k : ByteArray) (a : α) : List (ByteArray × α) := insK (k, a) (delK l k)
def getK (d : α) : List (ByteArray × α) → ByteArray → α
  | [], _ => d
  | p :: l, k => if p.1 = k then p.2 else getK d l k
def hasK (l : List (ByteArray × α)) (k : ByteArray) : Bool := l.any fun p => decide (p.1 = k)
/-- rising, by keys -/
def Up (l : List (ByteArray × α)) : Prop := l.Pairwise fun p q => kB p.1 q.1 = true
def mp (f : α → β) (l : List (ByteArray × α)) : List (ByteArray × β) := l.map fun p => (p.1, f p.2)
theorem mp_len (f : α → β) (l : List (ByteArray × α)) : (mp f l).length = l.length := by simp [mp]
theorem mp_del (f : α → β) (l : List (ByteArray × α)) (k : ByteArray) : mp f (delK l k) = delK (mp f l) k := by
  unfold mp delK
  rw [List.filter_map]
  rfl
theorem mp_ins (f : α → β) (x : ByteArray × α) : ∀ l : List (ByteArray × α), mp f (insK x l) = insK (x.1, f x.2) (mp f l)
  | [] => rfl
  | y :: r => by
    have ih := mp_ins f x r
    unfold mp at ih ⊢
    unfold insK
    simp only [List.map_cons]
    split
    · rw [List.map_cons, List.map_cons]
    · rw [List.map_cons, ih]
theorem mp_put (f : α → β) (l : List (ByteArray × α)) (k : ByteArray) (a : α) : mp f (putK l k a) = putK (mp f l) k (f a) := by
  unfold putK; rw [mp_ins, mp_del]
theorem mp_get (f : α → β) (d : α) : ∀ (l : List (ByteArray × α)) (k : ByteArray), getK (f d) (mp f l) k = f (getK d l k)
  | [], _ => rfl
  | p :: l, k => by
    have ih := mp_get f d l k
    unfold mp at ih ⊢
    simp only [List.map_cons, getK]
    split
    · rfl
    · exact ih
theorem mp_has (f : α → β) (l : List (ByteArray × α)) (k : ByteArray) : hasK (mp f l) k = hasK l k := by
  unfold hasK mp; rw [List.any_map]; rfl
theorem mp_up (f : α → β) {l : List (ByteArray × α)} : Up (mp f l) ↔ Up l := by
  unfold Up mp; rw [List.pairwise_map]
theorem mp_mp {γ : Type} (g : β → γ) (f : α → β) (l : List (ByteArray × α)) : mp g (mp f l) = mp (fun a => g (f a)) l := by
  unfold mp; rw [List.map_map]; rfl
theorem Up.nil : Up ([] : List (ByteArray × α)) := List.Pairwise.nil
theorem Up.del {l : List (ByteArray × α)} (h : Up l) (k : ByteArray) : Up (delK l k) := List.Pairwise.filter _ h
theorem ins_mem (x : ByteArray × α) : ∀ (l : List (ByteArray × α)) (p : ByteArray × α), p ∈ insK x l ↔ p = x ∨ p ∈ l
  | [], p => by simp [insK]
  | y :: r, p => by
    unfold insK
    split
    · simp
    · rw [List.mem_cons, ins_mem x r p, List.mem_cons]
      constructor
      · rintro (h | h | h)
        · exact .inr (.inl h)
        · exact .inl h
        · exact .inr (.inr h)
      · rintro (h | h | h)
        · exact .inr (.inl h)
        · exact .inl h
        · exact .inr (.inr h)
theorem Up.ins {x : ByteArray × α} : ∀ {l : List (ByteArray × α)}, Up l → (∀ p ∈ l, p.1 ≠ x.1) → Up (insK x l)
  | [], _, _ => by unfold insK Up; simp
  | y :: r, h, hn => by
    obtain ⟨h1, h2⟩ := List.pairwise_cons.1 h
    unfold insK
    split
    · rename_i hx
      refine List.pairwise_cons.2 ⟨fun p hp => ?_, h⟩
      rcases List.mem_cons.1 hp with rfl | hp
      · exact hx
      · exact kB_trans hx (h1 p hp)
    · rename_i hx
      refine List.pairwise_cons.2 ⟨fun p hp => ?_, Up.ins h2 (fun p hp => hn p (List.mem_cons_of_mem _ hp))⟩
      rcases (ins_mem x r p).1 hp with rfl | hp
      · rcases kB_tot (hn y (List.mem_cons_self ..)) with e | e
        · exact e
        · exact absurd e hx
      · exact h1 p hp
theorem mem_del {l : List (ByteArray × α)} {k : ByteArray} {p : ByteArray × α} : p ∈ delK l k ↔ p ∈ l ∧ p.1 ≠ k := by
  unfold delK; rw [List.mem_filter]; simp
theorem Up.put {l : List (ByteArray × α)} (h : Up l) (k : ByteArray) (a : α) : Up (putK l k a) := (h.del k).ins (fun p hp => (mem_del.1 hp).2)
theorem mem_put {l : List (ByteArray × α)} {k : ByteArray} {a : α} {p : ByteArray × α} : p ∈ putK l k a ↔ p = (k, a) ∨ (p ∈ l ∧ p.1 ≠ k) := by
  unfold putK; rw [ins_mem, mem_del]
theorem get_of_mem {d : α} : ∀ {l : List (ByteArray × α)}, Up l → ∀ {p : ByteArray × α}, p ∈ l → getK d l p.1 = p.2
  | [], _, _, h => by cases h
  | q :: l, hu, p, h => by
    obtain ⟨h1, h2⟩ := List.pairwise_cons.1 hu
    unfold getK
    rcases List.mem_cons.1 h with rfl | h
    · rw [if_pos rfl]
    · rw [if_neg (kB_ne (h1 p h))]
      exact get_of_mem h2 h
theorem has_iff {l : List (ByteArray × α)} {k : ByteArray} : hasK l k = true ↔ ∃ a, (k, a) ∈ l := by
  unfold hasK
  rw [List.any_eq_true]
  constructor
  · rintro ⟨p, hp, h⟩
    have := of_decide_eq_true h
    subst this
    exact ⟨p.2, hp⟩
  · rintro ⟨a, ha⟩
    exact ⟨_, ha, decide_eq_true rfl⟩
theorem get_none {d : α} : ∀ {l : List (ByteArray × α)} {k : ByteArray}, hasK l k = false → getK d l k = d
  | [], _, _ => rfl
  | p :: l, k, h => by
    unfold hasK at h
    rw [List.any_cons, Bool.or_eq_false_iff] at h
    unfold getK
    rw [if_neg (of_decide_eq_false h.1)]
    exact get_none h.2
theorem get_mem {d : α} : ∀ {l : List (ByteArray × α)} {k : ByteArray}, hasK l k = true → (k, getK d l k) ∈ l
  | [], _, h => by cases h
  | p :: l, k, h => by
    unfold getK
    by_cases e : p.1 = k
    · rw [if_pos e]; subst e; exact List.mem_cons_self ..
    · rw [if_neg e]
      refine List.mem_cons_of_mem _ (get_mem ?_)
      unfold hasK at h ⊢
      rw [List.any_cons, decide_eq_false e] at h
      simpa using h
theorem ext_up {l m : List (ByteArray × α)} (hl : Up l) (hm : Up m) (h : ∀ p, p ∈ l ↔ p ∈ m) : l = m := by
  induction l generalizing m with
  | nil =>
    cases m with
    | nil => rfl
    | cons q m => exact absurd ((h q).2 (List.mem_cons_self ..)) (by simp)
  | cons p l ih =>
    cases m with
    | nil => exact absurd ((h p).1 (List.mem_cons_self ..)) (by simp)
    | cons q m =>
      obtain ⟨h1, h2⟩ := List.pairwise_cons.1 hl
      obtain ⟨h3, h4⟩ := List.pairwise_cons.1 hm
      have e : p = q := by
        rcases List.mem_cons.1 ((h p).1 (List.mem_cons_self ..)) with e | e
        · exact e
        rcases List.mem_cons.1 ((h q).2 (List.mem_cons_self ..)) with e' | e'
        · exact e'.symm
        · have a := h3 p e
          have b := h1 q e'
          rw [kB_asym a] at b; cases b
      subst e
      congr 1
      refine ih h2 h4 (fun x => ?_)
      constructor
      · intro hx
        rcases List.mem_cons.1 ((h x).1 (List.mem_cons_of_mem _ hx)) with e | e
        · subst e; exact absurd (h1 x hx) (by rw [kB_irr]; decide)
        · exact e
      · intro hx
        rcases List.mem_cons.1 ((h x).2 (List.mem_cons_of_mem _ hx)) with e | e
        · subst e; exact absurd (h3 x hx) (by rw [kB_irr]; decide)
        · exact e
theorem has_put {l : List (ByteArray × α)} {k k' : ByteArray} {a : α} : hasK (putK l k a) k' = (decide (k' = k) || hasK l k') := by
  rw [Bool.eq_iff_iff, has_iff, Bool.or_eq_true, has_iff, decide_eq_true_eq]
  constructor
  · rintro ⟨x, hx⟩
    rcases mem_put.1 hx with e | e
    · cases e; exact .inl rfl
    · exact .inr ⟨x, e.1⟩
  · rintro (rfl | ⟨x, hx⟩)
    · exact ⟨a, mem_put.2 (.inl rfl)⟩
    · by_cases e : k' = k
      · subst e; exact ⟨a, mem_put.2 (.inl rfl)⟩
      · exact ⟨x, mem_put.2 (.inr ⟨hx, e⟩)⟩
theorem has_del {l : List (ByteArray × α)} {k k' : ByteArray} : hasK (delK l k) k' = (decide (k' ≠ k) && hasK l k') := by
  rw [Bool.eq_iff_iff, has_iff, Bool.and_eq_true, has_iff, decide_eq_true_eq]
  constructor
  · rintro ⟨x, hx⟩
    exact ⟨(mem_del.1 hx).2, x, (mem_del.1 hx).1⟩
  · rintro ⟨h, x, hx⟩
    exact ⟨x, mem_del.2 ⟨hx, h⟩⟩
theorem get_put {d : α} {l : List (ByteArray × α)} (hu : Up l) {k k' : ByteArray} {a : α} : getK d (putK l k a) k' = if k' = k then a else getK d l k' := by
  by_cases e : k' = k
  · subst e
    rw [if_pos rfl]
    exact get_of_mem (hu.put _ _) (p := (k', a)) (mem_put.2 (.inl rfl))
  · rw [if_neg e]
    cases h : hasK l k' with
    | true =>
      have := get_mem (d := d) h
      exact get_of_mem (hu.put _ _) (p := (k', getK d l k')) (mem_put.2 (.inr ⟨this, e⟩))
    | false => rw [get_none h, get_none (by rw [has_put, h, decide_eq_false e]; rfl)]
theorem get_del {d : α} {l : List (ByteArray × α)} (hu : Up l) {k k' : ByteArray} : getK d (delK l k) k' = if k' = k then d else getK d l k' := by
  by_cases e : k' = k
  · subst e
    rw [if_pos rfl]
    exact get_none (by rw [has_del]; simp)
  · rw [if_neg e]
    cases h : hasK l k' with
    | true =>
      have := get_mem (d := d) h
      exact get_of_mem (hu.del _) (p := (k', getK d l k')) (mem_del.2 ⟨this, e⟩)
    | false => rw [get_none h, get_none (by rw [has_del, h]; simp)]
theorem len_put {l : List (ByteArray × α)} (hu : Up l) {k : ByteArray} {a : α} : (putK l k a).length = if hasK l k = true then l.length else l.length + 1 := by
  have li : ∀ (x : ByteArray × α) (l : List (ByteArray × α)), (insK x l).length = l.length + 1 := fun x l => by
    induction l with
    | nil => rfl
    | cons y r ih => unfold insK; split <;> simp [ih]
  have ld : ∀ {l : List (ByteArray × α)}, Up l → (delK l k).length + (if hasK l k = true then 1 else 0) = l.length := fun {l} hu => by
    induction l with
    | nil => rfl
    | cons p l ih =>
      obtain ⟨h1, h2⟩ := List.pairwise_cons.1 hu
      have ih := ih h2
      unfold delK hasK at ih ⊢
      rw [List.filter_cons, List.any_cons]
      by_cases e : p.1 = k
      · have hn : (l.any fun p => decide (p.1 = k)) = false := by
          rw [List.any_eq_false]
          intro q hq hh
          have := of_decide_eq_true hh
          exact kB_ne (h1 q hq) (e.trans this.symm)
        rw [hn] at ih
        rw [if_neg (by simp [e]), decide_eq_true e]
        simp only [Bool.true_or, if_true, List.length_cons]
        simpa using ih
      · rw [if_pos (by simpa using e), decide_eq_false e, Bool.false_or, List.length_cons, List.length_cons]
        omega
  unfold putK
  rw [li]
  have := ld hu
  by_cases e : hasK l k = true
  · rw [if_pos e] at this ⊢; omega
  · rw [if_neg e] at this ⊢; omega
end
/-- tokens are values -/
abbrev DV := DataW Value
def encH (p : ByteArray × Value) : Lit × DV := (.string (bl p.1), .held p.2)
def dm (l : List (ByteArray × Value)) : DV := .map (l.map encH)
def RH (v : Value) : Option (DV × List MemPlace) := some (.held v, [])
theorem same_str (a b : ByteArray) : (Lit.string (bl a)).sameKey (.string (bl b)) = decide (a = b) := by
  show (bl a == bl b) = _
  rw [Bool.eq_iff_iff, beq_iff_eq, decide_eq_true_eq]
  exact ⟨bl_inj, fun e => by rw [e]⟩
theorem atKey_dm (l : List (ByteArray × Value)) (k : ByteArray) (z : Value) : (dm l).atKey (.string (bl k)) (.held z) = .held (getK z l k) := by
  induction l with
  | nil => rfl
  | cons p l ih =>
    unfold dm DataW.atKey at ih ⊢
    simp only [List.map_cons, List.find?_cons, encH, same_str]
    unfold getK
    by_cases h : p.1 = k
    · rw [decide_eq_true h, if_pos h]
    · rw [decide_eq_false h, if_neg h]
      exact ih
theorem del_dm (l : List (ByteArray × Value)) (k : ByteArray) : (dm l).del (.string (bl k)) = dm (delK l k) := by
  show DataW.map _ = DataW.map _
  congr 1
  unfold delK
  induction l with
  | nil => rfl
  | cons p l ih =>
    simp only [List.map_cons, List.filter_cons, encH, same_str] at ih ⊢
    by_cases h : p.1 = k
    · simp [h]; simpa using ih
    · simp [h, encH]; simpa using ih
theorem ins_dm (x : ByteArray × Value) : ∀ l : List (ByteArray × Value), DataW.insert (encH x) (l.map encH) = (insK x l).map encH
  | [] => rfl
  | y :: r => by
    simp only [List.map_cons, DataW.insert, insK]
    have e : Lit.before (encH x).1 (encH y).1 = kB x.1 y.1 := rfl
    rw [e]
    by_cases h : kB x.1 y.1 = true
    · rw [if_pos h, if_pos h]; rfl
    · rw [if_neg h, if_neg h, ins_dm x r]; rfl
theorem put_dm (l : List (ByteArray × Value)) (k : ByteArray) (v : Value) : (dm l).put (.string (bl k)) (.held v) = dm (putK l k v) := by
  have h := del_dm l k
  unfold DataW.del dm at h
  simp only [DataW.map.injEq] at h
  unfold DataW.put dm
  simp only
  rw [h]
  unfold putK
  rw [← ins_dm]
  rfl
theorem has_dm (l : List (ByteArray × Value)) (k : ByteArray) : Maps.has (dm l) (.string (bl k)) = hasK l k := by
  unfold Maps.has dm hasK
  simp only [List.any_map]
  have e : ((fun p : Lit × DV => p.1.sameKey (.string (bl k))) ∘ encH) = fun p : ByteArray × Value => decide (p.1 = k) := funext fun p => same_str p.1 k
  rw [e]
theorem size_dm (l : List (ByteArray × Value)) : Maps.size (dm l) = l.length := by
  unfold dm; rw [Maps.size_eq, List.length_map]
end Go.Proofs.Ytoinjnocopejjaa

/- Lists of versions: which may be, what is kept, what is seen. -/
namespace Go.Proofs.Ytoinjnocopejjaa
structure Ver where
  w : Int
  ts : Int
  tomb : Bool
  val : ByteArray
def ver0 : Ver := ⟨0, 0, false, ⟨#[]⟩⟩
theorem Ver.ext' {a b : Ver} (h1 : a.w = b.w) (h2 : a.ts = b.ts) (h3 : a.tomb = b.tomb) (h4 : a.val = b.val) : a = b := by
  cases a; cases b; simp_all
def verB (a b : Ver) : Bool := decide (a.w = b.w) && decide (a.ts = b.ts) && (a.tomb == b.tomb) && decide (a.val = b.val)
theorem verB_yes {a b : Ver} : verB a b = true ↔ a = b := by
  unfold verB
  simp only [Bool.and_eq_true, decide_eq_true_eq, beq_iff_eq]
  exact ⟨fun h => Ver.ext' h.1.1.1 h.1.1.2 h.1.2 h.2, fun h => by subst h; exact ⟨⟨⟨rfl, rfl⟩, rfl⟩, rfl⟩⟩
theorem verB_self (a : Ver) : verB a a = true := verB_yes.2 rfl
theorem verB_no {a b : Ver} (h : a ≠ b) : verB a b = false := by
  cases e : verB a b
  · rfl
  · exact absurd (verB_yes.1 e) h
/-- may a list be? -/
def LegalP (l : List Ver) : Prop := ∀ k, k < l.length → 1 ≤ (l.getD k ver0).ts ∧ (0 < k → (l.getD k ver0).ts < (l.getD (k - 1) ver0).ts)
def legalB : List Ver → Bool
  | [] => true
  | [v] => decide (1 ≤ v.ts)
  | v :: u :: l => decide (1 ≤ v.ts) && decide (u.ts < v.ts) && legalB (u :: l)
theorem legal_iff : ∀ {l : List Ver}, legalB l = true ↔ LegalP l
  | [] => ⟨fun _ k hk => by simp at hk, fun _ => rfl⟩
  | [v] => by
    simp only [legalB, decide_eq_true_eq]
    refine ⟨fun h k hk => ?_, fun h => (h 0 (by simp)).1⟩
    have : k = 0 := by simp at hk; exact hk
    subst this
    exact ⟨h, fun h0 => by omega⟩
  | v :: u :: l => by
    simp only [legalB, Bool.and_eq_true, decide_eq_true_eq]
    constructor
    · rintro ⟨⟨h1, h2⟩, h3⟩ k hk
      have ih := legal_iff.1 h3
      cases k with
      | zero => exact ⟨h1, fun h0 => by omega⟩
      | succ k =>
        have hk' : k < (u :: l).length := by simp at hk ⊢; omega
        have h4 := ih k hk'
        refine ⟨by rw [List.getD_cons_succ]; exact h4.1, fun _ => ?_⟩
        rw [List.getD_cons_succ]
        cases k with
        | zero => exact h2
        | succ k => exact h4.2 (by omega)
    · intro h
      refine ⟨⟨(h 0 (by simp)).1, (h 1 (by simp)).2 (by omega)⟩, legal_iff.2 fun k hk => ?_⟩
      have h4 := h (k + 1) (by simp at hk ⊢; omega)
      rw [List.getD_cons_succ] at h4
      refine ⟨h4.1, fun h0 => ?_⟩
      have h5 := h4.2 (by omega)
      obtain ⟨j, rfl⟩ : ∃ j, k = j + 1 := ⟨k - 1, by omega⟩
      exact h5
theorem legal_yes {l : List Ver} (h : LegalP l) : legalB l = true := legal_iff.2 h
theorem legal_no {l : List Ver} (h : ¬ LegalP l) : legalB l = false := by
  cases e : legalB l
  · rfl
  · exact absurd (legal_iff.1 e) h
/-- the place of the newest one up to a number; as many as there are: there is none -/
def upto : List Ver → Int → Nat
  | [], _ => 0
  | v :: l, n => if v.ts ≤ n then 0 else upto l n + 1
theorem upto_le : ∀ (l : List Ver) (n : Int), upto l n ≤ l.length
  | [], _ => Nat.le_refl _
  | v :: l, n => by
    unfold upto
    split
    · exact Nat.zero_le _
    · have := upto_le l n; simp; omega
theorem upto_lt : ∀ (l : List Ver) (n : Int) (k : Nat), k < upto l n → n < (l.getD k ver0).ts
  | [], _, k, h => by simp [upto] at h
  | v :: l, n, k, h => by
    unfold upto at h
    split at h
    · omega
    · cases k with
      | zero => simp only [List.getD_cons_zero]; omega
      | succ k => rw [List.getD_cons_succ]; exact upto_lt l n k (by omega)
theorem upto_at : ∀ (l : List Ver) (n : Int), upto l n < l.length → (l.getD (upto l n) ver0).ts ≤ n
  | [], _, h => by simp at h
  | v :: l, n, h => by
    unfold upto at h ⊢
    split
    · simpa
    · rename_i hn
      rw [if_neg hn] at h
      rw [List.getD_cons_succ]
      exact upto_at l n (by simp at h; omega)
theorem upto_eq (l : List Ver) (n : Int) (k : Nat) (hk : k ≤ l.length) (h1 : ∀ j, j < k → n < (l.getD j ver0).ts) (h2 : k < l.length → (l.getD k ver0).ts ≤ n) : upto l n = k := by
  rcases Nat.lt_trichotomy (upto l n) k with c | c | c
  · have a := h1 _ c
    have b := upto_at l n (by omega)
    omega
  · exact c
  · have a := upto_lt l n k c
    have b := h2 (by have := upto_le l n; omega)
    omega
/-- how many are kept -/
def nkept (l : List Ver) (f : Int) : Nat := if upto l f < l.length ∧ (l.getD (upto l f) ver0).tomb = false then upto l f + 1 else upto l f
def kept (l : List Ver) (f : Int) : List Ver := l.take (nkept l f)
theorem nkept_le (l : List Ver) (f : Int) : nkept l f ≤ l.length := by
  unfold nkept
  have := upto_le l f
  split <;> omega
def seenB (l : List Ver) (s : Int) : Bool := decide (upto l s < l.length) && !(l.getD (upto l s) ver0).tomb
def seen (l : List Ver) (s : Int) : Ver := if seenB l s = true then l.getD (upto l s) ver0 else ver0
def clashB (l : List Ver) (s : Int) : Bool := decide (0 < l.length ∧ s < (l.getD 0 ver0).ts)
end Go.Proofs.Ytoinjnocopejjaa

/- Configs; how texts stand. -/
namespace Go.Proofs.Ytoinjnocopejjaa
/-- the numbers of a config -/
structure Conf where
  ta : Int
  ac : Int
  ke : Int
  de : Int
  ts : Int
  kl : Int
  vl : Int
  fa : Int
def Conf.val (c : Conf) : Value := .agg #[.int .i64 c.ta, .int .i64 c.ac, .int .i64 c.ke, .int .i64 c.de, .int .i64 c.ts, .int .i64 c.kl, .int .i64 c.vl, .int .i64 c.fa]
def Conf.num (c : Conf) (k : Nat) : Int := match k with | 0 => c.ta | 1 => c.ac | 2 => c.ke | 3 => c.de | 4 => c.ts | 5 => c.kl | 6 => c.vl | _ => c.fa
def lo (k : Nat) : Int := match k with | 0 => 1 | 1 => 1 | 2 => 1 | 3 => 2 | 4 => 1 | 5 => 1 | 6 => 0 | _ => 3
def hi (k : Nat) : Int := match k with | 0 => 6 | 1 => 8 | 2 => 64 | 3 => 8 | 4 => 1048576 | 5 => 64 | 6 => 256 | _ => 8
/-- may a config be? -/
def mayB (c : Conf) : Bool := (List.range 8).all fun j => decide (lo j ≤ c.num j ∧ c.num j ≤ hi j)
theorem mayB_yes {c : Conf} (h : ∀ j, j < 8 → lo j ≤ c.num j ∧ c.num j ≤ hi j) : mayB c = true := by
  unfold mayB; rw [List.all_eq_true]; intro j hj; exact decide_eq_true (h j (by simpa using hj))
theorem mayB_no {c : Conf} {k : Nat} (hk : k < 8) (h : c.num k < lo k ∨ hi k < c.num k) : mayB c = false := by
  unfold mayB; rw [List.all_eq_false]; exact ⟨k, by simpa using hk, by simp only [decide_eq_true_eq]; omega⟩
/-- as long as it may be? -/
def lenB (b : Bool) (s : ByteArray) (l m : Int) : Bool := b && decide (l ≤ s.size ∧ s.size ≤ m)
/-- the order of two texts -/
def co (a b : ByteArray) : Int := Lib.compareBytes (bl a) (bl b)
/-- is a key within two bounds? -/
def wi (k f e : ByteArray) : Bool := decide (0 ≤ co k f) && (decide (bl e = []) || decide (co k e < 0))
end Go.Proofs.Ytoinjnocopejjaa

/- The model's state, and what its calls make of it. -/
namespace Go.Proofs.Ytoinjnocopejjaa
set_option linter.unusedVariables false
set_option linter.unusedSimpArgs false
/-- a call's seven cells: Kind, Tx, Key, End, Value, Limit, Engine -/
abbrev Cl := Nat × Int × ByteArray × ByteArray × ByteArray × Int × Nat
abbrev Pr := ByteArray × ByteArray
/-- an answer: error, found, value, pairs -/
abbrev As := Int × Bool × ByteArray × List Pr
/-- what a key has: versions, its intent (its writer 0: there is none) -/
abbrev Rw := List Ver × Ver
def rw0 : Rw := ([], ver0)
def emp : ByteArray := ⟨#[]⟩
def as0 : As := (0, false, emp, [])
def asE_ (e : Int) : As := (e, false, emp, [])
structure MS where
  cf : Conf
  clock : Int
  floor : Int
  txns : List (Int × Int)
  tasks : List (List Int)
  rows : List (ByteArray × Rw)
def retR (r : Rw) : Nat := if 0 < r.2.w then r.1.length + 1 else r.1.length
def newM (c : Conf) : MS := ⟨c, 0, 0, [], List.replicate c.ta.toNat [], []⟩
def namedK (k : Nat) : Bool := decide (2 ≤ k) && decide (k ≤ 7)
def fitsM (c : Conf) (x : Cl) : Bool :=
  if x.1 = 2 ∨ x.1 = 4 then lenB (mayB c) x.2.2.1 1 c.kl
  else if x.1 = 3 then lenB (mayB c) x.2.2.1 1 c.kl && lenB (mayB c) x.2.2.2.2.1 0 c.vl
  else if x.1 = 5 then lenB (mayB c) x.2.2.1 0 c.kl && (lenB (mayB c) x.2.2.2.1 0 c.kl && (decide (0 ≤ x.2.2.2.2.2.1) && decide (x.2.2.2.2.2.1 ≤ 128)))
  else true
/-- of a task's transaction its number of all; 0: there is none -/
def txW (s : MS) (t n : Int) : Int := if t < 0 ∨ (s.tasks.length : Int) ≤ t ∨ n < 1 ∨ ((s.tasks.getD t.toNat []).length : Int) < n then 0 else (s.tasks.getD t.toNat []).getD (n - 1).toNat 0
def stW (s : MS) (w : Int) : Int := if w = 0 then 0 else (s.txns.getD (w - 1).toNat (0, 0)).1
def snW (s : MS) (w : Int) : Int := if w = 0 then 0 else (s.txns.getD (w - 1).toNat (0, 0)).2
def refM (s : MS) (t : Int) (x : Cl) : Int :=
  if t < 0 ∨ (s.tasks.length : Int) ≤ t ∨ x.1 < 1 ∨ 9 < x.1 then 1
  else if x.1 = 9 ∧ x.2.2.2.2.2.2 ≠ 1 ∧ x.2.2.2.2.2.2 ≠ 2 then 1
  else if namedK x.1 = true ∧ txW s t x.2.1 = 0 then 30
  else if namedK x.1 = true ∧ stW s (txW s t x.2.1) ≠ 1 then 31
  else if fitsM s.cf x = true then 0 else 32
def actN (l : List (Int × Int)) : Nat := (l.filter fun p => decide (p.1 = 1)).length
def getR (s : MS) (k : ByteArray) : Rw := getK rw0 s.rows k
def readV (s : MS) (w : Int) (r : Rw) : Ver := if r.2.w = w then r.2 else seen r.1 (snW s w)
def readB (s : MS) (w : Int) (r : Rw) : Bool := if r.2.w = w then !r.2.tomb else seenB r.1 (snW s w)
def clashM (s : MS) (w : Int) (r : Rw) : Bool := (decide (0 < r.2.w) && decide (r.2.w ≠ w)) || clashB r.1 (snW s w)
def fullM (s : MS) (k : ByteArray) : Bool := decide ((getR s k).2.w = 0) && ((!hasK s.rows k && decide (s.cf.ke ≤ s.rows.length)) || decide (s.cf.de ≤ (getR s k).1.length))
def setR (rows : List (ByteArray × Rw)) (k : ByteArray) (r : Rw) : List (ByteArray × Rw) := if retR r = 0 then delK rows k else putK rows k r
/-- of all keys what f makes of what they have; a key without anything is none -/
def mapR (f : Rw → Rw) (rows : List (ByteArray × Rw)) : List (ByteArray × Rw) := (mp f rows).filter fun p => decide (retR p.2 ≠ 0)
def putM (s : MS) (k : ByteArray) (v : Ver) : MS := { s with rows := putK s.rows k ((getR s k).1, v) }
def beginM (s : MS) (t : Int) : MS := { s with txns := s.txns ++ [(1, s.clock)], tasks := s.tasks.set t.toNat (s.tasks.getD t.toNat [] ++ [((s.txns.length + 1 : Nat) : Int)]) }
def scanP (s : MS) (w : Int) (lo hi : ByteArray) (lim : Int) : List (ByteArray × Rw) → List Pr → List Pr
  | [], a => a
  | p :: r, a => if (a.length : Int) = lim then a else if wi p.1 lo hi = true ∧ readB s w p.2 = true then scanP s w lo hi lim r (a ++ [(p.1, (readV s w p.2).val)]) else scanP s w lo hi lim r a
def anyI (s : MS) (w : Int) : Bool := s.rows.any fun p => decide (p.2.2.w = w)
def dropR (w : Int) (r : Rw) : Rw := if r.2.w = w then (r.1, ver0) else r
def commR (w t : Int) (r : Rw) : Rw := if r.2.w = w then ({ r.2 with ts := t } :: r.1, ver0) else r
def endM (s : MS) (w st : Int) (f : Rw → Rw) : MS := { s with txns := s.txns.set (w - 1).toNat (st, snW s w), rows := mapR f s.rows }
def floorM (s : MS) : Int := s.txns.foldl (fun m p => if p.1 = 1 then min m p.2 else m) s.clock
def keptR (f : Int) (r : Rw) : Rw := (kept r.1 f, r.2)
def vacM (s : MS) : MS := { s with floor := floorM s, rows := mapR (keptR (floorM s)) s.rows }
/-- a call that is not refused: of a transaction the writer w -/
def actM (s : MS) (t : Int) (w : Int) (x : Cl) : MS × As :=
  match x.1 with
  | 1 => if s.cf.ac ≤ actN s.txns then (s, asE_ 34) else (beginM s t, as0)
  | 2 => (s, if readB s w (getR s x.2.2.1) = true then (0, true, (readV s w (getR s x.2.2.1)).val, []) else as0)
  | 3 => if clashM s w (getR s x.2.2.1) = true then (s, asE_ 33) else if fullM s x.2.2.1 = true then (s, asE_ 34) else (putM s x.2.2.1 ⟨w, 0, false, x.2.2.2.2.1⟩, as0)
  | 4 => if clashM s w (getR s x.2.2.1) = true then (s, asE_ 33) else if readB s w (getR s x.2.2.1) = false then (s, as0) else if fullM s x.2.2.1 = true then (s, asE_ 34) else (putM s x.2.2.1 ⟨w, 0, true, emp⟩, (0, true, emp, []))
  | 5 => (s, (0, false, emp, scanP s w x.2.2.1 x.2.2.2.1 x.2.2.2.2.2.1 s.rows []))
  | 6 => if anyI s w = true ∧ s.cf.ts ≤ s.clock then (endM s w 4 (dropR w), asE_ 35)
         else if anyI s w = true then (endM { s with clock := s.clock + 1 } w 3 (commR w (s.clock + 1)), as0)
         else (endM s w 3 (commR w s.clock), as0)
  | 7 => (endM s w 4 (dropR w), as0)
  | 8 => (vacM s, as0)
  | _ => (s, as0)
def doM (s : MS) (t : Int) (x : Cl) : MS × As := if refM s t x ≠ 0 then (s, asE_ (refM s t x)) else actM s t (txW s t x.2.1) x
end Go.Proofs.Ytoinjnocopejjaa

/- What holds of the model's state, whatever is done. -/
namespace Go.Proofs.Ytoinjnocopejjaa
set_option linter.unusedVariables false
set_option linter.unusedSimpArgs false
theorem mem_setR {rows : List (ByteArray × Rw)} {k : ByteArray} {r : Rw} {p : ByteArray × Rw} : p ∈ setR rows k r ↔ (p = (k, r) ∧ retR r ≠ 0) ∨ (p ∈ rows ∧ p.1 ≠ k) := by
  unfold setR
  split
  · rename_i h; rw [mem_del]; simp [h]
  · rename_i h; rw [mem_put]; simp [h]
theorem up_setR {rows : List (ByteArray × Rw)} (h : Up rows) (k : ByteArray) (r : Rw) : Up (setR rows k r) := by
  unfold setR; split
  · exact h.del k
  · exact h.put k r
theorem mem_mapR {f : Rw → Rw} {rows : List (ByteArray × Rw)} {p : ByteArray × Rw} : p ∈ mapR f rows ↔ ∃ r, (p.1, r) ∈ rows ∧ p.2 = f r ∧ retR p.2 ≠ 0 := by
  unfold mapR mp
  rw [List.mem_filter, List.mem_map]
  constructor
  · rintro ⟨⟨q, hq, rfl⟩, h⟩
    exact ⟨q.2, hq, rfl, of_decide_eq_true h⟩
  · rintro ⟨r, hr, h1, h2⟩
    exact ⟨⟨(p.1, r), hr, by rw [← h1]⟩, decide_eq_true h2⟩
theorem up_mapR {f : Rw → Rw} {rows : List (ByteArray × Rw)} (h : Up rows) : Up (mapR f rows) := List.Pairwise.filter _ ((mp_up f).2 h)
theorem len_mapR (f : Rw → Rw) (rows : List (ByteArray × Rw)) : (mapR f rows).length ≤ rows.length := by
  unfold mapR
  refine Nat.le_trans (List.length_filter_le _ _) ?_
  rw [mp_len]; exact Nat.le_refl _
/-- keys one behind the other, what f makes of what each has -/
def foldS (f : Rw → Rw) (rows : List (ByteArray × Rw)) (ks : List ByteArray) : List (ByteArray × Rw) := ks.foldl (fun l k => setR l k (f (getK rw0 l k))) rows
theorem foldS_snoc (f : Rw → Rw) (rows : List (ByteArray × Rw)) (ks : List ByteArray) (k : ByteArray) : foldS f rows (ks ++ [k]) = setR (foldS f rows ks) k (f (getK rw0 (foldS f rows ks) k)) := by
  unfold foldS; rw [List.foldl_append]; rfl
theorem foldS_up {f : Rw → Rw} : ∀ {ks : List ByteArray} {rows : List (ByteArray × Rw)}, Up rows → Up (foldS f rows ks)
  | [], _, h => h
  | k :: ks, rows, h => by
    show Up (foldS f (setR rows k _) ks)
    exact foldS_up (up_setR h _ _)
theorem mem_foldS {f : Rw → Rw} : ∀ {ks : List ByteArray} {rows : List (ByteArray × Rw)}, Up rows → ks.Nodup → (∀ k ∈ ks, hasK rows k = true) → ∀ p, p ∈ foldS f rows ks ↔ (p.1 ∉ ks ∧ p ∈ rows) ∨ (p.1 ∈ ks ∧ ∃ r, (p.1, r) ∈ rows ∧ p.2 = f r ∧ retR p.2 ≠ 0)
  | [], rows, _, _, _, p => by simp [foldS]
  | k :: ks, rows, hu, hn, hh, p => by
    obtain ⟨hk, hn⟩ := List.nodup_cons.1 hn
    have e : foldS f rows (k :: ks) = foldS f (setR rows k (f (getK rw0 rows k))) ks := rfl
    have hm := get_mem (d := rw0) (hh k (List.mem_cons_self ..))
    have h2 : ∀ k' ∈ ks, hasK (setR rows k (f (getK rw0 rows k))) k' = true := fun k' hk' => by
      obtain ⟨r, hr⟩ := has_iff.1 (hh k' (List.mem_cons_of_mem _ hk'))
      exact has_iff.2 ⟨r, mem_setR.2 (.inr ⟨hr, fun e => hk (e ▸ hk')⟩)⟩
    rw [e, mem_foldS (up_setR hu _ _) hn h2, mem_setR, List.mem_cons]
    constructor
    · rintro (⟨h, (⟨rfl, h4⟩ | ⟨h3, h4⟩)⟩ | ⟨h, r, hr, h5, h6⟩)
      · exact .inr ⟨.inl rfl, _, hm, rfl, h4⟩
      · exact .inl ⟨fun e => e.elim h4 h, h3⟩
      · rcases mem_setR.1 hr with ⟨e, _⟩ | ⟨h3, h4⟩
        · rw [(Prod.ext_iff.1 e).1] at h; exact absurd h hk
        · exact .inr ⟨.inr h, r, h3, h5, h6⟩
    · rintro (⟨h, h3⟩ | ⟨h, r, hr, h5, h6⟩)
      · exact .inl ⟨fun e => h (.inr e), .inr ⟨h3, fun e => h (.inl e)⟩⟩
      · rcases h with h | h
        · refine .inl ⟨fun e => hk (h ▸ e), .inl ⟨?_, ?_⟩⟩
          · have e2 : getK rw0 rows k = r := by rw [← h]; exact get_of_mem hu hr
            rw [e2, ← h5, ← h]
          · have e2 : getK rw0 rows k = r := by rw [← h]; exact get_of_mem hu hr
            rw [e2, ← h5]; exact h6
        · exact .inr ⟨h, r, mem_setR.2 (.inr ⟨hr, fun e => hk ((show p.1 = k from e) ▸ h)⟩), h5, h6⟩
theorem up_nodup {α : Type} {l : List (ByteArray × α)} (h : Up l) : (l.map (·.1)).Nodup := by
  unfold List.Nodup; rw [List.pairwise_map]
  exact h.imp (fun h => kB_ne h)
theorem foldS_all {f : Rw → Rw} {rows : List (ByteArray × Rw)} (hu : Up rows) : foldS f rows (rows.map (·.1)) = mapR f rows := by
  refine ext_up (foldS_up hu) (up_mapR hu) (fun p => ?_)
  rw [mem_foldS hu (up_nodup hu) (fun k hk => by
    obtain ⟨q, hq, rfl⟩ := List.mem_map.1 hk
    exact has_iff.2 ⟨q.2, hq⟩), mem_mapR]
  constructor
  · rintro (⟨h, h3⟩ | ⟨_, h⟩)
    · exact absurd (List.mem_map.2 ⟨p, h3, rfl⟩) h
    · exact h
  · rintro ⟨r, hr, h⟩
    exact .inr ⟨List.mem_map.2 ⟨(p.1, r), hr, rfl⟩, r, hr, h⟩
/-- the keys on which a writer has an intent -/
def intK (w : Int) (rows : List (ByteArray × Rw)) : List ByteArray := (rows.filter fun p => decide (p.2.2.w = w)).map (·.1)
theorem mem_intK {w : Int} {rows : List (ByteArray × Rw)} {k : ByteArray} : k ∈ intK w rows ↔ ∃ r, (k, r) ∈ rows ∧ r.2.w = w := by
  unfold intK
  rw [List.mem_map]
  constructor
  · rintro ⟨p, hp, rfl⟩
    exact ⟨p.2, (List.mem_filter.1 hp).1, of_decide_eq_true (List.mem_filter.1 hp).2⟩
  · rintro ⟨r, hr, h⟩
    exact ⟨(k, r), List.mem_filter.2 ⟨hr, decide_eq_true h⟩, rfl⟩
theorem foldS_int {f : Rw → Rw} {rows : List (ByteArray × Rw)} (hu : Up rows) (hr : ∀ p ∈ rows, retR p.2 ≠ 0) (w : Int) : foldS f rows (intK w rows) = mapR (fun r => if r.2.w = w then f r else r) rows := by
  refine ext_up (foldS_up hu) (up_mapR hu) (fun p => ?_)
  have hn : (intK w rows).Nodup := by
    unfold intK; exact up_nodup (List.Pairwise.filter _ hu)
  rw [mem_foldS hu hn (fun k hk => by
    obtain ⟨r, h1, _⟩ := mem_intK.1 hk
    exact has_iff.2 ⟨r, h1⟩), mem_mapR]
  constructor
  · rintro (⟨h, h3⟩ | ⟨h, r, h3, h4, h5⟩)
    · refine ⟨p.2, h3, ?_, hr p h3⟩
      rw [if_neg (fun e => h (mem_intK.2 ⟨p.2, h3, e⟩))]
    · obtain ⟨r', h6, h7⟩ := mem_intK.1 h
      have e : r = r' := (get_of_mem (d := rw0) hu h3).symm.trans (get_of_mem (d := rw0) hu h6)
      exact ⟨r, h3, by rw [if_pos (e ▸ h7)]; exact h4, h5⟩
  · rintro ⟨r, h3, h4, h5⟩
    by_cases e : r.2.w = w
    · rw [if_pos e] at h4
      exact .inr ⟨mem_intK.2 ⟨r, h3, e⟩, r, h3, h4, h5⟩
    · rw [if_neg e] at h4
      refine .inl ⟨fun h => ?_, ?_⟩
      · obtain ⟨r', h6, h7⟩ := mem_intK.1 h
        have e2 : r = r' := (get_of_mem (d := rw0) hu h3).symm.trans (get_of_mem (d := rw0) hu h6)
        exact e (e2 ▸ h7)
      · rw [← h4] at h3; exact h3
/-- versions, the newest one first, each with a timestamp -/
structure Dec (c : Int) (l : List Ver) : Prop where
  dn : l.Pairwise fun a b => b.ts < a.ts
  ts : ∀ v ∈ l, 1 ≤ v.ts ∧ v.ts ≤ c
theorem Dec.nil (c : Int) : Dec c [] := ⟨List.Pairwise.nil, fun _ h => by cases h⟩
theorem Dec.mono {c c' : Int} {l : List Ver} (h : Dec c l) (hc : c ≤ c') : Dec c' l := ⟨h.dn, fun v hv => ⟨(h.ts v hv).1, Int.le_trans (h.ts v hv).2 hc⟩⟩
theorem Dec.kept {c : Int} {l : List Ver} (h : Dec c l) (f : Int) : Dec c (kept l f) := ⟨h.dn.sublist (List.take_sublist _ _), fun v hv => h.ts v (List.mem_of_mem_take hv)⟩
theorem Dec.cons {c : Int} {l : List Ver} (h : Dec c l) {v : Ver} (hc : 0 ≤ c) (hv : v.ts = c + 1) : Dec (c + 1) (v :: l) :=
  ⟨List.pairwise_cons.2 ⟨fun u hu => by have := (h.ts u hu).2; omega, h.dn⟩, fun u hu => by
    rcases List.mem_cons.1 hu with rfl | hu
    · omega
    · have := h.ts u hu; omega⟩
structure OkM (s : MS) : Prop where
  may : mayB s.cf = true
  up : Up s.rows
  ret : ∀ p ∈ s.rows, retR p.2 ≠ 0
  keys : (s.rows.length : Int) ≤ s.cf.ke
  deep : ∀ p ∈ s.rows, (retR p.2 : Int) ≤ s.cf.de
  ntask : (s.tasks.length : Int) = s.cf.ta
  nums : ∀ l ∈ s.tasks, l.length ≤ s.txns.length ∧ ∀ n ∈ l, 1 ≤ n ∧ n ≤ s.txns.length
  iw : ∀ p ∈ s.rows, 0 ≤ p.2.2.w ∧ p.2.2.w ≤ s.txns.length ∧ (p.2.2.w = 0 → p.2.2 = ver0) ∧ p.2.2.ts = 0
  act : (actN s.txns : Int) ≤ s.cf.ac
  clk : 0 ≤ s.clock ∧ s.clock ≤ s.cf.ts
  flo : 0 ≤ s.floor ∧ s.floor ≤ s.clock
  sn : ∀ t ∈ s.txns, 0 ≤ t.2 ∧ t.2 ≤ s.clock ∧ 0 ≤ t.1 ∧ t.1 ≤ 4
  dec : ∀ p ∈ s.rows, Dec s.clock p.2.1
  ksz : ∀ p ∈ s.rows, p.1.size ≤ 64
theorem may_lo {c : Conf} (h : mayB c = true) : 1 ≤ c.ta ∧ c.ta ≤ 6 ∧ 1 ≤ c.ac ∧ c.ac ≤ 8 ∧ 1 ≤ c.ke ∧ c.ke ≤ 64 ∧ 2 ≤ c.de ∧ c.de ≤ 8 ∧ 1 ≤ c.ts ∧ c.ts ≤ 1048576 ∧ 1 ≤ c.kl ∧ c.kl ≤ 64 ∧ 0 ≤ c.vl ∧ c.vl ≤ 256 ∧ 3 ≤ c.fa ∧ c.fa ≤ 8 := by
  unfold mayB at h
  rw [List.all_eq_true] at h
  have H := fun j (hj : j < 8) => of_decide_eq_true (h j (by simpa using hj))
  have h0 := H 0 (by decide); have h1 := H 1 (by decide); have h2 := H 2 (by decide); have h3 := H 3 (by decide)
  have h4 := H 4 (by decide); have h5 := H 5 (by decide); have h6 := H 6 (by decide); have h7 := H 7 (by decide)
  simp only [lo, hi, Conf.num] at h0 h1 h2 h3 h4 h5 h6 h7
  omega
theorem OkM.new {c : Conf} (h : mayB c = true) : OkM (newM c) := by
  have hc := may_lo h
  refine ⟨h, Up.nil, (fun _ h => by cases h), ?_, (fun _ h => by cases h), ?_, ?_, (fun _ h => by cases h), ?_, ?_, ?_, (fun _ h => by cases h), (fun _ h => by cases h), (fun _ h => by cases h)⟩
  · show ((0 : Nat) : Int) ≤ c.ke; omega
  · show ((List.replicate c.ta.toNat ([] : List Int)).length : Int) = c.ta
    rw [List.length_replicate]; omega
  · intro l hl
    have := List.eq_of_mem_replicate hl
    subst this
    exact ⟨Nat.zero_le _, fun _ h => by cases h⟩
  · show ((0 : Nat) : Int) ≤ c.ac; omega
  · show (0 : Int) ≤ 0 ∧ (0 : Int) ≤ c.ts; omega
  · exact ⟨Int.le_refl _, Int.le_refl _⟩
section
variable {s : MS} (h : OkM s)
include h
theorem OkM.get (k : ByteArray) : ((retR (getR s k) : Int) ≤ s.cf.de) ∧ (0 ≤ (getR s k).2.w ∧ (getR s k).2.w ≤ s.txns.length ∧ ((getR s k).2.w = 0 → (getR s k).2 = ver0) ∧ (getR s k).2.ts = 0) ∧ Dec s.clock (getR s k).1 := by
  unfold getR
  cases e : hasK s.rows k with
  | true => have hm := get_mem (d := rw0) e; exact ⟨h.deep _ hm, h.iw _ hm, h.dec _ hm⟩
  | false =>
    rw [get_none e]
    have := may_lo h.may
    refine ⟨?_, ⟨Int.le_refl _, by show (0 : Int) ≤ _; omega, fun _ => rfl, rfl⟩, Dec.nil _⟩
    show ((0 : Nat) : Int) ≤ _; omega
theorem OkM.tx (t n : Int) : txW s t n = 0 ∨ (0 ≤ t ∧ t < s.tasks.length ∧ 1 ≤ n ∧ n ≤ (s.tasks.getD t.toNat []).length ∧ txW s t n = (s.tasks.getD t.toNat []).getD (n - 1).toNat 0 ∧ 1 ≤ txW s t n ∧ txW s t n ≤ s.txns.length) := by
  unfold txW
  split
  · exact .inl rfl
  · rename_i hn
    refine .inr ⟨by omega, by omega, by omega, by omega, rfl, ?_⟩
    have ht : t.toNat < s.tasks.length := by omega
    have hl : s.tasks.getD t.toNat [] = s.tasks[t.toNat] := by rw [List.getD_eq_getElem?_getD, List.getElem?_eq_getElem ht]; rfl
    have hj : (n - 1).toNat < (s.tasks.getD t.toNat []).length := by omega
    have hv : (s.tasks.getD t.toNat []).getD (n - 1).toNat 0 = (s.tasks.getD t.toNat [])[(n - 1).toNat] := by rw [List.getD_eq_getElem?_getD, List.getElem?_eq_getElem hj]; rfl
    rw [hv]
    exact (h.nums _ (by rw [hl]; exact List.getElem_mem ht)).2 _ (List.getElem_mem hj)
end
end Go.Proofs.Ytoinjnocopejjaa

/- Whatever is done, the state stays one. -/
namespace Go.Proofs.Ytoinjnocopejjaa
set_option linter.unusedVariables false
set_option linter.unusedSimpArgs false
theorem actN_set {l : List (Int × Int)} {i : Nat} {p : Int × Int} (hp : p.1 ≠ 1) : actN (l.set i p) ≤ actN l := by
  unfold actN
  induction l generalizing i with
  | nil => simp
  | cons q l ih =>
    cases i with
    | zero =>
      rw [List.set_cons_zero, List.filter_cons, List.filter_cons, if_neg (by simpa using hp)]
      split
      · simp
      · exact Nat.le_refl _
    | succ i =>
      have := @ih i
      rw [List.set_cons_succ, List.filter_cons, List.filter_cons]
      split
      · simp only [List.length_cons]; omega
      · exact this
theorem OkM.snap {s : MS} (h : OkM s) (w : Int) : 0 ≤ snW s w ∧ snW s w ≤ s.clock := by
  unfold snW
  split
  · exact ⟨Int.le_refl _, h.clk.1⟩
  · rw [List.getD_eq_getElem?_getD]
    cases e : s.txns[(w - 1).toNat]? with
    | none => exact ⟨Int.le_refl _, h.clk.1⟩
    | some p => have := h.sn p (List.mem_of_getElem? e); exact ⟨this.1, this.2.1⟩
/-- what stays when rows become others -/
theorem OkM.rows {s : MS} (h : OkM s) {c : Int} {f : Int} {tx : List (Int × Int)} {f' : Rw → Rw} (hc : s.clock ≤ c ∧ c ≤ s.cf.ts) (hf : 0 ≤ f ∧ f ≤ c) (hx : tx.length = s.txns.length) (ha : actN tx ≤ actN s.txns)
    (hs : ∀ t ∈ tx, 0 ≤ t.2 ∧ t.2 ≤ c ∧ 0 ≤ t.1 ∧ t.1 ≤ 4)
    (hr : ∀ p ∈ s.rows, (retR (f' p.2) : Int) ≤ s.cf.de ∧ (0 ≤ (f' p.2).2.w ∧ (f' p.2).2.w ≤ s.txns.length ∧ ((f' p.2).2.w = 0 → (f' p.2).2 = ver0) ∧ (f' p.2).2.ts = 0) ∧ Dec c (f' p.2).1) :
    OkM ⟨s.cf, c, f, tx, s.tasks, mapR f' s.rows⟩ := by
  have H : ∀ p ∈ mapR f' s.rows, ∃ q ∈ s.rows, p.2 = f' q.2 ∧ retR p.2 ≠ 0 := fun p hp => by
    obtain ⟨r, h1, h2, h3⟩ := mem_mapR.1 hp
    exact ⟨_, h1, h2, h3⟩
  have HK : ∀ p ∈ mapR f' s.rows, p.1.size ≤ 64 := fun p hp => by
    obtain ⟨r, h1, _⟩ := mem_mapR.1 hp
    exact h.ksz (p.1, r) h1
  refine ⟨h.may, up_mapR h.up, fun p hp => ?_, ?_, fun p hp => ?_, h.ntask, ?_, fun p hp => ?_, ?_, ?_, hf, hs, fun p hp => ?_, HK⟩
  · obtain ⟨q, _, _, h3⟩ := H p hp; exact h3
  · have := len_mapR f' s.rows
    have := h.keys
    show ((mapR f' s.rows).length : Int) ≤ s.cf.ke
    omega
  · obtain ⟨q, h1, h2, _⟩ := H p hp; rw [h2]; exact (hr q h1).1
  · intro l hl; show _ ≤ tx.length ∧ ∀ n ∈ l, _ ∧ n ≤ (tx.length : Int); rw [hx]; exact h.nums l hl
  · obtain ⟨q, h1, h2, _⟩ := H p hp; rw [h2]; show _ ∧ _ ≤ (tx.length : Int) ∧ _; rw [hx]; exact (hr q h1).2.1
  · have := h.act; show (actN tx : Int) ≤ s.cf.ac; omega
  · have := h.clk; show 0 ≤ c ∧ c ≤ s.cf.ts; omega
  · obtain ⟨q, h1, h2, _⟩ := H p hp; rw [h2]; exact (hr q h1).2.2
theorem OkM.endTx {s : MS} (h : OkM s) {c : Int} (hc : s.clock ≤ c) {i : Nat} {w st : Int} (hst : 0 ≤ st ∧ st ≤ 4) : ∀ t ∈ s.txns.set i (st, snW s w), 0 ≤ t.2 ∧ t.2 ≤ c ∧ 0 ≤ t.1 ∧ t.1 ≤ 4 := fun t ht => by
  rcases List.mem_or_eq_of_mem_set ht with h1 | rfl
  · have := h.sn t h1; omega
  · have := h.snap w; simp only; omega
theorem OkM.drop {s : MS} (h : OkM s) {w st : Int} (hst : st = 3 ∨ st = 4) : OkM (endM s w st (dropR w)) := by
  refine h.rows ⟨Int.le_refl _, h.clk.2⟩ h.flo (List.length_set ..) (actN_set (by simp only; omega)) (h.endTx (Int.le_refl _) (by omega)) (fun p hp => ?_)
  have hd := h.deep p hp
  have hi := h.iw p hp
  unfold dropR
  split
  · refine ⟨?_, ⟨Int.le_refl _, by show (0 : Int) ≤ _; omega, fun _ => rfl, rfl⟩, h.dec p hp⟩
    have : retR (p.2.1, ver0) ≤ retR p.2 := by
      unfold retR
      rw [if_neg (by show ¬ (0 : Int) < 0; omega)]
      simp only
      split <;> omega
    omega
  · exact ⟨hd, hi, h.dec p hp⟩
theorem commR_same {s : MS} {w t : Int} (ha : anyI s w = false) : ∀ p ∈ s.rows, commR w t p.2 = p.2 := fun p hp => by
  unfold anyI at ha
  rw [List.any_eq_false] at ha
  unfold commR
  rw [if_neg (fun e => ha p hp (decide_eq_true e))]
theorem OkM.comm0 {s : MS} (h : OkM s) {w t : Int} (ha : anyI s w = false) : OkM (endM s w 3 (commR w t)) := by
  refine h.rows ⟨Int.le_refl _, h.clk.2⟩ h.flo (List.length_set ..) (actN_set (by simp only; omega)) (h.endTx (Int.le_refl _) (by omega)) (fun p hp => ?_)
  rw [commR_same ha p hp]
  exact ⟨h.deep p hp, h.iw p hp, h.dec p hp⟩
theorem OkM.comm {s : MS} (h : OkM s) {w : Int} (hw : 1 ≤ w) (hc : s.clock < s.cf.ts) : OkM (endM { s with clock := s.clock + 1 } w 3 (commR w (s.clock + 1))) := by
  refine h.rows (c := s.clock + 1) ⟨by omega, by omega⟩ (f := s.floor) (by have := h.flo; omega) (List.length_set ..) (actN_set (by simp only; omega)) (h.endTx (w := w) (by omega) (by omega)) (fun p hp => ?_)
  have hd := h.deep p hp
  have hi := h.iw p hp
  unfold commR
  split
  · rename_i e
    refine ⟨?_, ⟨Int.le_refl _, by show (0 : Int) ≤ _; omega, fun _ => rfl, rfl⟩, (h.dec p hp).cons h.clk.1 rfl⟩
    have : retR (({ p.2.2 with ts := s.clock + 1 } :: p.2.1, ver0) : Rw) ≤ retR p.2 := by
      unfold retR
      rw [if_neg (by show ¬ (0 : Int) < 0; omega), if_pos (by omega)]
      exact Nat.le_refl _
    omega
  · exact ⟨hd, hi, (h.dec p hp).mono (by omega)⟩
theorem floor_le : ∀ (l : List (Int × Int)) (m : Int), (l.foldl (fun m p => if p.1 = 1 then min m p.2 else m) m) ≤ m
  | [], m => Int.le_refl _
  | p :: l, m => by
    refine Int.le_trans (floor_le l _) ?_
    show (if p.1 = 1 then min m p.2 else m) ≤ m
    split <;> omega
theorem floor_nn : ∀ (l : List (Int × Int)) (m : Int), 0 ≤ m → (∀ p ∈ l, 0 ≤ p.2) → 0 ≤ (l.foldl (fun m p => if p.1 = 1 then min m p.2 else m) m)
  | [], m, hm, _ => hm
  | p :: l, m, hm, h => by
    refine floor_nn l _ ?_ (fun q hq => h q (List.mem_cons_of_mem _ hq))
    have := h p (List.mem_cons_self ..)
    show 0 ≤ (if p.1 = 1 then min m p.2 else m)
    split <;> omega
theorem OkM.vac {s : MS} (h : OkM s) : OkM (vacM s) := by
  refine h.rows ⟨Int.le_refl _, h.clk.2⟩ ⟨floor_nn _ _ h.clk.1 (fun p hp => (h.sn p hp).1), floor_le _ _⟩ rfl (Nat.le_refl _) (fun t ht => h.sn t ht) (fun p hp => ?_)
  have hd := h.deep p hp
  refine ⟨?_, h.iw p hp, (h.dec p hp).kept _⟩
  have : retR (keptR (floorM s) p.2) ≤ retR p.2 := by
    have h2 : (kept p.2.1 (floorM s)).length ≤ p.2.1.length := by unfold kept; rw [List.length_take]; omega
    unfold retR keptR
    simp only
    split <;> omega
  omega
theorem OkM.begin {s : MS} (h : OkM s) {t : Int} (ht : 0 ≤ t ∧ t < s.tasks.length) (ha : (actN s.txns : Int) < s.cf.ac) : OkM (beginM s t) := by
  have hl : (s.txns ++ [((1 : Int), s.clock)]).length = s.txns.length + 1 := by simp
  refine ⟨h.may, h.up, h.ret, h.keys, h.deep, ?_, ?_, fun p hp => ?_, ?_, h.clk, h.flo, ?_, h.dec, h.ksz⟩
  · show ((s.tasks.set _ _).length : Int) = _
    rw [List.length_set]; exact h.ntask
  · intro l hm
    show _ ≤ (s.txns ++ [((1 : Int), s.clock)]).length ∧ ∀ n ∈ l, _ ∧ n ≤ ((s.txns ++ [((1 : Int), s.clock)]).length : Int)
    rw [hl]
    rcases List.mem_or_eq_of_mem_set hm with h1 | rfl
    · have := h.nums l h1
      exact ⟨by omega, fun n hn => by have := this.2 n hn; omega⟩
    · have hk : t.toNat < s.tasks.length := by omega
      have e : s.tasks.getD t.toNat [] = s.tasks[t.toNat] := by rw [List.getD_eq_getElem?_getD, List.getElem?_eq_getElem hk]; rfl
      rw [e]
      have := h.nums _ (List.getElem_mem hk)
      refine ⟨by rw [List.length_append, List.length_singleton]; omega, fun n hn => ?_⟩
      rcases List.mem_append.1 hn with h1 | h1
      · have := this.2 n h1; omega
      · rw [List.mem_singleton] at h1; omega
  · have := h.iw p hp
    refine ⟨this.1, ?_, this.2.2⟩
    show _ ≤ ((s.txns ++ [((1 : Int), s.clock)]).length : Int)
    rw [hl]; omega
  · show (actN (s.txns ++ [((1 : Int), s.clock)]) : Int) ≤ s.cf.ac
    unfold actN at ha ⊢
    rw [List.filter_append, List.length_append]
    simp only [List.filter_cons, List.filter_nil, decide_true, if_true, List.length_singleton]
    omega
  · intro p hp
    rcases List.mem_append.1 (show p ∈ s.txns ++ [((1 : Int), s.clock)] from hp) with h1 | h1
    · exact h.sn p h1
    · rw [List.mem_singleton] at h1
      have := h.clk
      show _ ∧ p.2 ≤ s.clock ∧ _
      subst h1; simp only; omega
theorem OkM.put {s : MS} (h : OkM s) {k : ByteArray} {v : Ver} (hv : 1 ≤ v.w ∧ v.w ≤ s.txns.length) (ht : v.ts = 0) (hks : k.size ≤ 64) (hf : fullM s k = false) : OkM (putM s k v) := by
  have hg := h.get k
  have hr : retR ((getR s k).1, v) = (getR s k).1.length + 1 := by unfold retR; rw [if_pos (by simp only; omega)]
  have hdeep : ((retR ((getR s k).1, v) : Nat) : Int) ≤ s.cf.de := by
    rw [hr]
    unfold fullM at hf
    by_cases e : (getR s k).2.w = 0
    · rw [decide_eq_true e, Bool.true_and, Bool.or_eq_false_iff] at hf
      have := of_decide_eq_false hf.2
      omega
    · have h1 := hg.1
      unfold retR at h1
      rw [if_pos (by omega)] at h1
      omega
  have hmem : ∀ p ∈ putK s.rows k ((getR s k).1, v), p = (k, ((getR s k).1, v)) ∨ p ∈ s.rows := fun p hp => by
    rcases mem_put.1 hp with e | e
    · exact .inl e
    · exact .inr e.1
  refine ⟨h.may, h.up.put _ _, fun p hp => ?_, ?_, fun p hp => ?_, h.ntask, h.nums, fun p hp => ?_, h.act, h.clk, h.flo, h.sn, fun p hp => ?_, fun p hp => ?_⟩
  · rcases hmem p hp with rfl | e
    · rw [hr]; omega
    · exact h.ret p e
  · show ((putK s.rows k _).length : Int) ≤ s.cf.ke
    rw [len_put h.up]
    have := h.keys
    split
    · exact this
    · rename_i hn
      have hn : hasK s.rows k = false := by simpa using hn
      have e : getR s k = rw0 := get_none hn
      unfold fullM at hf
      rw [e, hn, decide_eq_true (show rw0.2.w = 0 from rfl)] at hf
      simp only [Bool.true_and, Bool.not_false, Bool.or_eq_false_iff] at hf
      have := of_decide_eq_false hf.1
      omega
  · rcases hmem p hp with rfl | e
    · exact hdeep
    · exact h.deep p e
  · rcases hmem p hp with rfl | e
    · exact ⟨by simp only; omega, hv.2, fun e => by simp only at e; omega, ht⟩
    · exact h.iw p e
  · rcases hmem p hp with rfl | e
    · exact hg.2.2
    · exact h.dec p e
  · rcases hmem p hp with rfl | e
    · exact hks
    · exact h.ksz p e
theorem refM_0 {s : MS} {t : Int} {x : Cl} (h : refM s t x = 0) : (0 ≤ t ∧ t < s.tasks.length) ∧ (1 ≤ x.1 ∧ x.1 ≤ 9) ∧ (namedK x.1 = true → txW s t x.2.1 ≠ 0 ∧ stW s (txW s t x.2.1) = 1) ∧ fitsM s.cf x = true ∧ (x.1 = 9 → x.2.2.2.2.2.2 = 1 ∨ x.2.2.2.2.2.2 = 2) := by
  unfold refM at h
  split at h
  · cases h
  split at h
  · cases h
  split at h
  · cases h
  split at h
  · cases h
  split at h
  · rename_i h1 h2 h3 h4 h5
    refine ⟨by omega, by omega, fun hn => ⟨fun e => h3 ⟨hn, e⟩, ?_⟩, h5, fun e => ?_⟩
    · by_cases e : stW s (txW s t x.2.1) = 1
      · exact e
      · exact absurd ⟨hn, e⟩ h4
    · omega
  · cases h
theorem fits_sz {c : Conf} (hm : mayB c = true) {x : Cl} (hx : x.1 = 3 ∨ x.1 = 4 ∨ x.1 = 2) (h : fitsM c x = true) : x.2.2.1.size ≤ 64 := by
  have hc := may_lo hm
  have hl : ∀ (s : ByteArray) (l : Int), lenB (mayB c) s l c.kl = true → s.size ≤ 64 := fun s l e => by
    unfold lenB at e
    rw [hm, Bool.true_and] at e
    have := of_decide_eq_true e
    omega
  unfold fitsM at h
  split at h
  · exact hl _ _ h
  · split at h
    · rw [Bool.and_eq_true] at h
      exact hl _ _ h.1
    · omega
theorem OkM.act_ {s : MS} (h : OkM s) {t : Int} {x : Cl} (h0 : refM s t x = 0) : OkM (actM s t (txW s t x.2.1) x).1 := by
  obtain ⟨ht, hk, hn, hfit, _⟩ := refM_0 h0
  have hw : namedK x.1 = true → 1 ≤ txW s t x.2.1 ∧ txW s t x.2.1 ≤ s.txns.length := fun e => by
    rcases h.tx t x.2.1 with e2 | e2
    · exact absurd e2 (hn e).1
    · exact ⟨e2.2.2.2.2.2.1, e2.2.2.2.2.2.2⟩
  generalize txW s t x.2.1 = w at hw ⊢
  unfold actM
  split
  · split
    · exact h
    · exact h.begin ht (by omega)
  · exact h
  · rename_i e
    split
    · exact h
    split
    · exact h
    · rename_i hf
      exact h.put (hw (by rw [e]; rfl)) rfl (fits_sz h.may (by omega) hfit) (by simpa using hf)
  · rename_i e
    split
    · exact h
    split
    · exact h
    split
    · exact h
    · rename_i hf
      exact h.put (hw (by rw [e]; rfl)) rfl (fits_sz h.may (by omega) hfit) (by simpa using hf)
  · exact h
  · rename_i e
    split
    · exact h.drop (.inr rfl)
    split
    · rename_i h1 h2
      exact h.comm (hw (by rw [e]; rfl)).1 (by
        have := h.clk
        by_cases e : s.cf.ts ≤ s.clock
        · exact absurd ⟨h2, e⟩ h1
        · omega)
    · rename_i h2
      exact h.comm0 (by simpa using h2)
  · exact h.drop (.inr rfl)
  · exact h.vac
  · exact h
theorem OkM.do_ {s : MS} (h : OkM s) (t : Int) (x : Cl) : OkM (doM s t x).1 := by
  unfold doM
  split
  · exact h
  · rename_i e
    exact h.act_ (by omega)
theorem doM_cf (s : MS) (t : Int) (x : Cl) : (doM s t x).1.cf = s.cf := by
  unfold doM; split
  · rfl
  · unfold actM; split
    · split <;> rfl
    · rfl
    · split
      · rfl
      split <;> rfl
    · split
      · rfl
      split
      · rfl
      split <;> rfl
    · rfl
    · split
      · rfl
      split <;> rfl
    · rfl
    · rfl
    · rfl
theorem doM_txns (s : MS) (t : Int) (x : Cl) : (doM s t x).1.txns.length ≤ s.txns.length + 1 := by
  unfold doM; split
  · exact Nat.le_succ _
  · unfold actM; split
    · split
      · exact Nat.le_succ _
      · simp [beginM]
    · exact Nat.le_succ _
    · split
      · exact Nat.le_succ _
      split <;> exact Nat.le_succ _
    · split
      · exact Nat.le_succ _
      split
      · exact Nat.le_succ _
      split <;> exact Nat.le_succ _
    · exact Nat.le_succ _
    · split
      · simp [endM]
      split <;> simp [endM]
    · simp [endM]
    · exact Nat.le_succ _
    · exact Nat.le_succ _
end Go.Proofs.Ytoinjnocopejjaa
