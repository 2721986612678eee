/- Counts, as a map of them reads; the object that has them. -/
import Derived.Test.YtlnfdcaljmfbjaaSl
import Derived.Maps.OwnOps
import Derived.Maps.OwnSet
import Derived.Maps.RangeWalk
import Derived.Maps.Views
namespace Go.Proofs.Ytlnfdcaljmfbjaa
open Go.ChangeShapes Go.WideShapes Go.ChangeAt Go.RowKit Go.Maps
set_option linter.unusedVariables false
set_option linter.unusedSimpArgs false

/-- a timestamp, and how many there are of it -/
abbrev Ct := Int × Int
abbrev DU := DataW Unit
def enc1 (p : Ct) : Lit × DU := (.int .i64 p.1, .lit (.int .i64 p.2))
def dm (C : List Ct) : DU := .map (C.map enc1)
/-- how many there are of one -/
def ofC : List Ct → Int → Int
  | [], _ => 0
  | p :: C, t => if p.1 = t then p.2 else ofC C t
def sumC : List Ct → Int
  | [] => 0
  | p :: C => p.2 + sumC C
def delC (C : List Ct) (t : Int) : List Ct := C.filter fun p => decide (p.1 ≠ t)
def insC (x : Ct) : List Ct → List Ct
  | [] => [x]
  | y :: r => if x.1 < y.1 then x :: y :: r else y :: insC x r
def putC (C : List Ct) (t n : Int) : List Ct := insC (t, n) (delC C t)
theorem same_int (a b : Int) : (Lit.int .i64 a).sameKey (.int .i64 b) = decide (a = b) := by simp [Lit.sameKey]
theorem atKey_dm (C : List Ct) (t : Int) : (dm C).atKey (.int .i64 t) (.lit (.int .i64 0)) = .lit (.int .i64 (ofC C t)) := by
  induction C with
  | nil => rfl
  | cons p C ih =>
    unfold dm DataW.atKey at ih ⊢
    simp only [List.map_cons, List.find?_cons, enc1, same_int]
    unfold ofC
    by_cases h : p.1 = t
    · rw [decide_eq_true h, if_pos h]
    · rw [decide_eq_false h, if_neg h]
      exact ih
theorem del_dm (C : List Ct) (t : Int) : (dm C).del (.int .i64 t) = dm (delC C t) := by
  show DataW.map _ = DataW.map _
  congr 1
  unfold delC
  induction C with
  | nil => rfl
  | cons p C ih =>
    simp only [List.map_cons, List.filter_cons, enc1, same_int] at ih ⊢
    by_cases h : p.1 = t
    · simp [h]; simpa using ih
    · simp [h, enc1]; simpa using ih
theorem ins_dm (x : Ct) : ∀ C : List Ct, DataW.insert (enc1 x) (C.map enc1) = (insC x C).map enc1
  | [] => rfl
  | y :: r => by
    simp only [List.map_cons, DataW.insert, insC]
    by_cases h : x.1 < y.1
    · rw [if_pos h, if_pos (show Lit.before (enc1 x).1 (enc1 y).1 = true from decide_eq_true h)]; rfl
    · rw [if_neg h, if_neg (show ¬ Lit.before (enc1 x).1 (enc1 y).1 = true from fun e => h (of_decide_eq_true e)), ins_dm x r]; rfl
theorem put_dm (C : List Ct) (t n : Int) : (dm C).put (.int .i64 t) (.lit (.int .i64 n)) = dm (putC C t n) := by
  have h := del_dm C t
  unfold DataW.del dm at h
  simp only [DataW.map.injEq] at h
  unfold DataW.put dm
  simp only
  rw [h]
  unfold putC
  rw [← ins_dm]
  rfl
/-- rising, each of them at least once, all of them timestamps -/
structure Ok (C : List Ct) : Prop where
  up : C.Pairwise (fun p q => p.1 < q.1)
  pos : ∀ p ∈ C, 1 ≤ p.2
  ts : ∀ p ∈ C, 1 ≤ p.1 ∧ p.1 ≤ 1048576
  sum : sumC C ≤ 64
theorem Ok.nil : Ok [] := ⟨List.Pairwise.nil, (fun _ h => by cases h), (fun _ h => by cases h), by decide⟩
theorem sum_nn : ∀ {C : List Ct}, (∀ p ∈ C, 1 ≤ p.2) → 0 ≤ sumC C
  | [], _ => Int.le_refl _
  | p :: C, h => by
    have h1 := h p (List.mem_cons_self ..)
    have h2 := sum_nn (C := C) (fun q hq => h q (List.mem_cons_of_mem _ hq))
    unfold sumC; omega
theorem sum_len : ∀ {C : List Ct}, (∀ p ∈ C, 1 ≤ p.2) → (C.length : Int) ≤ sumC C
  | [], _ => Int.le_refl _
  | p :: C, h => by
    have h1 := h p (List.mem_cons_self ..)
    have h2 := sum_len (C := C) (fun q hq => h q (List.mem_cons_of_mem _ hq))
    unfold sumC; simp only [List.length_cons]; omega
/-- the sum of those that have come -/
def sumL (C : List Ct) (left : Lit → Bool) : Int := sumC (C.filter fun p => !left (.int .i64 p.1))
theorem sumL_le {C : List Ct} (left : Lit → Bool) (h : ∀ p ∈ C, 1 ≤ p.2) : 0 ≤ sumL C left ∧ sumL C left ≤ sumC C := by
  induction C with
  | nil => exact ⟨Int.le_refl _, Int.le_refl _⟩
  | cons p C ih =>
    have h1 := h p (List.mem_cons_self ..)
    have ih := ih (fun q hq => h q (List.mem_cons_of_mem _ hq))
    unfold sumL at ih ⊢
    simp only [List.filter_cons]
    split
    · unfold sumC; omega
    · show _ ∧ _ ≤ p.2 + sumC C; omega
theorem filter_same {C : List Ct} {f g : Ct → Bool} (h : ∀ p ∈ C, f p = g p) : C.filter f = C.filter g := List.filter_congr h
/-- one has come -/
theorem sumL_step : ∀ {C : List Ct} {left : Lit → Bool} {x c : Int}, C.Pairwise (fun p q => p.1 < q.1) → left (.int .i64 x) = true → (x, c) ∈ C → sumL C (fun z => left z && !z.sameKey (.int .i64 x)) = sumL C left + c
  | [], _, _, _, _, _, h => by cases h
  | p :: C, left, x, c, hu, hl, h => by
    obtain ⟨h1, h2⟩ := List.pairwise_cons.1 hu
    unfold sumL
    simp only [List.filter_cons, same_int]
    rcases List.mem_cons.1 h with rfl | h
    · have e : sumC (C.filter fun p => !(left (.int .i64 p.1) && !decide (p.1 = x))) = sumC (C.filter fun p => !left (.int .i64 p.1)) := by
        congr 1
        refine List.filter_congr (fun q hq => ?_)
        have := h1 q hq
        rw [decide_eq_false (show ¬ q.1 = x from fun e => by simp only at this; omega)]
        simp
      simp only [decide_true, Bool.not_true, Bool.and_false, Bool.not_false, if_true, hl, Bool.false_eq_true, if_false]
      show c + _ = _ + c
      rw [e]; omega
    · have ih := sumL_step (C := C) h2 hl h
      unfold sumL at ih
      simp only [same_int] at ih
      have hne : ¬ p.1 = x := fun e => by have := h1 _ h; simp only at this; omega
      rw [decide_eq_false hne]
      simp only [Bool.not_false, Bool.and_true]
      split
      · show p.2 + _ = p.2 + _ + c
        rw [ih]; omega
      · exact ih
theorem sumL_start {C : List Ct} : sumL C (Maps.has (dm C)) = 0 := by
  have h : ∀ p ∈ C, (!Maps.has (dm C) (.int .i64 p.1)) = false := fun p hp => by
    have : Maps.has (dm C) (.int .i64 p.1) = true := List.any_eq_true.2 ⟨enc1 p, List.mem_map.2 ⟨p, hp, rfl⟩, (same_int p.1 p.1).trans (decide_eq_true rfl)⟩
    rw [this]; rfl
  unfold sumL
  rw [List.filter_eq_nil_iff.2 (fun p hp => by rw [h p hp]; decide)]
  rfl
theorem sumL_end {C : List Ct} {left : Lit → Bool} (h : ∀ kl, left kl = false) : sumL C left = sumC C := by
  unfold sumL
  congr 1
  refine List.filter_eq_self.2 (fun p _ => by rw [h]; rfl)
theorem mem_of_at : ∀ {C : List Ct} {x c : Int}, (∀ zd, (dm C).atKey (.int .i64 x) zd = .lit (.int .i64 c)) → (x, c) ∈ C
  | [], x, c, h => by
    have := h (.lit (.bool true))
    unfold dm DataW.atKey at this
    simp at this
  | p :: C, x, c, h => by
    by_cases e : p.1 = x
    · have := h (.lit (.bool true))
      unfold dm DataW.atKey at this
      simp only [List.map_cons, List.find?_cons, enc1, same_int, decide_eq_true e] at this
      cases this
      subst e
      exact List.mem_cons_self ..
    · refine List.mem_cons_of_mem _ (mem_of_at (fun zd => ?_))
      have := h zd
      unfold dm DataW.atKey at this ⊢
      simp only [List.map_cons, List.find?_cons, enc1, same_int, decide_eq_false e] at this
      exact this
noncomputable abbrev R3 : Value → Option (DU × List MemPlace) := plainElem Try.prog 3
theorem law3 : Keyed Try.prog 3 := int_keyed Try.underlying3
theorem zero3 (w : World) : (zeroValue 3).run Try.prog w = .ok (.int .i64 0) w := by kernel_rfl
section
variable {W W' : World} {B p b q : Nat} {C : List Ct}
/-- a map that has counts -/
def MapAt (W : World) (B b : Nat) (C : List Ct) : Prop := B ≤ b ∧ W.ownsMap Try.prog 3 R3 b C.length (dm C)
theorem own_tight {P : Program} {k : TypeId} {R : Value → Option (DU × List MemPlace)} {n : Nat} (h : W.ownsMap P k R b n (dm C)) : W.ownsMap P k R b C.length (dm C) := by
  obtain ⟨es, clock, hb, F, hs, hD⟩ := h
  refine ⟨es, clock, hb, F, ?_, hD⟩
  have e : (C.map enc1).length = ((es.toList.map (WideElems.rg P k R)).foldr DataW.insert []).length := by
    unfold dm at hD
    simp only [DataW.map.injEq] at hD
    rw [hD]
  rw [length_sorted] at e
  simp at e
  omega
theorem MapAt.later (h : MapAt W B b C) (hb : Below W.heap.size W W') : MapAt W' B b C :=
  ⟨h.1, h.2.kept (row := none) ⟨hb.os, hb.tape, hb.output, hb.size, fun k hk _ => hb.block k hk⟩ (by simp)⟩
/-- the object: its block, its map -/
structure DdAt (W : World) (B p b : Nat) (C : List Ct) : Prop where
  hp : B ≤ p
  blk : Blk W p #[.map (some b)] 50
  own : MapAt W B b C
  ok : Ok C
theorem DdAt.later (h : DdAt W B p b C) (hb : Below W.heap.size W W') : DdAt W' B p b C := ⟨h.hp, h.blk.later hb, h.own.later hb, h.ok⟩
theorem DdAt.base {B' : Nat} (h : DdAt W B p b C) (hb : B' ≤ B) : DdAt W B' p b C := ⟨Nat.le_trans hb h.hp, h.blk, ⟨Nat.le_trans hb h.own.1, h.own.2⟩, h.ok⟩
theorem DdAt.plt (h : DdAt W B p b C) : p < W.heap.size := h.blk.lt
theorem DdAt.blt (h : DdAt W B p b C) : b < W.heap.size := h.own.2.lt
theorem DdAt.ne (h : DdAt W B p b C) : p ≠ b := fun e => by
  obtain ⟨es, clock, hb, _⟩ := h.own.2
  have h2 : W.heap[p]? = some (.cells #[.map (some b)] 50 (0, 0)) := h.blk
  rw [e, hb] at h2; cases h2
theorem DdAt.len (h : DdAt W B p b C) : C.length ≤ 64 := by have := sum_len h.ok.pos; have := h.ok.sum; omega
end
end Go.Proofs.Ytlnfdcaljmfbjaa
