/- The slots that are used, as a set of them reads; the page. -/
import Derived.Test.YtbnbhhmgfogjeaaSl
import Derived.Maps.OwnOps
import Derived.Maps.OwnSet
import Derived.Maps.RangeWalk
import Derived.Maps.Views
namespace Go.Proofs.Ytbnbhhmgfogjeaa
open Go.ChangeShapes Go.WideShapes Go.ChangeAt Go.RowKit Go.Maps
set_option linter.unusedVariables false
set_option linter.unusedSimpArgs false

abbrev DU := DataW Unit
/-- where a slot begins, as a key -/
def enc1 (x : Int) : Lit × DU := (.int .u16 x, .agg [])
def dm (C : List Int) : DU := .map (C.map enc1)
def delC (C : List Int) (t : Int) : List Int := C.filter fun p => decide (p ≠ t)
def insC (x : Int) : List Int → List Int
  | [] => [x]
  | y :: r => if x < y then x :: y :: r else y :: insC x r
def putC (C : List Int) (t : Int) : List Int := insC t (delC C t)
def isC (C : List Int) (t : Int) : Bool := C.any fun p => decide (p = t)
theorem same_int (a b : Int) : (Lit.int .u16 a).sameKey (.int .u16 b) = decide (a = b) := by simp [Lit.sameKey]
theorem has_dm (C : List Int) (t : Int) : Maps.has (dm C) (.int .u16 t) = isC C t := by
  unfold Maps.has dm isC
  simp only [List.any_map]
  congr 1
  funext p
  simp [enc1, same_int]
theorem del_dm (C : List Int) (t : Int) : (dm C).del (.int .u16 t) = dm (delC C t) := by
  show DataW.map _ = DataW.map _
  congr 1
  unfold delC
  induction C with
  | nil => rfl
  | cons p C ih =>
    simp only [List.map_cons, List.filter_cons, enc1, same_int] at ih ⊢
    by_cases h : p = t
    · simp [h]; simpa using ih
    · simp [h, enc1]; simpa using ih
theorem ins_dm (x : Int) : ∀ C : List Int, DataW.insert (enc1 x) (C.map enc1) = (insC x C).map enc1
  | [] => rfl
  | y :: r => by
    simp only [List.map_cons, DataW.insert, insC]
    by_cases h : x < y
    · rw [if_pos h, if_pos (show Lit.before (enc1 x).1 (enc1 y).1 = true from decide_eq_true h)]; rfl
    · rw [if_neg h, if_neg (show ¬ Lit.before (enc1 x).1 (enc1 y).1 = true from fun e => h (of_decide_eq_true e)), ins_dm x r]; rfl
theorem put_dm (C : List Int) (t : Int) : (dm C).put (.int .u16 t) (.agg []) = dm (putC C t) := by
  have h := del_dm C t
  unfold DataW.del dm at h
  simp only [DataW.map.injEq] at h
  unfold DataW.put dm
  simp only
  rw [h]
  unfold putC
  rw [← ins_dm]
  rfl
/-- rising, each within the page -/
structure Ok (C : List Int) : Prop where
  up : C.Pairwise (fun p q => p < q)
  rg : ∀ p ∈ C, 0 ≤ p ∧ p ≤ 4095
theorem Ok.nil : Ok [] := ⟨List.Pairwise.nil, fun _ h => by cases h⟩
theorem mem_ins {x y : Int} : ∀ {C : List Int}, y ∈ insC x C ↔ y = x ∨ y ∈ C
  | [] => by simp [insC]
  | z :: r => by
    unfold insC
    by_cases h : x < z
    · rw [if_pos h]; simp
    · rw [if_neg h, List.mem_cons, mem_ins, List.mem_cons]
      constructor
      · rintro (h | h | h) <;> simp [h]
      · rintro (h | h | h) <;> simp [h]
theorem mem_del {x y : Int} {C : List Int} : y ∈ delC C x ↔ y ∈ C ∧ y ≠ x := by unfold delC; simp
theorem ins_up {x : Int} : ∀ {C : List Int}, C.Pairwise (fun p q => p < q) → (∀ p ∈ C, p ≠ x) → (insC x C).Pairwise (fun p q => p < q)
  | [], _, _ => by simp [insC]
  | z :: r, h, hn => by
    unfold insC
    by_cases e : x < z
    · rw [if_pos e]
      refine List.pairwise_cons.2 ⟨fun p hp => ?_, h⟩
      rcases List.mem_cons.1 hp with rfl | hp
      · exact e
      · have := (List.pairwise_cons.1 h).1 p hp; omega
    · rw [if_neg e]
      have hz := hn z (List.mem_cons_self ..)
      refine List.pairwise_cons.2 ⟨fun p hp => ?_, ins_up (List.pairwise_cons.1 h).2 (fun p hp => hn p (List.mem_cons_of_mem _ hp))⟩
      rcases mem_ins.1 hp with rfl | hp
      · omega
      · exact (List.pairwise_cons.1 h).1 p hp
theorem Ok.del {C : List Int} (h : Ok C) (x : Int) : Ok (delC C x) := ⟨h.up.filter _, fun p hp => h.rg p (mem_del.1 hp).1⟩
theorem Ok.put {C : List Int} (h : Ok C) {x : Int} (h0 : 0 ≤ x) (h1 : x ≤ 4095) : Ok (putC C x) :=
  ⟨ins_up (h.del x).up (fun p hp => (mem_del.1 hp).2), fun p hp => by
    rcases mem_ins.1 hp with rfl | hp
    · exact ⟨h0, h1⟩
    · exact (h.del x).rg p hp⟩
theorem len_ins (x : Int) : ∀ C : List Int, (insC x C).length = C.length + 1
  | [] => rfl
  | y :: r => by
    unfold insC
    by_cases h : x < y
    · rw [if_pos h]; rfl
    · rw [if_neg h]; simp [len_ins x r]
theorem is_mem {C : List Int} {x : Int} : isC C x = true ↔ x ∈ C := by unfold isC; simp
theorem del_no {C : List Int} {x : Int} (h : isC C x = false) : delC C x = C := by
  unfold delC
  refine List.filter_eq_self.2 (fun p hp => decide_eq_true (fun e => ?_))
  subst e
  rw [is_mem.2 hp] at h; cases h
theorem len_up : ∀ {C : List Int} {a : Int}, C.Pairwise (fun p q => p < q) → (∀ p ∈ C, a ≤ p ∧ p ≤ 4095) → a ≤ 4096 → (C.length : Int) ≤ 4096 - a
  | [], a, _, _, h => by simp; omega
  | x :: r, a, hu, hr, _ => by
    have hx := hr x (List.mem_cons_self ..)
    have := len_up (a := x + 1) (List.pairwise_cons.1 hu).2 (fun p hp => ⟨by have := (List.pairwise_cons.1 hu).1 p hp; omega, (hr p (List.mem_cons_of_mem _ hp)).2⟩) (by omega)
    simp; omega
theorem Ok.len {C : List Int} (h : Ok C) : C.length ≤ 4096 := by have := len_up (a := 0) h.up (fun p hp => h.rg p hp) (by omega); omega
theorem law23 : Keyed Try.prog 41 := int_keyed Try.underlying41
theorem zero65 (w : World) : (zeroValue 98).run Try.prog w = .ok (.agg #[]) w := by kernel_rfl
section
variable {W W' : World} {B p b q : Nat} {C : List Int}
def MapAt (W : World) (B b : Nat) (C : List Int) : Prop := B ≤ b ∧ W.ownsMap Try.prog 41 unitElem b C.length (dm C)
theorem own_tight {P : Program} {k : TypeId} {R : Value → Option (DU × List MemPlace)} {n : Nat} (h : W.ownsMap P k R b n (dm C)) : W.ownsMap P k R b C.length (dm C) := by
  obtain ⟨es, clock, hb, F, hs, hD⟩ := h
  refine ⟨es, clock, hb, F, ?_, hD⟩
  have e : (C.map enc1).length = ((es.toList.map (WideElems.rg P k R)).foldr DataW.insert []).length := by
    unfold dm at hD
    simp only [DataW.map.injEq] at hD
    rw [hD]
  rw [length_sorted] at e
  simp at e
  omega
theorem MapAt.later (h : MapAt W B b C) (hb : Below W.heap.size W W') : MapAt W' B b C :=
  ⟨h.1, h.2.kept (row := none) ⟨hb.os, hb.tape, hb.output, hb.size, fun k hk _ => hb.block k hk⟩ (by simp)⟩
def by8 (x : Int) : Value := .int .u8 x
/-- a page's cells: the slots' length, the first that was never used, the last that was given back, those that are used, the bytes -/
def pgv (slot fresh last : Int) (b : Nat) (bs : List Int) : List Value := .int .i64 slot :: .int .i64 fresh :: .int .u16 last :: .map (some b) :: bs.map by8
structure PgAt (W : World) (B p b : Nat) (slot fresh last : Int) (C bs : List Int) : Prop where
  hp : B ≤ p
  blk : Blk W p (pgv slot fresh last b bs).toArray 102
  own : MapAt W B b C
  ok : Ok C
  len : bs.length = 4096
variable {slot fresh last : Int} {bs : List Int}
theorem PgAt.later (h : PgAt W B p b slot fresh last C bs) (hb : Below W.heap.size W W') : PgAt W' B p b slot fresh last C bs := ⟨h.hp, h.blk.later hb, h.own.later hb, h.ok, h.len⟩
theorem PgAt.base {B' : Nat} (h : PgAt W B p b slot fresh last C bs) (hb : B' ≤ B) : PgAt W B' p b slot fresh last C bs := ⟨Nat.le_trans hb h.hp, h.blk, ⟨Nat.le_trans hb h.own.1, h.own.2⟩, h.ok, h.len⟩
theorem PgAt.plt (h : PgAt W B p b slot fresh last C bs) : p < W.heap.size := h.blk.lt
theorem PgAt.blt (h : PgAt W B p b slot fresh last C bs) : b < W.heap.size := h.own.2.lt
theorem PgAt.c0 (h : PgAt W B p b slot fresh last C bs) : W.cell? ⟨p, 0, none⟩ = some (.int .i64 slot) := h.blk.cell 0
theorem PgAt.c1 (h : PgAt W B p b slot fresh last C bs) : W.cell? ⟨p, 1, none⟩ = some (.int .i64 fresh) := h.blk.cell 1
theorem PgAt.c2 (h : PgAt W B p b slot fresh last C bs) : W.cell? ⟨p, 2, none⟩ = some (.int .u16 last) := h.blk.cell 2
theorem PgAt.c3 (h : PgAt W B p b slot fresh last C bs) : W.cell? ⟨p, 3, none⟩ = some (.map (some b)) := h.blk.cell 3
theorem PgAt.cb (h : PgAt W B p b slot fresh last C bs) {j : Nat} (hj : j < bs.length) : W.cell? ⟨p, 4 + j, none⟩ = some (.int .u8 (bs.getD j 0)) := by
  have := h.blk.cell (4 + j)
  rw [this]
  unfold pgv
  simp only [List.getElem?_toArray]
  rw [show 4 + j = j + 4 from by omega]
  simp [by8, List.getElem?_eq_getElem hj]
theorem PgAt.ne (h : PgAt W B p b slot fresh last C bs) : p ≠ b := fun e => by
  obtain ⟨es, clock, hb, _⟩ := h.own.2
  have h2 : W.heap[p]? = some (.cells (pgv slot fresh last b bs).toArray 102 (0, 0)) := h.blk
  rw [e, hb] at h2; cases h2
end
end Go.Proofs.Ytbnbhhmgfogjeaa
