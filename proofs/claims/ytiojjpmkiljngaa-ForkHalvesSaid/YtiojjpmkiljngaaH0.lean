/- Lists of slices; what a slice's elements are. -/
import Derived.Test.YtiojjpmkiljngaaG
import Derived.Lib.AppendZerosOnto
namespace Go.Proofs.Ytiojjpmkiljngaa
open Go.ChangeShapes Go.WideShapes Go.ChangeAt Go.RowKit
set_option linter.unusedVariables false
set_option linter.unusedSimpArgs false

theorem info_parts {P : Program} {e : TypeId} {z : Value} {s b : Nat} (h : (P.info? e).map (fun i => (i.zero, i.size, i.bytes)) = some (some z, s, b)) : ∃ i, P.info? e = some i ∧ i.zero = some z ∧ i.size = s ∧ i.bytes = b := by
  cases hi : P.info? e with
  | none => rw [hi] at h; cases h
  | some i => rw [hi] at h; simp only [Option.map_some, Option.some.injEq, Prod.mk.injEq] at h; exact ⟨i, rfl, h.1, h.2.1, h.2.2⟩
/-- a number's cell -/
def iv (x : Int) : Value := .int .i64 x
/-- a handle's cell -/
def hv (x : Int) : Value := .int .u64 x
structure Sp (α : Type) where
  A : Option Addr
  n : Nat
  c : Nat
  xs : List α
def Sp.val {α : Type} (s : Sp α) : Value := .slice s.A s.n s.c
def total {α : Type} (S : List (Sp α)) (k : Nat) : Nat := ((S.take k).map (·.n)).sum
def flat {α : Type} (S : List (Sp α)) (k : Nat) : List α := (S.take k).flatMap (·.xs)
theorem total_succ {α : Type} (S : List (Sp α)) (k : Nat) (s : Sp α) (h : S[k]? = some s) : total S (k + 1) = total S k + s.n := by
  unfold total; rw [List.take_add_one, h]; simp
theorem flat_succ {α : Type} (S : List (Sp α)) (k : Nat) (s : Sp α) (h : S[k]? = some s) : flat S (k + 1) = flat S k ++ s.xs := by
  unfold flat; rw [List.take_add_one, h]; simp
theorem sum_le (l : List Nat) (k : Nat) : (l.take k).sum ≤ l.sum := by
  have h := congrArg List.sum (List.take_append_drop k l)
  rw [List.sum_append] at h; omega
theorem total_le {α : Type} (S : List (Sp α)) (k : Nat) : total S k ≤ total S S.length := by
  unfold total; rw [List.take_length, ← List.map_take.symm]; exact sum_le _ _
def SpAt {α : Type} (enc : α → Value) (S : List (Sp α)) (g : Nat) (W : World) : Prop := ∀ (k : Nat) (s : Sp α), S[k]? = some s → W.cell? ⟨g, k, none⟩ = some (.slice s.A s.n s.c) ∧ Sl enc W s.A s.n s.c s.xs
theorem SpAt.later {α : Type} {enc : α → Value} {S : List (Sp α)} {g : Nat} {W W' : World} (h : SpAt enc S g W) (hb : Below W.heap.size W W') : SpAt enc S g W' := fun k s hs =>
  have a := h k s hs
  ⟨(hb.cell (p := ⟨g, k, none⟩) (lt_of_cell a.1)).trans a.1, a.2.later hb⟩
def MadeEnd {α : Type} (enc : α → Value) (e : TypeId) (xs : List α) (w : World) (x : Ending) (w' : World) : Prop := ∃ v, x = .returned v ∧ Ow enc w' w.heap.size e v xs.length xs ∧ Below w.heap.size w w'
theorem Ow.len {α : Type} {enc : α → Value} {W : World} {B : Nat} {e : TypeId} {v : Value} {n : Nat} {xs : List α} (h : Ow enc W B e v n xs) : xs.length = n := by simpa using h.1
theorem made_of {α : Type} {enc : α → Value} {e : TypeId} {xs : List α} {w w' : World} {v : Value} {n : Nat} (h : Ow enc w' w.heap.size e v n xs) (hb : Below w.heap.size w w') : MadeEnd enc e xs w (.returned v) w' := ⟨v, rfl, by rw [h.len]; exact h, hb⟩
/-- what a region that draws keeps: all that lay there ahead of it -/
def Aft (w W : World) : Prop := Below w.heap.size w W
theorem Aft.refl (w : World) : Aft w w := Below.refl _ _
theorem Aft.drew0 (w : World) : Aft w w.drew := (Below.refl _ _).drew
theorem Aft.drew {w W : World} (h : Aft w W) : Aft w W.drew := Below.drew h
theorem Aft.drewN {w W : World} (h : Aft w W) (n : Nat) : Aft w (W.drewN n) := below_drewN h n
theorem Aft.drewN2 {w W : World} {a : Nat} (h : Aft w (W.drewN a)) (b : Nat) : Aft w (W.drewN (a + b)) := Below.trans h ⟨rfl, rfl, rfl, Nat.le_refl _, fun _ _ => rfl⟩
theorem Aft.alloc {w W : World} (h : Aft w W) (o : Obj) : Aft w (W.alloc o) := Below.alloc h h.size o
theorem Aft.size {w W : World} (h : Aft w W) : w.heap.size ≤ W.heap.size := Below.size h
theorem Aft.below {w W W' : World} (h : Aft w W) (k : Below W.heap.size W W') : Aft w W' := stepB h k
theorem Blk.drewl {W : World} {B : Nat} {c : Array Value} {t : TypeId} (h : Blk W B c t) : Blk W.drew B c t := h
theorem Blk.drewNl {W : World} {B n : Nat} {c : Array Value} {t : TypeId} (h : Blk W B c t) : Blk (W.drewN n) B c t := h
theorem made_after {α : Type} {enc : α → Value} {e : TypeId} {xs : List α} {w W w' : World} {v : Value} (ha : Aft w W) (ho : Ow enc w' W.heap.size e v xs.length xs) (hb : Below W.heap.size W w') : MadeEnd enc e xs w (.returned v) w' := ⟨v, rfl, ho.base (Below.size ha), stepB ha hb⟩
theorem made_fin {α : Type} {enc : α → Value} {e : TypeId} {xs : List α} {w w' : World} {v : Value} (ha : Aft w w') (ho : Ow enc w' w.heap.size e v xs.length xs) : MadeEnd enc e xs w (.returned v) w' := ⟨v, rfl, ho, ha⟩
def EqEnd (b : Bool) (w : World) (x : Ending) (w' : World) : Prop := x = .returned (.bool b) ∧ ∃ k, w' = w.drewN k
theorem eqEnd_of {b b' : Bool} {w w' : World} {k : Nat} (h : b = b') (hw : w' = w.drewN k) : EqEnd b w (.returned (.bool b')) w' := ⟨ret_bool h.symm, k, hw⟩
theorem seq_no {x y : ByteArray} (h : ¬ x = y) : (x.toList == y.toList) = false := by
  rw [beq_eq_false_iff_ne, ByteArray.toList_eq, ByteArray.toList_eq]
  exact fun e => h (ByteArray.ext (Array.toList_inj.1 e))
theorem seq_yes {x y : ByteArray} (h : x = y) : (x.toList == y.toList) = true := by rw [h]; simp
theorem ieq_no {x y : Int} (h : ¬ x = y) : (x == y) = false := by rw [beq_eq_false_iff_ne]; exact h
theorem ieq_yes {x y : Int} (h : x = y) : (x == y) = true := by rw [h]; simp
theorem ine_no {x y : Int} (h : x = y) : (x != y) = false := by rw [h]; simp
theorem ine_yes {x y : Int} (h : ¬ x = y) : (x != y) = true := by rw [bne_iff_ne]; exact h
theorem index_run2 (t g L k : Nat) (e : TypeId) (ht : Try.prog.underlying t = some (.slice e)) (hz : ∀ w, (Go.sizeOf e).run Try.prog w = .ok 1 w) (i : Int) (hi : i = (k : Int)) (h : k < L) (W : World) : (Instr.indexAt t (.slice (some ⟨g, 0, none⟩) L L) (.int .i64 i)).run Try.prog W = .ok (.pointer (some ⟨g, k, none⟩)) W := by
  subst hi
  have h1 : (0 : Int) ≤ (k : Int) ∧ (k : Int) < (L : Int) := by omega
  simp only [Instr.indexAt, Sem.run_bind, run_underlying ht, Result.andThen_ok]
  go_simp
end Go.Proofs.Ytiojjpmkiljngaa
