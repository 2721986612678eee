/- Slices of numbers: cut, and put behind what the call made. -/
import Derived.Test.YthicofdbcldpaaaG
import Derived.Laws.AppendOwnNone
namespace Go.Proofs.Ythicofdbcldpaaa
open Go.ChangeShapes Go.WideShapes Go.ChangeAt Go.RowKit Go.Shelf Go.Sort Go.Lib
set_option linter.unusedVariables false
set_option linter.unusedSimpArgs false
theorem add_plain (b off n : Nat) : (⟨b, off, none⟩ : Addr).add n = ⟨b, off + n, none⟩ := by
  unfold Addr.add
  by_cases h : n = 0
  · subst h; rfl
  · rw [if_neg h]
theorem elem23 : Try.prog.underlying 23 = some (.slice (Try.prog.elem 23)) := by simp [Program.elem, Try.underlying23]
theorem elem23e : Try.prog.elem 23 = 3 := by simp [Program.elem, Try.underlying23]
/-- a slice that reads as numbers, with what nil has -/
structure Sl (n₀ : Nat) (W : World) (A : Option Addr) (n c : Nat) (xs : List Int) : Prop where
  ints : Ints n₀ W A n xs
  le : n ≤ c
  nil : A = none → n = 0 ∧ c = 0
theorem slice_lo (A : Option Addr) (m c k : Nat) (hk : k ≤ m) (hc : m ≤ c) (h0 : A = none → m = 0 ∧ c = 0) :
    ∃ A2, (∀ W, (Instr.slice 23 (.slice A m c) (some (.int .i64 (k : Int))) none none).run Try.prog W = .ok (.slice A2 (m - k) (c - k)) W) ∧ ∀ n₀ W xs, Ints n₀ W A m xs → Sl n₀ W A2 (m - k) (c - k) (xs.drop k) := by
  cases A with
  | none =>
    obtain ⟨rfl, rfl⟩ := h0 rfl
    obtain rfl : k = 0 := by omega
    refine ⟨none, fun W => ?_, fun n₀ W xs h => ⟨by simpa using h, Nat.le_refl _, fun _ => ⟨rfl, rfl⟩⟩⟩
    rw [run_slice_l W 23 _ _ _ elem23 .i64 _ (by omega) (by omega), elem23e, Try.sizeOf3]
    simp [Result.andThen, sliced]
  | some a =>
    refine ⟨some (if c = k then a else a.add k), fun W => ?_, fun n₀ W xs h => ⟨⟨by rw [List.length_drop, h.1], fun hp => ?_⟩, by omega, fun e => by cases e⟩⟩
    · rw [run_slice_l W 23 _ _ _ elem23 .i64 _ (by omega) (by omega), elem23e, Try.sizeOf3]
      by_cases e : c = k
      · simp [Result.andThen, sliced, e]
      · simp [Result.andThen, sliced, e]
    · obtain ⟨g, off, hA, hg, hcell⟩ := h.2 (by omega)
      cases hA
      rw [if_neg (by omega), add_plain]
      refine ⟨g, off + k, rfl, hg, fun j hj => ?_⟩
      rw [Nat.add_assoc, hcell (k + j) (by omega), List.getD_eq_getElem?_getD, List.getD_eq_getElem?_getD, List.getElem?_drop]
theorem slice_hi (A : Option Addr) (m c k : Nat) (hk : k ≤ m) (hc : m ≤ c) (h0 : A = none → m = 0 ∧ c = 0) :
    (∀ W, (Instr.slice 23 (.slice A m c) none (some (.int .i64 (k : Int))) none).run Try.prog W = .ok (.slice A k c) W) ∧ ∀ n₀ W xs, Ints n₀ W A m xs → Sl n₀ W A k c (xs.take k) := by
  refine ⟨fun W => ?_, fun n₀ W xs h => ⟨⟨by rw [List.length_take, h.1]; omega, fun hp => ?_⟩, by omega, fun e => ⟨by have := h0 e; omega, (h0 e).2⟩⟩⟩
  · rw [run_slice_h W 23 _ _ _ elem23 .i64 _ (by omega) (by omega), elem23e, Try.sizeOf3]
    cases A with
    | none => simp [Result.andThen, sliced]
    | some a => by_cases e : c = 0 <;> simp [Result.andThen, sliced, Addr.add, e]
  · obtain ⟨g, off, hA, hg, hcell⟩ := h.2 (by omega)
    refine ⟨g, off, hA, hg, fun j hj => ?_⟩
    rw [hcell j (by omega), List.getD_eq_getElem?_getD, List.getD_eq_getElem?_getD, List.getElem?_take_of_lt hj]
/-- what an own row is as a slice -/
theorem own_sl {W : World} {B n : Nat} {v : Value} {xs : List Int} (h : W.ownsRow B 3 1 v n (xs.map (Value.int .i64))) : ∃ A c, v = .slice A n c ∧ Sl W.heap.size W A n c xs := by
  have hl : xs.length = n := by simpa using h.1
  obtain ⟨_, hc⟩ := h
  rcases hc with ⟨rfl, rfl⟩ | ⟨g, cap, cur, rfl, hB, hg, hn, hm, hs, ht⟩
  · exact ⟨none, 0, rfl, ⟨hl, fun h => by omega⟩, Nat.le_refl _, fun _ => ⟨rfl, rfl⟩⟩
  · subst hl
    have hO : Own W B g cap xs := ⟨by simp, .inr ⟨g, cap, cur, rfl, hB, hg, hn, hm, hs, ht⟩⟩
    exact ⟨_, _, rfl, hO.ints, hn, fun e => by cases e⟩
/-- a slice that the call made, nil let in, and what it holds -/
def OwnL (W : World) (B : Nat) (v : Value) (n : Nat) (xs : List Int) : Prop := W.ownsRow B 3 1 v n (xs.map (Value.int .i64))
theorem wpList_append_ints {w : World} {ops : Array Oper} {rest : List Oper} {o : Oper} {a : Act} {Q : Exit → Act → World → Prop} (hgd : o.guard = none) (s x : Operand)
    (ho : o.op = .call { callee := .builtin .append, args := #[s, x], argTypes := #[23, 23] })
    (B : Nat) (v : Value) (n : Nat) (xs : List Int) (hs : a.eval s = v) (hown : OwnL w B v n xs)
    (A : Option Addr) (m c : Nat) (ys : List Int) (hx : a.eval x = .slice A m c) (n₀ : Nat) (hy : Sl n₀ w A m c ys) (hb : n + m ≤ 2000000) (hbase : B ≤ w.heap.size)
    (h : ∀ v' w', OwnL w' B v' (n + m) (xs ++ ys) → w.grownBy w' v.ownBlock → wpList Try.prog ops Q rest (a.put o.dst v') w') :
    wpList Try.prog ops Q (o :: rest) a w := by
  obtain ⟨i0, hi, hz0, hz1, hz2⟩ := info_parts v3info
  cases A with
  | none =>
    obtain ⟨rfl, rfl⟩ := hy.nil rfl
    refine wpList_append_own_none hgd s x 23 ho B 3 i0 1 Try.underlying23 hi v n _ hs hown hx ?_
    have hys : ys = [] := List.eq_nil_of_length_eq_zero hy.ints.1
    exact h v w (by rw [hys, List.append_nil]; exact hown) (World.grownBy.refl _ _)
  | some ad =>
    refine wpList_append_own w hgd s x 23 ho B 3 i0 _ 1 8 Try.underlying23 hi hz0 hz1 hz2 rfl (by decide) v n _ hs hown ad m c (ys.map (Value.int .i64)) hx (by rw [List.length_map, hy.ints.1, Nat.mul_one]) (fun j u hu => ?_) (ints_oneCell .i64 ys) (by unfold maxLen; omega) (by omega) hbase (fun v' w' h1 h2 _ => h v' w' (by unfold OwnL; rw [List.map_append]; exact h1) h2)
    have hj : j < m := by
      rw [List.getElem?_map] at hu
      have hl := hy.ints.1
      by_cases hj : j < m
      · exact hj
      · rw [List.getElem?_eq_none (by omega)] at hu; cases hu
    obtain ⟨g, off, hA, hg, hcell⟩ := hy.ints.2 (by omega)
    cases hA
    rw [add_plain, hcell j hj, ← hu, List.getElem?_map, List.getD_eq_getElem?_getD, List.getElem?_eq_getElem (by have := hy.ints.1; omega)]; rfl
end Go.Proofs.Ythicofdbcldpaaa
