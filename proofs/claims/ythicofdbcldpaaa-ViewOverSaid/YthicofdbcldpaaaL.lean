/- Arguments as a law is handed them: numbers in a slice, views by value, bytes. -/
import Derived.Test.YthicofdbcldpaaaLF
import Derived.Test.YthicofdbcldpaaaI
import Derived.Deep.Slices
import Derived.Deep.Strs
import Derived.Lib.SmallJoins
namespace Go.Proofs.Ythicofdbcldpaaa
open Go.ChangeShapes Go.WideShapes Go.ChangeAt Go.RowKit Go.Deep Go.Joins
set_option linter.unusedVariables false
set_option linter.unusedSimpArgs false
theorem cells3 : Try.prog.cellsOf 3 = 1 := by kernel_rfl
theorem cells23 : Try.prog.cellsOf 23 = 1 := by kernel_rfl
theorem cells25 : Try.prog.cellsOf 25 = 3 := by kernel_rfl
theorem u25 : ∃ f0 f1 f2 : Field, Try.prog.underlying 25 = some (.struct #[f0, f1, f2]) ∧ f0.type = 3 ∧ f1.type = 3 ∧ f2.type = 23 ∧ f0.offset = 0 ∧ f1.offset = 1 ∧ f2.offset = 2 :=
  ⟨_, _, _, Try.underlying25, rfl, rfl, rfl, rfl, rfl, rfl⟩
theorem list3 {α : Type} {l : List α} (h : l.length = 3) : ∃ a b c, l = [a, b, c] := by
  match l, h with
  | [a, b, c], _ => exact ⟨a, b, c, rfl⟩
theorem lt_of_cell {W : World} {b o : Nat} {v : Value} (h0 : W.cell? ⟨b, o, none⟩ = some v) : b < W.heap.size := by
  by_cases hge : b < W.heap.size
  · exact hge
  · have : W.heap[b]? = none := Array.getElem?_eq_none (by omega)
    simp [World.cell?, this] at h0
def i64 (x : Int) : Prop := -9223372036854775808 ≤ x ∧ x ≤ 9223372036854775807
theorem i64_of {x : Int} (h : (Lit.int .i64 x).wf = true) : i64 x := by
  have em : IntKind.i64.min = -9223372036854775808 := by decide
  simp [Lit.wf] at h
  unfold i64; omega
section
variable {H : Type} {enc : TypeId × Value → H}
theorem ints_read {W : World} {fuel : Nat} {cs : List Value} {x : DataW H × List MemPlace} (h : DataW.trod enc Try.prog W 0 (fun _ => true) true fuel 23 cs = some x) :
    ∃ A n c xs, cs = [.slice A n c] ∧ Sl W.heap.size W A n c xs ∧ n ≤ maxLen ∧ ∀ v ∈ xs, i64 v := by
  rcases open_ints Try.underlying23 Try.underlying3 cells3 h with ⟨rfl, _⟩ | ⟨a, len, cap, zs, rfl, _, hl, hm, hz, hx, hcell, hwf⟩
  · exact ⟨none, 0, 0, [], rfl, ⟨⟨rfl, fun h => by omega⟩, Nat.le_refl _, fun _ => ⟨rfl, rfl⟩⟩, Nat.zero_le _, fun v hv => by cases hv⟩
  · simp only [if_true] at hz
    have hlen : (zs.take len).length = len := by simp; omega
    refine ⟨some a, len, cap, zs.take len, rfl, ⟨⟨hlen, fun hn => ?_⟩, hl, fun e => by cases e⟩, by omega, fun v hv => i64_of (hwf v (List.mem_of_mem_take hv))⟩
    obtain ⟨b, off, spot⟩ := a
    have h0 := hcell 0 (by omega)
    have hspot : spot = none := by simpa [Addr.add] using World.cell?_spot h0
    subst hspot
    rw [add_plain] at h0
    refine ⟨b, off, rfl, lt_of_cell h0, fun j hj => ?_⟩
    rw [← add_plain, hcell j (by omega), List.getD_eq_getElem?_getD, List.getD_eq_getElem?_getD, List.getElem?_take_of_lt hj]
theorem view_read {W : World} {fuel : Nat} {cs : List Value} {x : DataW H × List MemPlace} (h : DataW.trod enc Try.prog W 0 (fun _ => true) true fuel 25 cs = some x) :
    ∃ own high A n c xs, cs = [.int .i64 own, .int .i64 high, .slice A n c] ∧ Sl W.heap.size W A n c xs ∧ n ≤ maxLen ∧ (∀ v ∈ xs, i64 v) ∧ i64 own ∧ i64 high := by
  obtain ⟨f0, f1, f2, hu, t0, t1, t2, o0, o1, o2⟩ := u25
  obtain ⟨y0, y1, y2, n, hx, hl, h0, h1, h2⟩ := trod_struct3 hu h
  obtain ⟨c0, c1, c2, rfl⟩ := list3 (hl.trans cells25)
  rw [t0, o0, cells3] at h0
  rw [t1, o1, cells3] at h1
  rw [t2, o2, cells23] at h2
  obtain ⟨a, e0, _, wa⟩ := DataW.trod_int Try.underlying3 h0
  obtain ⟨b, e1, _, wb⟩ := DataW.trod_int Try.underlying3 h1
  obtain ⟨A, n, c, xs, e2, hS, hm, hr⟩ := ints_read h2
  simp at e0 e1 e2
  subst e0 e1 e2
  exact ⟨a, b, A, n, c, xs, rfl, hS, hm, hr, i64_of wa, i64_of wb⟩
theorem open_int23 {W : World} {base : Nat} {v : Value} {d : DataW H} {ps : List MemPlace}
    (hval : Value.okWide Try.prog W .any base 23 v) (h : DataW.Trod enc Try.prog W 0 (fun _ => true) true 23 v d ps) :
    ∃ A n c xs, v = .slice A n c ∧ Sl W.heap.size W A n c xs ∧ n ≤ maxLen ∧ ∀ v ∈ xs, i64 v := by
  obtain ⟨A, n, c, rfl⟩ := okWide_slice Try.underlying23 hval
  obtain ⟨fuel, hf⟩ := h
  obtain ⟨A', n', c', xs, e, hS, hm, hr⟩ := ints_read hf
  simp [Value.cells] at e
  obtain ⟨rfl, rfl, rfl⟩ := e
  exact ⟨A, n, c, xs, rfl, hS, hm, hr⟩
theorem open_view {W : World} {base : Nat} {v : Value} {d : DataW H} {ps : List MemPlace}
    (hval : Value.okWide Try.prog W .any base 25 v) (h : DataW.Trod enc Try.prog W 0 (fun _ => true) true 25 v d ps) :
    ∃ own high A n c xs, v = .agg #[.int .i64 own, .int .i64 high, .slice A n c] ∧ Sl W.heap.size W A n c xs ∧ n ≤ maxLen ∧ (∀ v ∈ xs, i64 v) ∧ i64 own ∧ i64 high := by
  obtain ⟨cs, rfl, hsz⟩ := okWide_struct Try.underlying25 hval
  obtain ⟨fuel, hf⟩ := h
  obtain ⟨own, high, A, n, c, xs, e, hS, hm, hr, h1, h2⟩ := view_read hf
  obtain ⟨c0, c1, c2, rfl⟩ := array3 (hsz.trans cells25)
  refine ⟨own, high, A, n, c, xs, ?_, hS, hm, hr, h1, h2⟩
  have e' : [c0] ++ [c1] ++ [c2] = [Value.int .i64 own, .int .i64 high, .slice A n c] := by
    rw [← e]; simp [Value.cells]
  simp at e'
  obtain ⟨rfl, rfl, rfl⟩ := e'
  rfl
end
end Go.Proofs.Ythicofdbcldpaaa
