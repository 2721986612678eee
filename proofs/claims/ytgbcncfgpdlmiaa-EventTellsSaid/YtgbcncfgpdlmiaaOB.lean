/- Events as arguments, with their ranges; places as an argument. -/
import Derived.Test.YtgbcncfgpdlmiaaOA
namespace Go.Proofs.Ytgbcncfgpdlmiaa
open Go.ChangeShapes Go.WideShapes Go.ChangeAt Go.RowKit Go.Maps Go.Deep Go.Joins
set_option linter.unusedVariables false
set_option linter.unusedSimpArgs false

theorem rg_u8 {x : Int} (h : (Lit.int .u8 x).wf = true) : 0 ≤ x ∧ x ≤ 255 := by
  simp only [Lit.wf, Bool.and_eq_true, decide_eq_true_eq] at h
  exact ⟨h.1, h.2⟩
theorem rg_i64 {x : Int} (h : (Lit.int .i64 x).wf = true) : -9223372036854775808 ≤ x ∧ x ≤ 9223372036854775807 := by
  simp only [Lit.wf, Bool.and_eq_true, decide_eq_true_eq] at h
  exact ⟨h.1, h.2⟩
/-- an event's numbers are in their ranges -/
def ROkE (r : RE) : Prop := (0 ≤ r.1.1 ∧ r.1.1 ≤ 255) ∧ (-9223372036854775808 ≤ r.1.2.2.1 ∧ r.1.2.2.1 ≤ 9223372036854775807)
theorem cls88 : Try.prog.cellsOf 88 = 2 := by kernel_rfl
section
variable {H : Type} {enc : TypeId × Value → H} {W : World}
theorem ev_read2 {base : Nat} {spare : Nat → Bool} {held : Bool} {fuel : Nat} {cs : List Value} {x : DataW H × List MemPlace} (h : DataW.trod enc Try.prog W base spare held fuel 40 cs = some x) : ∃ r : RE, cs = evc r ∧ (PO W r.2 r.1.2.2.2.2.2.2 ∧ ROkE r) := by
  obtain ⟨y0, y1, y2, y3, n, hx, hl, h0, h1, h2, h3⟩ := trod_struct4 Try.underlying40 h
  obtain ⟨c0, c1, c2, c3, c4, c5, c6, rfl⟩ := list7 (hl.trans cls40)
  simp only [cls3, cls5, cls31] at h0 h1 h2 h3
  obtain ⟨a, e0, _, w0⟩ := DataW.trod_int Try.underlying5 h0
  obtain ⟨b, e1, _, _⟩ := DataW.trod_int Try.underlying3 h1
  obtain ⟨c, e2, _, w2⟩ := DataW.trod_int Try.underlying3 h2
  obtain ⟨er, fo, va, hd, ps, e3, hp⟩ := an_read h3
  simp at e0 e1 e2 e3
  obtain ⟨rfl, rfl, rfl, rfl⟩ := e3
  subst e0 e1 e2
  exact ⟨((a, b, c, er, fo, va, ps), hd), rfl, hp, rg_u8 w0, rg_i64 w2⟩
theorem pl_read {base : Nat} {spare : Nat → Bool} {held : Bool} {fuel : Nat} {cs : List Value} {x : DataW H × List MemPlace} (h : DataW.trod enc Try.prog W base spare held fuel 88 cs = some x) : ∃ p : Pl, cs = plc p ∧ True := by
  obtain ⟨y0, y1, n, hx, hl, h0, h1⟩ := trod_struct2 Try.underlying88 h
  obtain ⟨c0, c1, rfl⟩ := list2 (hl.trans cls88)
  simp only [cls3] at h0 h1
  obtain ⟨a, e0, _, _⟩ := DataW.trod_int Try.underlying3 h0
  obtain ⟨b, e1, _, _⟩ := DataW.trod_int Try.underlying3 h1
  simp at e0 e1
  subst e0 e1
  exact ⟨(a, b), rfl, trivial⟩
set_option maxRecDepth 100000 in
theorem open_events2 {base : Nat} {v : Value} {d : DataW H} {ps : List MemPlace} (hval : Value.okWide Try.prog W .any base 32 v) (h : DataW.Trod enc Try.prog W 0 (fun _ => true) true 32 v d ps) :
    ∃ A n c Rs, v = .slice A n c ∧ EvS W A n Rs ∧ (∀ r ∈ Rs, ROkE r) ∧ n ≤ maxLen ∧ n ≤ c ∧ (A = none → n = 0 ∧ c = 0) := by
  obtain ⟨A, n, c, rfl⟩ := okWide_slice Try.underlying32 hval
  obtain ⟨fuel, hf⟩ := h
  obtain ⟨A', n', c', L, e, hr, hq, h1, h2, h3⟩ := open_row (cenc := evc) (Q := fun r => PO W r.2 r.1.2.2.2.2.2.2 ∧ ROkE r) Try.underlying32 cls40 (by decide) evc_len ev_read2 hf
  simp [Value.cells] at e
  obtain ⟨rfl, rfl, rfl⟩ := e
  exact ⟨A, n, c, L, rfl, ⟨hr, fun r hr => (hq r hr).1⟩, fun r hr => (hq r hr).2, h1, h2, h3⟩
set_option maxRecDepth 100000 in
theorem open_places {base : Nat} {v : Value} {d : DataW H} {ps : List MemPlace} (hval : Value.okWide Try.prog W .any base 58 v) (h : DataW.Trod enc Try.prog W 0 (fun _ => true) true 58 v d ps) :
    ∃ A n c P, v = .slice A n c ∧ RSl plc 2 W A n P ∧ n ≤ maxLen ∧ n ≤ c ∧ (A = none → n = 0 ∧ c = 0) := by
  obtain ⟨A, n, c, rfl⟩ := okWide_slice Try.underlying58 hval
  obtain ⟨fuel, hf⟩ := h
  obtain ⟨A', n', c', L, e, hr, hq, h1, h2, h3⟩ := open_row (cenc := plc) (Q := fun _ => True) Try.underlying58 cls88 (by decide) plc_len pl_read hf
  simp [Value.cells] at e
  obtain ⟨rfl, rfl, rfl⟩ := e
  exact ⟨A, n, c, L, rfl, hr, h1, h2, h3⟩
end
end Go.Proofs.Ytgbcncfgpdlmiaa
