/- Numbers, texts, rows of numbers, answers as arguments. -/
import Derived.Test.YtkgdmdcnhbaidaaDoorOC
import Derived.Test.YtkgdmdcnhbaidaaDoorWI
import Derived.Test.YtkgdmdcnhbaidaaDoorX
namespace Go.Proofs.YtkgdmdcnhbaidaaDoor
open Go.ChangeShapes Go.WideShapes Go.ChangeAt Go.RowKit Go.Maps Go.Deep Go.Joins Go.ChangeMaps
set_option linter.unusedVariables false
set_option linter.unusedSimpArgs false

theorem cls26 : Tryd.prog.cellsOf 26 = 1 := by kernel_rfl
theorem cls4 : Tryd.prog.cellsOf 4 = 1 := by kernel_rfl
theorem cls35 : Tryd.prog.cellsOf 35 = 1 := by kernel_rfl
theorem cls37 : Tryd.prog.cellsOf 37 = 4 := by kernel_rfl
theorem cls42 : Tryd.prog.cellsOf 42 = 2 := by kernel_rfl
theorem list2_ {α : Type} {l : List α} (h : l.length = 2) : ∃ a b, l = [a, b] := by
  match l, h with
  | [a, b], _ => exact ⟨a, b, rfl⟩
theorem list4_ {α : Type} {l : List α} (h : l.length = 4) : ∃ a b c d, l = [a, b, c, d] := by
  match l, h with
  | [a, b, c, d], _ => exact ⟨a, b, c, d, rfl⟩
def nmc (x : Int) : List Value := [.int .i64 x]
theorem nmc_len (x : Int) : (nmc x).length = 1 := rfl
def inI (x : Int) : Prop := -9223372036854775808 ≤ x ∧ x ≤ 9223372036854775807
section
variable {H : Type} {enc : TypeId × Value → H} {W : World}
set_option maxRecDepth 100000 in
theorem open_i64 {base : Nat} {v : Value} {d : DataW H} {ps : List MemPlace} (hval : Value.okWide Tryd.prog W .any base 3 v) (h : DataW.Trod enc Tryd.prog W 0 (fun _ => true) true 3 v d ps) : ∃ n : Int, v = .int .i64 n ∧ inI n := by
  obtain ⟨n, rfl, _, _, hw⟩ := open_int Tryd.underlying3 hval h
  exact ⟨n, rfl, rgI hw⟩
set_option maxRecDepth 100000 in
theorem open_str {base : Nat} {v : Value} {d : DataW H} {ps : List MemPlace} (hval : Value.okWide Tryd.prog W .any base 9 v) (h : DataW.Trod enc Tryd.prog W 0 (fun _ => true) true 9 v d ps) : ∃ s : ByteArray, v = .string s ∧ s.size ≤ maxLen := by
  obtain ⟨s, rfl, _, _, hs⟩ := open_string Tryd.underlying9 hval h
  exact ⟨s, rfl, hs⟩
section
variable {base : Nat} {spare : Nat → Bool} {held : Bool} {fuel : Nat} {cs : List Value} {x : DataW H × List MemPlace}
theorem pr_read (h : DataW.trod enc Tryd.prog W base spare held fuel 42 cs = some x) : ∃ p : Pr, cs = pvc p ∧ True := by
  obtain ⟨y0, y1, n, hx, hl, h0, h1⟩ := trod_struct2 Tryd.underlying42 h
  obtain ⟨c0, c1, rfl⟩ := list2_ (hl.trans cls42)
  simp only [cls9] at h0 h1
  obtain ⟨a, e0, _, _⟩ := DataW.trod_string Tryd.underlying9 h0
  obtain ⟨b, e1, _, _⟩ := DataW.trod_string Tryd.underlying9 h1
  simp at e0 e1
  subst e0 e1
  exact ⟨(a, b), rfl, trivial⟩
set_option maxRecDepth 100000 in
theorem nm_read (h : DataW.trod enc Tryd.prog W base spare held fuel 3 cs = some x) : ∃ p : Int, cs = nmc p ∧ inI p := by
  obtain ⟨a, e0, _, hw⟩ := DataW.trod_int Tryd.underlying3 h
  exact ⟨a, e0, rgI hw⟩
set_option maxRecDepth 100000 in
theorem an_read (h : DataW.trod enc Tryd.prog W base spare held fuel 37 cs = some x) : ∃ (a : As) (A : Option Addr) (n c : Nat), cs = [.int .i64 a.1, .bool a.2.1, .string a.2.2.1, .slice A n c] ∧ inI a.1 ∧ RSl pvc 2 W A n a.2.2.2 ∧ n ≤ maxLen := by
  obtain ⟨y0, y1, y2, y3, n, hx, hl, h0, h1, h2, h3⟩ := trod_struct4 Tryd.underlying37 h
  obtain ⟨c0, c1, c2, c3, rfl⟩ := list4_ (hl.trans cls37)
  simp only [cls26, cls4, cls9, cls35] at h0 h1 h2 h3
  obtain ⟨a, e0, _, w0⟩ := DataW.trod_int Tryd.underlying26 h0
  obtain ⟨b, e1, _⟩ := DataW.trod_bool Tryd.underlying4 h1
  obtain ⟨c, e2, _, _⟩ := DataW.trod_string Tryd.underlying9 h2
  obtain ⟨A, m, d, L, e3, hr, _, hm, hle, hnil⟩ := open_row (cenc := pvc) (Q := fun _ => True) Tryd.underlying35 cls42 (by decide) pvc_len pr_read h3
  simp at e0 e1 e2 e3
  subst e0 e1 e2 e3
  exact ⟨(a, b, c, L), A, m, d, rfl, rgI w0, hr, hm⟩
end
set_option maxRecDepth 100000 in
theorem open_ans {base : Nat} {v : Value} {d : DataW H} {ps : List MemPlace} (hval : Value.okWide Tryd.prog W .any base 37 v) (h : DataW.Trod enc Tryd.prog W 0 (fun _ => true) true 37 v d ps) : ∃ (a : As) (A : Option Addr) (n c : Nat), v = .agg #[.int .i64 a.1, .bool a.2.1, .string a.2.2.1, .slice A n c] ∧ inI a.1 ∧ (RSl pvc 2 W A n a.2.2.2 ∧ n ≤ maxLen) := by
  obtain ⟨cs, rfl, hsz⟩ := okWide_struct Tryd.underlying37 hval
  obtain ⟨fuel, hf⟩ := h
  obtain ⟨a, A, n, c, e, h1, h2, h3⟩ := an_read hf
  refine ⟨a, A, n, c, ?_, h1, h2, h3⟩
  have hcs : cs = #[.int .i64 a.1, .bool a.2.1, .string a.2.2.1, .slice A n c] := by
    apply Array.toList_inj.1
    simpa [Value.cells] using e
  rw [hcs]
set_option maxRecDepth 100000 in
theorem open_ints_ {base : Nat} {v : Value} {d : DataW H} {ps : List MemPlace} (hval : Value.okWide Tryd.prog W .any base 55 v) (h : DataW.Trod enc Tryd.prog W 0 (fun _ => true) true 55 v d ps) :
    ∃ A n c L, v = .slice A n c ∧ (RSl nmc 1 W A n L ∧ n ≤ maxLen ∧ (A = none → n = 0 ∧ c = 0)) ∧ (∀ r ∈ L, inI r) := by
  obtain ⟨A, n, c, rfl⟩ := okWide_slice Tryd.underlying55 hval
  obtain ⟨fuel, hf⟩ := h
  obtain ⟨A', n', c', L, e, hr, hq, h1, h2, h3⟩ := open_row (cenc := nmc) (Q := inI) Tryd.underlying55 cls3 (by decide) nmc_len nm_read hf
  simp [Value.cells] at e
  obtain ⟨rfl, rfl, rfl⟩ := e
  exact ⟨A, n, c, L, rfl, ⟨hr, h1, h3⟩, hq⟩
end
end Go.Proofs.YtkgdmdcnhbaidaaDoor
