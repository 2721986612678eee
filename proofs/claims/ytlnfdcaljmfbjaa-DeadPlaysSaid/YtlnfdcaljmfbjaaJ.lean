/- Steps as a law is handed them. -/
import Derived.Test.YtlnfdcaljmfbjaaI
import Derived.Test.YtlnfdcaljmfbjaaLF
import Derived.Deep.Slices
import Derived.SliceStrings
import Derived.ChangeMaps5
import Derived.Lib.SmallJoins
namespace Go.Proofs.Ytlnfdcaljmfbjaa
open Go.ChangeShapes Go.WideShapes Go.ChangeAt Go.RowKit Go.Maps Go.Deep Go.Joins Go.ChangeMaps
set_option linter.unusedVariables false
set_option linter.unusedSimpArgs false

/-- a step: what, of which -/
abbrev Stp := Int × Int
abbrev stp0 : Stp := (0, 0)
def Steps (n₀ : Nat) (W : World) (A : Option Addr) (n : Nat) (S : List Stp) : Prop :=
  S.length = n ∧ (0 < n → ∃ g off, A = some ⟨g, off, none⟩ ∧ g < n₀ ∧ ∀ j, j < n → W.cell? ⟨g, off + j * 2, none⟩ = some (.int .u8 (S.getD j stp0).1) ∧ W.cell? ⟨g, off + j * 2 + 1, none⟩ = some (.int .i64 (S.getD j stp0).2) ∧ (Lit.int .i64 (S.getD j stp0).2).wf = true)
theorem Steps.later {W W' : World} {A : Option Addr} {n : Nat} {S : List Stp} (h : Steps W.heap.size W A n S) (hb : Below W.heap.size W W') : Steps W'.heap.size W' A n S :=
  ⟨h.1, fun hn => by
    obtain ⟨g, off, hA, hg, hc⟩ := h.2 hn
    exact ⟨g, off, hA, Nat.lt_of_lt_of_le hg hb.size, fun j hj => ⟨(hb.cell (p := ⟨g, off + j * 2, none⟩) hg).trans (hc j hj).1, (hb.cell (p := ⟨g, off + j * 2 + 1, none⟩) hg).trans (hc j hj).2.1, (hc j hj).2.2⟩⟩⟩
theorem sindex (g off m c k : Nat) (i : Int) (hi : i = (k : Int)) (h : k < m) (W : World) : (Instr.indexAt 32 (.slice (some ⟨g, off, none⟩) m c) (.int .i64 i)).run Try.prog W = .ok (.pointer (some ⟨g, off + k * 2, none⟩)) W := by
  subst hi
  have h1 : (0 : Int) ≤ (k : Int) ∧ (k : Int) < (m : Int) := by omega
  go_simp
theorem u36 : ∃ f0 f1 : Field, Try.prog.underlying 36 = some (.struct #[f0, f1]) ∧ f0.type = 5 ∧ f1.type = 3 ∧ f0.offset = 0 ∧ f1.offset = 1 :=
  ⟨_, _, Try.underlying36, rfl, rfl, rfl, rfl⟩
theorem cells36 : Try.prog.cellsOf 36 = 2 := by kernel_rfl
theorem cells3 : Try.prog.cellsOf 3 = 1 := by kernel_rfl
theorem cells5 : Try.prog.cellsOf 5 = 1 := by kernel_rfl
theorem list2 {α : Type} {l : List α} (h : l.length = 2) : ∃ a b, l = [a, b] := by
  match l, h with
  | [a, b], _ => exact ⟨a, b, rfl⟩
section
variable {H : Type} {enc : TypeId × Value → H}
theorem stp_read {W : World} {base : Nat} {spare : Nat → Bool} {held : Bool} {fuel : Nat} {cs : List Value} {x : DataW H × List MemPlace} (h : DataW.trod enc Try.prog W base spare held fuel 36 cs = some x) :
    ∃ v : Stp, cs = [.int .u8 v.1, .int .i64 v.2] ∧ (Lit.int .i64 v.2).wf = true := by
  obtain ⟨f0, f1, hu, t0, t1, o0, o1⟩ := u36
  obtain ⟨y0, y1, n, hx, hl, h0, h1⟩ := trod_struct2 hu h
  obtain ⟨c0, c1, rfl⟩ := list2 (hl.trans cells36)
  rw [t0, o0, cells5] at h0
  rw [t1, o1, cells3] at h1
  obtain ⟨a, e0, _, _⟩ := DataW.trod_int Try.underlying5 h0
  obtain ⟨b, e1, _, w1⟩ := DataW.trod_int Try.underlying3 h1
  simp at e0 e1
  subst e0 e1
  exact ⟨(a, b), rfl, w1⟩
theorem open_steps {W : World} {base : Nat} {v : Value} {d : DataW H} {ps : List MemPlace}
    (hval : Value.okWide Try.prog W .any base 32 v) (h : DataW.Trod enc Try.prog W 0 (fun _ => true) true 32 v d ps) :
    ∃ A n c S, v = .slice A n c ∧ Steps W.heap.size W A n S ∧ n ≤ maxLen := by
  obtain ⟨A, n, c, rfl⟩ := okWide_slice Try.underlying32 hval
  obtain ⟨fuel, hf⟩ := h
  rcases open_slice Try.underlying32 hf with ⟨hcs, _⟩ | ⟨a, len, cap, m, n1, D, Pl, hcs, hb, hl, hm, hmm, hx, hi⟩
  · simp [Value.cells] at hcs
    obtain ⟨rfl, rfl, rfl⟩ := hcs
    exact ⟨none, 0, 0, [], rfl, ⟨rfl, fun h => by omega⟩, Nat.zero_le _⟩
  · simp [Value.cells] at hcs
    obtain ⟨rfl, rfl, rfl⟩ := hcs
    simp only [if_true] at hmm
    subst hmm
    have hone : ∀ i, i < n → ∃ v : Stp, (∀ j, j < 2 → W.cell? (a.add (i * 2 + j)) = [Value.int .u8 v.1, .int .i64 v.2][j]?) ∧ (Lit.int .i64 v.2).wf = true := fun i hin => by
      obtain ⟨cs', hc, ht⟩ := hi i (by omega)
      rw [cells36] at hc
      obtain ⟨v, rfl, hw⟩ := stp_read ht
      obtain ⟨_, _, hat⟩ := World.cells?_some hc
      exact ⟨v, fun j hj => by rw [← Go.Deep.add_add]; exact hat j hj, hw⟩
    obtain ⟨f, hf'⟩ := choose_lt hone
    have hgd : ∀ j, j < n → ((List.range n).map f).getD j stp0 = f j := fun j hj => by
      simp [List.getD_eq_getElem?_getD, hj]
    refine ⟨some a, n, m, (List.range n).map f, rfl, ⟨by simp, fun hn => ?_⟩, by omega⟩
    obtain ⟨b, off, spot⟩ := a
    have h0 := (hf' 0 hn).1 0 (by omega)
    have hspot : spot = none := by simpa [Addr.add] using World.cell?_spot (v := .int .u8 (f 0).1) h0
    subst hspot
    have hlt : b < W.heap.size := by
      by_cases hge : b < W.heap.size
      · exact hge
      · have : W.heap[b]? = none := Array.getElem?_eq_none (by omega)
        simp [World.cell?, Addr.add, this] at h0
    refine ⟨b, off, rfl, hlt, fun j hj => ?_⟩
    rw [hgd j hj]
    have e0 := (hf' j hj).1 0 (by omega)
    have e1 := (hf' j hj).1 1 (by omega)
    rw [add_plain] at e0 e1
    exact ⟨e0, e1, (hf' j hj).2⟩
end
end Go.Proofs.Ytlnfdcaljmfbjaa
