/- Steps as a law is handed them; the table as the row lays it. -/
import Derived.Test.YtmkgipbepipjkaaDoorJ
import Derived.Test.YtmkgipbepipjkaaDoorLF
import Derived.Deep.Slices
import Derived.SliceStrings
import Derived.ChangeMaps5
import Derived.Lib.SmallJoins
import Derived.Lib.LaidTab
import Derived.MakeChecks
namespace Go.Proofs.YtmkgipbepipjkaaDoor
open Go.ChangeShapes Go.WideShapes Go.ChangeAt Go.RowKit Go.Deep Go.Joins Go.ChangeMaps
set_option linter.unusedVariables false
set_option linter.unusedSimpArgs false
/-- a step: what, which writer, the timestamp -/
abbrev Stp := Int × Int × Int
abbrev stp0 : Stp := (0, 0, 0)
/-- a slice that reads as steps -/
def Steps (n₀ : Nat) (W : World) (A : Option Addr) (n : Nat) (S : List Stp) : Prop :=
  S.length = n ∧ (0 < n → ∃ g off, A = some ⟨g, off, none⟩ ∧ g < n₀ ∧ ∀ j, j < n → W.cell? ⟨g, off + j * 3, none⟩ = some (.int .u8 (S.getD j stp0).1) ∧ W.cell? ⟨g, off + j * 3 + 1, none⟩ = some (.int .i64 (S.getD j stp0).2.1) ∧ W.cell? ⟨g, off + j * 3 + 1 + 1, none⟩ = some (.int .i64 (S.getD j stp0).2.2))
theorem Steps.later {W W' : World} {A : Option Addr} {n : Nat} {S : List Stp} (h : Steps W.heap.size W A n S) (hb : Below W.heap.size W W') : Steps W'.heap.size W' A n S :=
  ⟨h.1, fun hn => by
    obtain ⟨g, off, hA, hg, hc⟩ := h.2 hn
    exact ⟨g, off, hA, Nat.lt_of_lt_of_le hg hb.size, fun j hj => ⟨(hb.cell (p := ⟨g, off + j * 3, none⟩) hg).trans (hc j hj).1, (hb.cell (p := ⟨g, off + j * 3 + 1, none⟩) hg).trans (hc j hj).2.1, (hb.cell (p := ⟨g, off + j * 3 + 1 + 1, none⟩) hg).trans (hc j hj).2.2⟩⟩⟩
theorem sindex (g off m c k : Nat) (i : Int) (hi : i = (k : Int)) (h : k < m) (W : World) : (Instr.indexAt 32 (.slice (some ⟨g, off, none⟩) m c) (.int .i64 i)).run Tryd.prog W = .ok (.pointer (some ⟨g, off + k * 3, none⟩)) W := by
  subst hi
  have h1 : (0 : Int) ≤ (k : Int) ∧ (k : Int) < (m : Int) := by omega
  go_simp
theorem u36 : ∃ f0 f1 f2 : Field, Tryd.prog.underlying 36 = some (.struct #[f0, f1, f2]) ∧ f0.type = 5 ∧ f1.type = 3 ∧ f2.type = 3 ∧ f0.offset = 0 ∧ f1.offset = 1 ∧ f2.offset = 2 :=
  ⟨_, _, _, Tryd.underlying36, rfl, rfl, rfl, rfl, rfl, rfl⟩
theorem cells36 : Tryd.prog.cellsOf 36 = 3 := by kernel_rfl
theorem cells3 : Tryd.prog.cellsOf 3 = 1 := by kernel_rfl
theorem cells5 : Tryd.prog.cellsOf 5 = 1 := by kernel_rfl
theorem list3 {α : Type} {l : List α} (h : l.length = 3) : ∃ a b c, l = [a, b, c] := by
  match l, h with
  | [a, b, c], _ => exact ⟨a, b, c, rfl⟩
section
variable {H : Type} {enc : TypeId × Value → H}
theorem stp_read {W : World} {base : Nat} {spare : Nat → Bool} {held : Bool} {fuel : Nat} {cs : List Value} {x : DataW H × List MemPlace} (h : DataW.trod enc Tryd.prog W base spare held fuel 36 cs = some x) :
    ∃ v : Stp, cs = [.int .u8 v.1, .int .i64 v.2.1, .int .i64 v.2.2] := by
  obtain ⟨f0, f1, f2, hu, t0, t1, t2, o0, o1, o2⟩ := u36
  obtain ⟨y0, y1, y2, n, hx, hl, h0, h1, h2⟩ := trod_struct3 hu h
  obtain ⟨c0, c1, c2, rfl⟩ := list3 (hl.trans cells36)
  rw [t0, o0, cells5] at h0
  rw [t1, o1, cells3] at h1
  rw [t2, o2, cells3] at h2
  obtain ⟨a, e0, _, _⟩ := DataW.trod_int Tryd.underlying5 h0
  obtain ⟨b, e1, _, _⟩ := DataW.trod_int Tryd.underlying3 h1
  obtain ⟨c, e2, _, _⟩ := DataW.trod_int Tryd.underlying3 h2
  simp at e0 e1 e2
  subst e0 e1 e2
  exact ⟨(a, b, c), rfl⟩
theorem open_steps {W : World} {base : Nat} {v : Value} {d : DataW H} {ps : List MemPlace}
    (hval : Value.okWide Tryd.prog W .any base 32 v) (h : DataW.Trod enc Tryd.prog W 0 (fun _ => true) true 32 v d ps) :
    ∃ A n c S, v = .slice A n c ∧ Steps W.heap.size W A n S ∧ n ≤ maxLen := by
  obtain ⟨A, n, c, rfl⟩ := okWide_slice Tryd.underlying32 hval
  obtain ⟨fuel, hf⟩ := h
  rcases open_slice Tryd.underlying32 hf with ⟨hcs, _⟩ | ⟨a, len, cap, m, n1, D, Pl, hcs, hb, hl, hm, hmm, hx, hi⟩
  · simp [Value.cells] at hcs
    obtain ⟨rfl, rfl, rfl⟩ := hcs
    exact ⟨none, 0, 0, [], rfl, ⟨rfl, fun h => by omega⟩, Nat.zero_le _⟩
  · simp [Value.cells] at hcs
    obtain ⟨rfl, rfl, rfl⟩ := hcs
    simp only [if_true] at hmm
    subst hmm
    have hone : ∀ i, i < n → ∃ v : Stp, ∀ j, j < 3 → W.cell? (a.add (i * 3 + j)) = [Value.int .u8 v.1, .int .i64 v.2.1, .int .i64 v.2.2][j]? := fun i hin => by
      obtain ⟨cs', hc, ht⟩ := hi i (by omega)
      rw [cells36] at hc
      obtain ⟨v, rfl⟩ := stp_read ht
      obtain ⟨_, _, hat⟩ := World.cells?_some hc
      exact ⟨v, fun j hj => by rw [← Go.Deep.add_add]; exact hat j hj⟩
    obtain ⟨f, hf'⟩ := choose_lt hone
    have hgd : ∀ j, j < n → ((List.range n).map f).getD j stp0 = f j := fun j hj => by
      simp [List.getD_eq_getElem?_getD, hj]
    refine ⟨some a, n, m, (List.range n).map f, rfl, ⟨by simp, fun hn => ?_⟩, by omega⟩
    obtain ⟨b, off, spot⟩ := a
    have h0 := hf' 0 hn 0 (by omega)
    have hspot : spot = none := by simpa [Addr.add] using World.cell?_spot (v := .int .u8 (f 0).1) h0
    subst hspot
    have hlt : b < W.heap.size := by
      by_cases hge : b < W.heap.size
      · exact hge
      · have : W.heap[b]? = none := Array.getElem?_eq_none (by omega)
        simp [World.cell?, Addr.add, this] at h0
    refine ⟨b, off, rfl, hlt, fun j hj => ?_⟩
    rw [hgd j hj]
    have e0 := hf' j hj 0 (by omega)
    have e1 := hf' j hj 1 (by omega)
    have e2 := hf' j hj 2 (by omega)
    rw [add_plain] at e0 e1 e2
    exact ⟨e0, e1, e2⟩
end
theorem tab_of_laid {W : World} (h : laidMetH Tryd.prog [("ferryman/status.become", Rows.laid_ferryman_status_become)] W) : TabAt W := by
  rw [MakeChecks.laidMetH_plain _ _ _ (by kernel_rfl)] at h
  have h' : laidMet Tryd.prog [("ferryman/status.become", Lib.tabData .u8 [0, 12, 16, 0, 0])] W := h
  have hT := Lib.tabIs_of_head (k := .u8) (g := 0) (t := 61) (e := 5) (n := 5) (by kernel_rfl) (by kernel_rfl) Tryd.underlying61 Tryd.underlying5 cells5 (by kernel_rfl) h'
  have c := fun i hi => hT.cell (g := 0) (by kernel_rfl) i hi
  exact ⟨c 0 (by decide), c 1 (by decide), c 2 (by decide), c 3 (by decide), c 4 (by decide)⟩
end Go.Proofs.YtmkgipbepipjkaaDoor
