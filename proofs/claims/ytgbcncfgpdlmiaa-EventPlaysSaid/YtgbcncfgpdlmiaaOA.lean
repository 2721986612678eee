/- Events and steps as arguments. -/
import Derived.Test.YtgbcncfgpdlmiaaNN
import Derived.Test.YtgbcncfgpdlmiaaLF
import Derived.Deep.Slices
import Derived.Deep.Strs
import Derived.ChangeSame
import Derived.ChangeMaps5
import Derived.Lib.SmallJoins
namespace Go.Proofs.Ytgbcncfgpdlmiaa
open Go.ChangeShapes Go.WideShapes Go.ChangeAt Go.RowKit Go.Maps Go.Deep Go.Joins
set_option linter.unusedVariables false
set_option linter.unusedSimpArgs false

/-- a step: what, whose, the answer -/
abbrev SE := (Int × Int × An) × Hd
def stc (s : SE) : List Value := [.int .u8 s.1.1, .int .i64 s.1.2.1, .int .i64 s.1.2.2.1, .bool s.1.2.2.2.1, .string s.1.2.2.2.2.1, hdv s.2]
theorem stc_len (s : SE) : (stc s).length = 6 := rfl
structure StS (W : World) (A : Option Addr) (n : Nat) (Ss : List SE) : Prop where
  rd : RSl stc 6 W A n Ss
  po : ∀ s ∈ Ss, PO W s.2 s.1.2.2.2.2.2
theorem StS.later {W W' : World} {A : Option Addr} {n : Nat} {Ss : List SE} (k : StS W A n Ss) (hb : Below W.heap.size W W') : StS W' A n Ss := ⟨k.rd.later hb, fun r hr => (k.po r hr).later hb⟩
theorem list2 {α : Type} {l : List α} (h : l.length = 2) : ∃ a b, l = [a, b] := by
  match l, h with
  | [a, b], _ => exact ⟨a, b, rfl⟩
theorem list4 {α : Type} {l : List α} (h : l.length = 4) : ∃ a b c d, l = [a, b, c, d] := by
  match l, h with
  | [a, b, c, d], _ => exact ⟨a, b, c, d, rfl⟩
theorem list6 {α : Type} {l : List α} (h : l.length = 6) : ∃ a b c d e f, l = [a, b, c, d, e, f] := by
  match l, h with
  | [a, b, c, d, e, f], _ => exact ⟨a, b, c, d, e, f, rfl⟩
theorem list7 {α : Type} {l : List α} (h : l.length = 7) : ∃ a b c d e f g, l = [a, b, c, d, e, f, g] := by
  match l, h with
  | [a, b, c, d, e, f, g], _ => exact ⟨a, b, c, d, e, f, g, rfl⟩
theorem cls3 : Try.prog.cellsOf 3 = 1 := by kernel_rfl
theorem cls4 : Try.prog.cellsOf 4 = 1 := by kernel_rfl
theorem cls5 : Try.prog.cellsOf 5 = 1 := by kernel_rfl
theorem cls9 : Try.prog.cellsOf 9 = 1 := by kernel_rfl
theorem cls26 : Try.prog.cellsOf 26 = 1 := by kernel_rfl
theorem cls29 : Try.prog.cellsOf 29 = 1 := by kernel_rfl
theorem cls31 : Try.prog.cellsOf 31 = 4 := by kernel_rfl
theorem cls40 : Try.prog.cellsOf 40 = 7 := by kernel_rfl
theorem cls50 : Try.prog.cellsOf 50 = 6 := by kernel_rfl
theorem cls53 : Try.prog.cellsOf 53 = 2 := by kernel_rfl
section
variable {H : Type} {enc : TypeId × Value → H} {W : World}
theorem open_row {α : Type} {cenc : α → List Value} {k : Nat} {t e : TypeId} {Q : α → Prop} {base : Nat} {spare : Nat → Bool} {held : Bool} {fuel : Nat} {cs : List Value} {x : DataW H × List MemPlace} (ht : Try.prog.underlying t = some (.slice e)) (hc : Try.prog.cellsOf e = k) (hk : 0 < k) (hl : ∀ x, (cenc x).length = k)
    (read : ∀ {fuel cs x}, DataW.trod enc Try.prog W base spare held fuel e cs = some x → ∃ v : α, cs = cenc v ∧ Q v)
    (h : DataW.trod enc Try.prog W base spare held fuel t cs = some x) : ∃ A n c L, cs = [.slice A n c] ∧ RSl cenc k W A n L ∧ (∀ r ∈ L, Q r) ∧ n ≤ maxLen ∧ n ≤ c ∧ (A = none → n = 0 ∧ c = 0) := by
  rcases open_slice ht h with ⟨rfl, _⟩ | ⟨a, n, cap, m, n1, D, Pl, rfl, hb, hln, hm, hmm, hx, hi⟩
  · exact ⟨none, 0, 0, [], rfl, RSl.nil W none, fun r hr => (nomatch hr), Nat.zero_le _, Nat.le_refl _, fun _ => ⟨rfl, rfl⟩⟩
  · have hnm : n ≤ m := by rw [hmm]; split <;> omega
    have hone : ∀ i, i < n → ∃ v : α, (∀ j, j < k → W.cell? (a.add (i * k + j)) = (cenc v)[j]?) ∧ Q v := fun i hin => by
      obtain ⟨cs', hc1, ht1⟩ := hi i (by omega)
      rw [hc] at hc1
      obtain ⟨v, rfl, hw⟩ := read ht1
      obtain ⟨_, _, hat⟩ := World.cells?_some hc1
      exact ⟨v, fun j hj => by rw [← Go.Deep.add_add]; exact hat j hj, hw⟩
    obtain ⟨f, hf'⟩ : ∃ f : Fin n → α, ∀ i : Fin n, (∀ j, j < k → W.cell? (a.add (i.1 * k + j)) = (cenc (f i))[j]?) ∧ Q (f i) :=
      ⟨fun i => (hone i.1 i.2).choose, fun i => (hone i.1 i.2).choose_spec⟩
    have hget : ∀ (j : Nat) (x : α), (List.ofFn f)[j]? = some x → ∃ h : j < n, f ⟨j, h⟩ = x := fun j x e => by
      rw [List.getElem?_ofFn] at e
      split at e
      · rename_i h
        exact ⟨h, Option.some.inj e⟩
      · cases e
    refine ⟨some a, n, cap, List.ofFn f, rfl, ⟨by simp, fun hn => ?_⟩, fun r hr => ?_, by omega, by omega, fun h => by cases h⟩
    · obtain ⟨b, off, spot⟩ := a
      have h0 := (hf' ⟨0, hn⟩).1 0 hk
      have hlt0 : 0 < (cenc (f ⟨0, hn⟩)).length := by rw [hl]; exact hk
      rw [List.getElem?_eq_getElem hlt0] at h0
      have hspot : spot = none := by simpa [Addr.add] using World.cell?_spot h0
      subst hspot
      rw [add_plain] at h0
      refine ⟨b, off, rfl, lt_of_cell h0, fun j x e i hi => ?_⟩
      obtain ⟨hj, rfl⟩ := hget j x e
      have := (hf' ⟨j, hj⟩).1 i hi
      rw [add_plain] at this
      rw [← this, Nat.add_assoc]
    · obtain ⟨j, hj, e⟩ := List.getElem_of_mem hr
      obtain ⟨h2, rfl⟩ := hget j r (by rw [List.getElem?_eq_getElem hj, e])
      exact (hf' ⟨j, h2⟩).2
section
variable {base : Nat} {spare : Nat → Bool} {held : Bool} {fuel : Nat} {cs : List Value} {x : DataW H × List MemPlace}
theorem pr_read (h : DataW.trod enc Try.prog W base spare held fuel 53 cs = some x) : ∃ p : Pr, cs = prc p ∧ True := by
  obtain ⟨y0, y1, n, hx, hl, h0, h1⟩ := trod_struct2 Try.underlying53 h
  obtain ⟨c0, c1, rfl⟩ := list2 (hl.trans cls53)
  simp only [cls9] at h0 h1
  obtain ⟨a, e0, _, _⟩ := DataW.trod_string Try.underlying9 h0
  obtain ⟨b, e1, _, _⟩ := DataW.trod_string Try.underlying9 h1
  simp at e0 e1
  subst e0 e1
  exact ⟨(a, b), rfl, trivial⟩
theorem an_read (h : DataW.trod enc Try.prog W base spare held fuel 31 cs = some x) : ∃ (er : Int) (fo : Bool) (va : ByteArray) (hd : Hd) (ps : List Pr), cs = [.int .i64 er, .bool fo, .string va, hdv hd] ∧ PO W hd ps := by
  obtain ⟨y0, y1, y2, y3, n, hx, hl, h0, h1, h2, h3⟩ := trod_struct4 Try.underlying31 h
  obtain ⟨c0, c1, c2, c3, rfl⟩ := list4 (hl.trans cls31)
  simp only [cls26, cls4, cls9, cls29] at h0 h1 h2 h3
  obtain ⟨a, e0, _, _⟩ := DataW.trod_int Try.underlying26 h0
  obtain ⟨b, e1, _⟩ := DataW.trod_bool Try.underlying4 h1
  obtain ⟨c, e2, _, _⟩ := DataW.trod_string Try.underlying9 h2
  obtain ⟨A, m, d, L, e3, hr, _, _, hle, hnil⟩ := open_row (cenc := prc) (Q := fun _ => True) Try.underlying29 cls53 (by decide) prc_len pr_read h3
  simp at e0 e1 e2 e3
  subst e0 e1 e2 e3
  exact ⟨a, b, c, (A, m, d), L, rfl, hr, hle, hnil⟩
theorem ev_read (h : DataW.trod enc Try.prog W base spare held fuel 40 cs = some x) : ∃ r : RE, cs = evc r ∧ PO W r.2 r.1.2.2.2.2.2.2 := by
  obtain ⟨y0, y1, y2, y3, n, hx, hl, h0, h1, h2, h3⟩ := trod_struct4 Try.underlying40 h
  obtain ⟨c0, c1, c2, c3, c4, c5, c6, rfl⟩ := list7 (hl.trans cls40)
  simp only [cls3, cls5, cls31] at h0 h1 h2 h3
  obtain ⟨a, e0, _, _⟩ := DataW.trod_int Try.underlying5 h0
  obtain ⟨b, e1, _, _⟩ := DataW.trod_int Try.underlying3 h1
  obtain ⟨c, e2, _, _⟩ := DataW.trod_int Try.underlying3 h2
  obtain ⟨er, fo, va, hd, ps, e3, hp⟩ := an_read h3
  simp at e0 e1 e2 e3
  obtain ⟨rfl, rfl, rfl, rfl⟩ := e3
  subst e0 e1 e2
  exact ⟨((a, b, c, er, fo, va, ps), hd), rfl, hp⟩
theorem st_read (h : DataW.trod enc Try.prog W base spare held fuel 50 cs = some x) : ∃ r : SE, cs = stc r ∧ PO W r.2 r.1.2.2.2.2.2 := by
  obtain ⟨y0, y1, y2, n, hx, hl, h0, h1, h2⟩ := trod_struct3 Try.underlying50 h
  obtain ⟨c0, c1, c2, c3, c4, c5, rfl⟩ := list6 (hl.trans cls50)
  simp only [cls3, cls5, cls31] at h0 h1 h2
  obtain ⟨a, e0, _, _⟩ := DataW.trod_int Try.underlying5 h0
  obtain ⟨b, e1, _, _⟩ := DataW.trod_int Try.underlying3 h1
  obtain ⟨er, fo, va, hd, ps, e3, hp⟩ := an_read h2
  simp at e0 e1 e3
  obtain ⟨rfl, rfl, rfl, rfl⟩ := e3
  subst e0 e1
  exact ⟨((a, b, er, fo, va, ps), hd), rfl, hp⟩
end
set_option maxRecDepth 100000 in
theorem open_events {base : Nat} {v : Value} {d : DataW H} {ps : List MemPlace} (hval : Value.okWide Try.prog W .any base 32 v) (h : DataW.Trod enc Try.prog W 0 (fun _ => true) true 32 v d ps) :
    ∃ A n c Rs, v = .slice A n c ∧ EvS W A n Rs ∧ n ≤ maxLen ∧ n ≤ c ∧ (A = none → n = 0 ∧ c = 0) := by
  obtain ⟨A, n, c, rfl⟩ := okWide_slice Try.underlying32 hval
  obtain ⟨fuel, hf⟩ := h
  obtain ⟨A', n', c', L, e, hr, hq, h1, h2, h3⟩ := open_row (cenc := evc) (Q := fun r => PO W r.2 r.1.2.2.2.2.2.2) Try.underlying32 cls40 (by decide) evc_len ev_read hf
  simp [Value.cells] at e
  obtain ⟨rfl, rfl, rfl⟩ := e
  exact ⟨A, n, c, L, rfl, ⟨hr, hq⟩, h1, h2, h3⟩
set_option maxRecDepth 100000 in
theorem open_steps {base : Nat} {v : Value} {d : DataW H} {ps : List MemPlace} (hval : Value.okWide Try.prog W .any base 47 v) (h : DataW.Trod enc Try.prog W 0 (fun _ => true) true 47 v d ps) :
    ∃ A n c Ss, v = .slice A n c ∧ StS W A n Ss ∧ n ≤ maxLen ∧ n ≤ c ∧ (A = none → n = 0 ∧ c = 0) := by
  obtain ⟨A, n, c, rfl⟩ := okWide_slice Try.underlying47 hval
  obtain ⟨fuel, hf⟩ := h
  obtain ⟨A', n', c', L, e, hr, hq, h1, h2, h3⟩ := open_row (cenc := stc) (Q := fun r => PO W r.2 r.1.2.2.2.2.2) Try.underlying47 cls50 (by decide) stc_len st_read hf
  simp [Value.cells] at e
  obtain ⟨rfl, rfl, rfl⟩ := e
  exact ⟨A, n, c, L, rfl, ⟨hr, hq⟩, h1, h2, h3⟩
end
end Go.Proofs.Ytgbcncfgpdlmiaa
