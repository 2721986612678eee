/- Calls and configs as arguments. -/
import Derived.Test.YtkgdmdcnhbaidaaDoorLG
import Derived.Test.YtkgdmdcnhbaidaaDoorFI
import Derived.Test.YtkgdmdcnhbaidaaDoorLF
import Derived.Deep.Slices
import Derived.Deep.Strs
import Derived.ChangeSame
import Derived.ChangeMaps5
import Derived.Lib.SmallJoins
namespace Go.Proofs.YtkgdmdcnhbaidaaDoor
open Go.ChangeShapes Go.WideShapes Go.ChangeAt Go.RowKit Go.Maps Go.Deep Go.Joins Go.Maps
set_option linter.unusedVariables false
set_option linter.unusedSimpArgs false

/-- a call as it may come -/
def COk (x : Cl) : Prop := x.1 ≤ 255 ∧ x.2.2.2.2.2.2 ≤ 255 ∧ (-9223372036854775808 ≤ x.2.1 ∧ x.2.1 ≤ 9223372036854775807) ∧ (-9223372036854775808 ≤ x.2.2.2.2.2.1 ∧ x.2.2.2.2.2.1 ≤ 9223372036854775807) ∧ x.2.2.1.size ≤ maxLen ∧ x.2.2.2.1.size ≤ maxLen ∧ x.2.2.2.2.1.size ≤ maxLen
theorem cls3 : Tryd.prog.cellsOf 3 = 1 := by kernel_rfl
theorem cls5 : Tryd.prog.cellsOf 5 = 1 := by kernel_rfl
theorem cls9 : Tryd.prog.cellsOf 9 = 1 := by kernel_rfl
theorem cls24 : Tryd.prog.cellsOf 24 = 7 := by kernel_rfl
theorem cls52 : Tryd.prog.cellsOf 52 = 8 := by kernel_rfl
theorem list7 {α : Type} {l : List α} (h : l.length = 7) : ∃ a b c d e f g, l = [a, b, c, d, e, f, g] := by
  match l, h with
  | [a, b, c, d, e, f, g], _ => exact ⟨a, b, c, d, e, f, g, rfl⟩
theorem rg8 {n : Int} (h : (Lit.int .u8 n).wf = true) : 0 ≤ n ∧ n ≤ 255 := by
  simp only [Lit.wf, Bool.and_eq_true, decide_eq_true_eq] at h
  exact ⟨h.1, h.2⟩
theorem clE_len (x : Cl) : (clE x).length = 7 := rfl
theorem rgI {x : Int} (h : (Lit.int .i64 x).wf = true) : -9223372036854775808 ≤ x ∧ x ≤ 9223372036854775807 := by
  simp only [Lit.wf, Bool.and_eq_true, decide_eq_true_eq] at h
  exact ⟨h.1, h.2⟩
section
variable {H : Type} {enc : TypeId × Value → H} {W : World}
theorem open_row {α : Type} {cenc : α → List Value} {k : Nat} {t e : TypeId} {Q : α → Prop} {base : Nat} {spare : Nat → Bool} {held : Bool} {fuel : Nat} {cs : List Value} {x : DataW H × List MemPlace} (ht : Tryd.prog.underlying t = some (.slice e)) (hc : Tryd.prog.cellsOf e = k) (hk : 0 < k) (hl : ∀ x, (cenc x).length = k)
    (read : ∀ {fuel cs x}, DataW.trod enc Tryd.prog W base spare held fuel e cs = some x → ∃ v : α, cs = cenc v ∧ Q v)
    (h : DataW.trod enc Tryd.prog W base spare held fuel t cs = some x) : ∃ A n c L, cs = [.slice A n c] ∧ RSl cenc k W A n L ∧ (∀ r ∈ L, Q r) ∧ n ≤ maxLen ∧ n ≤ c ∧ (A = none → n = 0 ∧ c = 0) := by
  rcases open_slice ht h with ⟨rfl, _⟩ | ⟨a, n, cap, m, n1, D, Pl, rfl, hb, hln, hm, hmm, hx, hi⟩
  · exact ⟨none, 0, 0, [], rfl, RSl.nil W none, fun r hr => (nomatch hr), Nat.zero_le _, Nat.le_refl _, fun _ => ⟨rfl, rfl⟩⟩
  · have hnm : n ≤ m := by rw [hmm]; split <;> omega
    have hone : ∀ i, i < n → ∃ v : α, (∀ j, j < k → W.cell? (a.add (i * k + j)) = (cenc v)[j]?) ∧ Q v := fun i hin => by
      obtain ⟨cs', hc1, ht1⟩ := hi i (by omega)
      rw [hc] at hc1
      obtain ⟨v, rfl, hw⟩ := read ht1
      obtain ⟨_, _, hat⟩ := World.cells?_some hc1
      exact ⟨v, fun j hj => by rw [← Go.Deep.add_add]; exact hat j hj, hw⟩
    obtain ⟨f, hf'⟩ : ∃ f : Fin n → α, ∀ i : Fin n, (∀ j, j < k → W.cell? (a.add (i.1 * k + j)) = (cenc (f i))[j]?) ∧ Q (f i) :=
      ⟨fun i => (hone i.1 i.2).choose, fun i => (hone i.1 i.2).choose_spec⟩
    have hget : ∀ (j : Nat) (x : α), (List.ofFn f)[j]? = some x → ∃ h : j < n, f ⟨j, h⟩ = x := fun j x e => by
      rw [List.getElem?_ofFn] at e
      split at e
      · rename_i h
        exact ⟨h, Option.some.inj e⟩
      · cases e
    refine ⟨some a, n, cap, List.ofFn f, rfl, ⟨by simp, fun hn => ?_⟩, fun r hr => ?_, by omega, by omega, fun h => by cases h⟩
    · obtain ⟨b, off, spot⟩ := a
      have h0 := (hf' ⟨0, hn⟩).1 0 hk
      have hlt0 : 0 < (cenc (f ⟨0, hn⟩)).length := by rw [hl]; exact hk
      rw [List.getElem?_eq_getElem hlt0] at h0
      have hspot : spot = none := by simpa [Addr.add] using World.cell?_spot h0
      subst hspot
      rw [add_plain] at h0
      refine ⟨b, off, rfl, lt_of_cell h0, fun j x e i hi => ?_⟩
      obtain ⟨hj, rfl⟩ := hget j x e
      have := (hf' ⟨j, hj⟩).1 i hi
      rw [add_plain] at this
      rw [← this, Nat.add_assoc]
    · obtain ⟨j, hj, e⟩ := List.getElem_of_mem hr
      obtain ⟨h2, rfl⟩ := hget j r (by rw [List.getElem?_eq_getElem hj, e])
      exact (hf' ⟨j, h2⟩).2
set_option maxRecDepth 100000 in
theorem cl_read {base : Nat} {spare : Nat → Bool} {held : Bool} {fuel : Nat} {cs : List Value} {x : DataW H × List MemPlace} (h : DataW.trod enc Tryd.prog W base spare held fuel 24 cs = some x) : ∃ v : Cl, cs = clE v ∧ COk v := by
  obtain ⟨ys, n, _, hx, hl, hlen, hg⟩ := DataW.trod_struct Tryd.underlying24 h
  obtain ⟨c0, c1, c2, c3, c4, c5, c6, rfl⟩ := list7 (hl.trans cls24)
  obtain ⟨y0, y1, y2, y3, y4, y5, y6, rfl⟩ := list7 (show ys.length = 7 from hlen)
  obtain ⟨m0, e0, _, w0⟩ := DataW.trod_int Tryd.underlying5 (show DataW.trod enc Tryd.prog W base spare held n 5 [c0] = some y0 from by simpa [cls5] using hg 0 _ rfl)
  obtain ⟨m1, e1, _, w1⟩ := DataW.trod_int Tryd.underlying3 (show DataW.trod enc Tryd.prog W base spare held n 3 [c1] = some y1 from by simpa [cls3] using hg 1 _ rfl)
  obtain ⟨m2, e2, _, w2⟩ := DataW.trod_string Tryd.underlying9 (show DataW.trod enc Tryd.prog W base spare held n 9 [c2] = some y2 from by simpa [cls9] using hg 2 _ rfl)
  obtain ⟨m3, e3, _, w3⟩ := DataW.trod_string Tryd.underlying9 (show DataW.trod enc Tryd.prog W base spare held n 9 [c3] = some y3 from by simpa [cls9] using hg 3 _ rfl)
  obtain ⟨m4, e4, _, w4⟩ := DataW.trod_string Tryd.underlying9 (show DataW.trod enc Tryd.prog W base spare held n 9 [c4] = some y4 from by simpa [cls9] using hg 4 _ rfl)
  obtain ⟨m5, e5, _, w5⟩ := DataW.trod_int Tryd.underlying3 (show DataW.trod enc Tryd.prog W base spare held n 3 [c5] = some y5 from by simpa [cls3] using hg 5 _ rfl)
  obtain ⟨m6, e6, _, w6⟩ := DataW.trod_int Tryd.underlying5 (show DataW.trod enc Tryd.prog W base spare held n 5 [c6] = some y6 from by simpa [cls5] using hg 6 _ rfl)
  simp at e0 e1 e2 e3 e4 e5 e6
  have r0 := rg8 w0
  have r6 := rg8 w6
  subst e0 e1 e2 e3 e4 e5 e6
  refine ⟨(m0.toNat, m1, m2, m3, m4, m5, m6.toNat), ?_, by show m0.toNat ≤ 255; omega, by show m6.toNat ≤ 255; omega, rgI w1, rgI w5, w2, w3, w4⟩
  unfold clE
  simp only
  rw [Int.toNat_of_nonneg r0.1, Int.toNat_of_nonneg r6.1]
set_option maxRecDepth 100000 in
theorem open_call {base : Nat} {v : Value} {d : DataW H} {ps : List MemPlace} (hval : Value.okWide Tryd.prog W .any base 24 v) (h : DataW.Trod enc Tryd.prog W 0 (fun _ => true) true 24 v d ps) : ∃ s : Cl, v = clV s ∧ COk s := by
  obtain ⟨cs, rfl, hsz⟩ := okWide_struct Tryd.underlying24 hval
  obtain ⟨fuel, hf⟩ := h
  obtain ⟨s, e, hs⟩ := cl_read hf
  refine ⟨s, ?_, hs⟩
  have hcs : cs = (clE s).toArray := by
    apply Array.toList_inj.1
    simpa [Value.cells] using e
  rw [hcs]; rfl
set_option maxRecDepth 100000 in
theorem open_calls {base : Nat} {v : Value} {d : DataW H} {ps : List MemPlace} (hval : Value.okWide Tryd.prog W .any base 87 v) (h : DataW.Trod enc Tryd.prog W 0 (fun _ => true) true 87 v d ps) :
    ∃ A n c L, v = .slice A n c ∧ RSl clE 7 W A n L ∧ (∀ r ∈ L, COk r) ∧ n ≤ maxLen ∧ n ≤ c ∧ (A = none → n = 0 ∧ c = 0) := by
  obtain ⟨A, n, c, rfl⟩ := okWide_slice Tryd.underlying87 hval
  obtain ⟨fuel, hf⟩ := h
  obtain ⟨A', n', c', L, e, hr, hq, h1, h2, h3⟩ := open_row (cenc := clE) (Q := COk) Tryd.underlying87 cls24 (by decide) clE_len cl_read hf
  simp [Value.cells] at e
  obtain ⟨rfl, rfl, rfl⟩ := e
  exact ⟨A, n, c, L, rfl, hr, hq, h1, h2, h3⟩
set_option maxRecDepth 100000 in
theorem open_conf {base : Nat} {sp : Nat → Bool} {held : Bool} {r : Reach} {b0 : Nat} {v : Value} {d : DataW H} {p : List MemPlace}
    (hv : Value.okWide Tryd.prog W r b0 52 v) (h : DataW.Trod enc Tryd.prog W base sp held 52 v d p) : ∃ c : Conf, v = c.val := by
  obtain ⟨cs, rfl, hsz⟩ := okWide_struct Tryd.underlying52 hv
  obtain ⟨l⟩ := cs
  match l, hsz.trans cls52 with
  | [c0, c1, c2, c3, c4, c5, c6, c7], _ =>
    obtain ⟨fuel, hf⟩ := h
    obtain ⟨xs, n, _, hx, _, hlen, hg⟩ := DataW.trod_struct Tryd.underlying52 hf
    match xs, hlen with
    | [y0, y1, y2, y3, y4, y5, y6, y7], _ =>
      obtain ⟨m0, e0, _, _⟩ := DataW.trod_int Tryd.underlying3 (show DataW.trod enc Tryd.prog W base sp held n 3 [c0] = some y0 from by simpa [Value.cells, cls3] using hg 0 _ rfl)
      obtain ⟨m1, e1, _, _⟩ := DataW.trod_int Tryd.underlying3 (show DataW.trod enc Tryd.prog W base sp held n 3 [c1] = some y1 from by simpa [Value.cells, cls3] using hg 1 _ rfl)
      obtain ⟨m2, e2, _, _⟩ := DataW.trod_int Tryd.underlying3 (show DataW.trod enc Tryd.prog W base sp held n 3 [c2] = some y2 from by simpa [Value.cells, cls3] using hg 2 _ rfl)
      obtain ⟨m3, e3, _, _⟩ := DataW.trod_int Tryd.underlying3 (show DataW.trod enc Tryd.prog W base sp held n 3 [c3] = some y3 from by simpa [Value.cells, cls3] using hg 3 _ rfl)
      obtain ⟨m4, e4, _, _⟩ := DataW.trod_int Tryd.underlying3 (show DataW.trod enc Tryd.prog W base sp held n 3 [c4] = some y4 from by simpa [Value.cells, cls3] using hg 4 _ rfl)
      obtain ⟨m5, e5, _, _⟩ := DataW.trod_int Tryd.underlying3 (show DataW.trod enc Tryd.prog W base sp held n 3 [c5] = some y5 from by simpa [Value.cells, cls3] using hg 5 _ rfl)
      obtain ⟨m6, e6, _, _⟩ := DataW.trod_int Tryd.underlying3 (show DataW.trod enc Tryd.prog W base sp held n 3 [c6] = some y6 from by simpa [Value.cells, cls3] using hg 6 _ rfl)
      obtain ⟨m7, e7, _, _⟩ := DataW.trod_int Tryd.underlying3 (show DataW.trod enc Tryd.prog W base sp held n 3 [c7] = some y7 from by simpa [Value.cells, cls3] using hg 7 _ rfl)
      exact ⟨⟨m0, m1, m2, m3, m4, m5, m6, m7⟩, by simp_all [Conf.val]⟩end
end Go.Proofs.YtkgdmdcnhbaidaaDoor
