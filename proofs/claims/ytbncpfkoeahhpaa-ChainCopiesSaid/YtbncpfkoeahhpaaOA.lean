/- Versions, a config, a version as arguments. -/
import Derived.Test.YtbncpfkoeahhpaaCQ
import Derived.Test.YtbncpfkoeahhpaaCO
import Derived.Test.YtbncpfkoeahhpaaLF
import Derived.Deep.Slices
import Derived.Deep.Strs
import Derived.ChangeSame
import Derived.ChangeMaps5
import Derived.Lib.SmallJoins
namespace Go.Proofs.Ytbncpfkoeahhpaa
open Go.ChangeShapes Go.WideShapes Go.ChangeAt Go.RowKit Go.Maps Go.Deep Go.Joins Go.Maps
set_option linter.unusedVariables false
set_option linter.unusedSimpArgs false

def VOk (v : Vn) : Prop := (-9223372036854775808 ≤ v.1 ∧ v.1 ≤ 9223372036854775807) ∧ (-9223372036854775808 ≤ v.2.1 ∧ v.2.1 ≤ 9223372036854775807) ∧ v.2.2.2.size ≤ maxLen
theorem list4 {α : Type} {l : List α} (h : l.length = 4) : ∃ a b c d, l = [a, b, c, d] := by
  match l, h with
  | [a, b, c, d], _ => exact ⟨a, b, c, d, rfl⟩
theorem cls3 : Try.prog.cellsOf 3 = 1 := by kernel_rfl
theorem cls4 : Try.prog.cellsOf 4 = 1 := by kernel_rfl
theorem cls9 : Try.prog.cellsOf 9 = 1 := by kernel_rfl
theorem cls29 : Try.prog.cellsOf 29 = 4 := by kernel_rfl
theorem cls43 : Try.prog.cellsOf 43 = 8 := by kernel_rfl
section
variable {H : Type} {enc : TypeId × Value → H} {W : World}
theorem open_row {α : Type} {cenc : α → List Value} {k : Nat} {t e : TypeId} {Q : α → Prop} {base : Nat} {spare : Nat → Bool} {held : Bool} {fuel : Nat} {cs : List Value} {x : DataW H × List MemPlace} (ht : Try.prog.underlying t = some (.slice e)) (hc : Try.prog.cellsOf e = k) (hk : 0 < k) (hl : ∀ x, (cenc x).length = k)
    (read : ∀ {fuel cs x}, DataW.trod enc Try.prog W base spare held fuel e cs = some x → ∃ v : α, cs = cenc v ∧ Q v)
    (h : DataW.trod enc Try.prog W base spare held fuel t cs = some x) : ∃ A n c L, cs = [.slice A n c] ∧ RSl cenc k W A n L ∧ (∀ r ∈ L, Q r) ∧ n ≤ maxLen ∧ n ≤ c ∧ (A = none → n = 0 ∧ c = 0) := by
  rcases open_slice ht h with ⟨rfl, _⟩ | ⟨a, n, cap, m, n1, D, Pl, rfl, hb, hln, hm, hmm, hx, hi⟩
  · exact ⟨none, 0, 0, [], rfl, RSl.nil W none, fun r hr => (nomatch hr), Nat.zero_le _, Nat.le_refl _, fun _ => ⟨rfl, rfl⟩⟩
  · have hnm : n ≤ m := by rw [hmm]; split <;> omega
    have hone : ∀ i, i < n → ∃ v : α, (∀ j, j < k → W.cell? (a.add (i * k + j)) = (cenc v)[j]?) ∧ Q v := fun i hin => by
      obtain ⟨cs', hc1, ht1⟩ := hi i (by omega)
      rw [hc] at hc1
      obtain ⟨v, rfl, hw⟩ := read ht1
      obtain ⟨_, _, hat⟩ := World.cells?_some hc1
      exact ⟨v, fun j hj => by rw [← Go.Deep.add_add]; exact hat j hj, hw⟩
    obtain ⟨f, hf'⟩ : ∃ f : Fin n → α, ∀ i : Fin n, (∀ j, j < k → W.cell? (a.add (i.1 * k + j)) = (cenc (f i))[j]?) ∧ Q (f i) :=
      ⟨fun i => (hone i.1 i.2).choose, fun i => (hone i.1 i.2).choose_spec⟩
    have hget : ∀ (j : Nat) (x : α), (List.ofFn f)[j]? = some x → ∃ h : j < n, f ⟨j, h⟩ = x := fun j x e => by
      rw [List.getElem?_ofFn] at e
      split at e
      · rename_i h
        exact ⟨h, Option.some.inj e⟩
      · cases e
    refine ⟨some a, n, cap, List.ofFn f, rfl, ⟨by simp, fun hn => ?_⟩, fun r hr => ?_, by omega, by omega, fun h => by cases h⟩
    · obtain ⟨b, off, spot⟩ := a
      have h0 := (hf' ⟨0, hn⟩).1 0 hk
      have hlt0 : 0 < (cenc (f ⟨0, hn⟩)).length := by rw [hl]; exact hk
      rw [List.getElem?_eq_getElem hlt0] at h0
      have hspot : spot = none := by simpa [Addr.add] using World.cell?_spot h0
      subst hspot
      rw [add_plain] at h0
      refine ⟨b, off, rfl, lt_of_cell h0, fun j x e i hi => ?_⟩
      obtain ⟨hj, rfl⟩ := hget j x e
      have := (hf' ⟨j, hj⟩).1 i hi
      rw [add_plain] at this
      rw [← this, Nat.add_assoc]
    · obtain ⟨j, hj, e⟩ := List.getElem_of_mem hr
      obtain ⟨h2, rfl⟩ := hget j r (by rw [List.getElem?_eq_getElem hj, e])
      exact (hf' ⟨j, h2⟩).2
theorem vn_read {base : Nat} {spare : Nat → Bool} {held : Bool} {fuel : Nat} {cs : List Value} {x : DataW H × List MemPlace} (h : DataW.trod enc Try.prog W base spare held fuel 29 cs = some x) : ∃ v : Vn, cs = vec v ∧ VOk v := by
  obtain ⟨y0, y1, y2, y3, n, hx, hl, h0, h1, h2, h3⟩ := trod_struct4 Try.underlying29 h
  obtain ⟨c0, c1, c2, c3, rfl⟩ := list4 (hl.trans cls29)
  simp only [cls3, cls4, cls9] at h0 h1 h2 h3
  obtain ⟨a, e0, _, w0⟩ := DataW.trod_int Try.underlying3 h0
  obtain ⟨b, e1, _, w1⟩ := DataW.trod_int Try.underlying3 h1
  obtain ⟨c, e2, _⟩ := DataW.trod_bool Try.underlying4 h2
  obtain ⟨d, e3, _, w3⟩ := DataW.trod_string Try.underlying9 h3
  simp at e0 e1 e2 e3
  subst e0 e1 e2 e3
  exact ⟨(a, b, c, d), rfl, rgI w0, rgI w1, w3⟩
set_option maxRecDepth 100000 in
theorem open_vers {base : Nat} {v : Value} {d : DataW H} {ps : List MemPlace} (hval : Value.okWide Try.prog W .any base 38 v) (h : DataW.Trod enc Try.prog W 0 (fun _ => true) true 38 v d ps) :
    ∃ A n c L, v = .slice A n c ∧ RSl vec 4 W A n L ∧ (∀ r ∈ L, VOk r) ∧ n ≤ maxLen ∧ n ≤ c ∧ (A = none → n = 0 ∧ c = 0) := by
  obtain ⟨A, n, c, rfl⟩ := okWide_slice Try.underlying38 hval
  obtain ⟨fuel, hf⟩ := h
  obtain ⟨A', n', c', L, e, hr, hq, h1, h2, h3⟩ := open_row (cenc := vec) (Q := VOk) Try.underlying38 cls29 (by decide) vec_len vn_read hf
  simp [Value.cells] at e
  obtain ⟨rfl, rfl, rfl⟩ := e
  exact ⟨A, n, c, L, rfl, hr, hq, h1, h2, h3⟩
set_option maxRecDepth 100000 in
theorem open_ver {base : Nat} {v : Value} {d : DataW H} {ps : List MemPlace} (hval : Value.okWide Try.prog W .any base 29 v) (h : DataW.Trod enc Try.prog W 0 (fun _ => true) true 29 v d ps) : ∃ s : Vn, v = .agg (vec s).toArray ∧ VOk s := by
  obtain ⟨cs, rfl, hsz⟩ := okWide_struct Try.underlying29 hval
  obtain ⟨fuel, hf⟩ := h
  obtain ⟨s, e, hs⟩ := vn_read hf
  refine ⟨s, ?_, hs⟩
  have hcs : cs = (vec s).toArray := by
    apply Array.toList_inj.1
    simpa [Value.cells] using e
  rw [hcs]
set_option maxRecDepth 100000 in
theorem open_conf {base : Nat} {sp : Nat → Bool} {held : Bool} {r : Reach} {b0 : Nat} {v : Value} {d : DataW H} {p : List MemPlace}
    (hv : Value.okWide Try.prog W r b0 43 v) (h : DataW.Trod enc Try.prog W base sp held 43 v d p) : ∃ c : Conf, v = c.val := by
  obtain ⟨cs, rfl, hsz⟩ := okWide_struct Try.underlying43 hv
  obtain ⟨l⟩ := cs
  match l, hsz.trans cls43 with
  | [c0, c1, c2, c3, c4, c5, c6, c7], _ =>
    obtain ⟨fuel, hf⟩ := h
    obtain ⟨xs, n, _, hx, _, hlen, hg⟩ := DataW.trod_struct Try.underlying43 hf
    match xs, hlen with
    | [y0, y1, y2, y3, y4, y5, y6, y7], _ =>
      obtain ⟨m0, e0, _, _⟩ := DataW.trod_int Try.underlying3 (show DataW.trod enc Try.prog W base sp held n 3 [c0] = some y0 from by simpa [Value.cells, cls3] using hg 0 _ rfl)
      obtain ⟨m1, e1, _, _⟩ := DataW.trod_int Try.underlying3 (show DataW.trod enc Try.prog W base sp held n 3 [c1] = some y1 from by simpa [Value.cells, cls3] using hg 1 _ rfl)
      obtain ⟨m2, e2, _, _⟩ := DataW.trod_int Try.underlying3 (show DataW.trod enc Try.prog W base sp held n 3 [c2] = some y2 from by simpa [Value.cells, cls3] using hg 2 _ rfl)
      obtain ⟨m3, e3, _, _⟩ := DataW.trod_int Try.underlying3 (show DataW.trod enc Try.prog W base sp held n 3 [c3] = some y3 from by simpa [Value.cells, cls3] using hg 3 _ rfl)
      obtain ⟨m4, e4, _, _⟩ := DataW.trod_int Try.underlying3 (show DataW.trod enc Try.prog W base sp held n 3 [c4] = some y4 from by simpa [Value.cells, cls3] using hg 4 _ rfl)
      obtain ⟨m5, e5, _, _⟩ := DataW.trod_int Try.underlying3 (show DataW.trod enc Try.prog W base sp held n 3 [c5] = some y5 from by simpa [Value.cells, cls3] using hg 5 _ rfl)
      obtain ⟨m6, e6, _, _⟩ := DataW.trod_int Try.underlying3 (show DataW.trod enc Try.prog W base sp held n 3 [c6] = some y6 from by simpa [Value.cells, cls3] using hg 6 _ rfl)
      obtain ⟨m7, e7, _, _⟩ := DataW.trod_int Try.underlying3 (show DataW.trod enc Try.prog W base sp held n 3 [c7] = some y7 from by simpa [Value.cells, cls3] using hg 7 _ rfl)
      exact ⟨⟨m0, m1, m2, m3, m4, m5, m6, m7⟩, by simp_all [Conf.val]⟩
end
end Go.Proofs.Ytbncpfkoeahhpaa
