/- OC, OD, OE in one. -/
import Derived.Test.YtoinjnocopejjaaNZ
import Derived.Test.YtoinjnocopejjaaLF
import Derived.Deep.Slices
import Derived.Deep.Strs
import Derived.ChangeSame
import Derived.ChangeMaps5
import Derived.Lib.SmallJoins
/- Calls and configs as arguments. -/
namespace Go.Proofs.Ytoinjnocopejjaa
open Go.ChangeShapes Go.WideShapes Go.ChangeAt Go.RowKit Go.Maps Go.Deep Go.Joins Go.Maps
set_option linter.unusedVariables false
set_option linter.unusedSimpArgs false

/-- a call's cells -/
def clE (x : Cl) : List Value := [.int .u8 (x.1 : Int), .int .i64 x.2.1, .string x.2.2.1, .string x.2.2.2.1, .string x.2.2.2.2.1, .int .i64 x.2.2.2.2.2.1, .int .u8 (x.2.2.2.2.2.2 : Int)]
theorem cls3 : Try.prog.cellsOf 3 = 1 := by kernel_rfl
theorem cls5 : Try.prog.cellsOf 5 = 1 := by kernel_rfl
theorem cls9 : Try.prog.cellsOf 9 = 1 := by kernel_rfl
theorem cls36 : Try.prog.cellsOf 36 = 7 := by kernel_rfl
theorem cls45 : Try.prog.cellsOf 45 = 8 := by kernel_rfl
theorem list7 {α : Type} {l : List α} (h : l.length = 7) : ∃ a b c d e f g, l = [a, b, c, d, e, f, g] := by
  match l, h with
  | [a, b, c, d, e, f, g], _ => exact ⟨a, b, c, d, e, f, g, rfl⟩
theorem rg8 {n : Int} (h : (Lit.int .u8 n).wf = true) : 0 ≤ n ∧ n ≤ 255 := by
  simp only [Lit.wf, Bool.and_eq_true, decide_eq_true_eq] at h
  exact ⟨h.1, h.2⟩
theorem clE_len (x : Cl) : (clE x).length = 7 := rfl
theorem rgI {x : Int} (h : (Lit.int .i64 x).wf = true) : -9223372036854775808 ≤ x ∧ x ≤ 9223372036854775807 := by
  simp only [Lit.wf, Bool.and_eq_true, decide_eq_true_eq] at h
  exact ⟨h.1, h.2⟩
section
variable {H : Type} {enc : TypeId × Value → H} {W : World}
theorem open_row {α : Type} {cenc : α → List Value} {k : Nat} {t e : TypeId} {Q : α → Prop} {base : Nat} {spare : Nat → Bool} {held : Bool} {fuel : Nat} {cs : List Value} {x : DataW H × List MemPlace} (ht : Try.prog.underlying t = some (.slice e)) (hc : Try.prog.cellsOf e = k) (hk : 0 < k) (hl : ∀ x, (cenc x).length = k)
    (read : ∀ {fuel cs x}, DataW.trod enc Try.prog W base spare held fuel e cs = some x → ∃ v : α, cs = cenc v ∧ Q v)
    (h : DataW.trod enc Try.prog W base spare held fuel t cs = some x) : ∃ A n c L, cs = [.slice A n c] ∧ RSl cenc k W A n L ∧ (∀ r ∈ L, Q r) ∧ n ≤ maxLen ∧ n ≤ c ∧ (A = none → n = 0 ∧ c = 0) := by
  rcases open_slice ht h with ⟨rfl, _⟩ | ⟨a, n, cap, m, n1, D, Pl, rfl, hb, hln, hm, hmm, hx, hi⟩
  · exact ⟨none, 0, 0, [], rfl, RSl.nil W none, fun r hr => (nomatch hr), Nat.zero_le _, Nat.le_refl _, fun _ => ⟨rfl, rfl⟩⟩
  · have hnm : n ≤ m := by rw [hmm]; split <;> omega
    have hone : ∀ i, i < n → ∃ v : α, (∀ j, j < k → W.cell? (a.add (i * k + j)) = (cenc v)[j]?) ∧ Q v := fun i hin => by
      obtain ⟨cs', hc1, ht1⟩ := hi i (by omega)
      rw [hc] at hc1
      obtain ⟨v, rfl, hw⟩ := read ht1
      obtain ⟨_, _, hat⟩ := World.cells?_some hc1
      exact ⟨v, fun j hj => by rw [← Go.Deep.add_add]; exact hat j hj, hw⟩
    obtain ⟨f, hf'⟩ : ∃ f : Fin n → α, ∀ i : Fin n, (∀ j, j < k → W.cell? (a.add (i.1 * k + j)) = (cenc (f i))[j]?) ∧ Q (f i) :=
      ⟨fun i => (hone i.1 i.2).choose, fun i => (hone i.1 i.2).choose_spec⟩
    have hget : ∀ (j : Nat) (x : α), (List.ofFn f)[j]? = some x → ∃ h : j < n, f ⟨j, h⟩ = x := fun j x e => by
      rw [List.getElem?_ofFn] at e
      split at e
      · rename_i h
        exact ⟨h, Option.some.inj e⟩
      · cases e
    refine ⟨some a, n, cap, List.ofFn f, rfl, ⟨by simp, fun hn => ?_⟩, fun r hr => ?_, by omega, by omega, fun h => by cases h⟩
    · obtain ⟨b, off, spot⟩ := a
      have h0 := (hf' ⟨0, hn⟩).1 0 hk
      have hlt0 : 0 < (cenc (f ⟨0, hn⟩)).length := by rw [hl]; exact hk
      rw [List.getElem?_eq_getElem hlt0] at h0
      have hspot : spot = none := by simpa [Addr.add] using World.cell?_spot h0
      subst hspot
      rw [add_plain] at h0
      refine ⟨b, off, rfl, lt_of_cell h0, fun j x e i hi => ?_⟩
      obtain ⟨hj, rfl⟩ := hget j x e
      have := (hf' ⟨j, hj⟩).1 i hi
      rw [add_plain] at this
      rw [← this, Nat.add_assoc]
    · obtain ⟨j, hj, e⟩ := List.getElem_of_mem hr
      obtain ⟨h2, rfl⟩ := hget j r (by rw [List.getElem?_eq_getElem hj, e])
      exact (hf' ⟨j, h2⟩).2
set_option maxRecDepth 100000 in
theorem cl_read {base : Nat} {spare : Nat → Bool} {held : Bool} {fuel : Nat} {cs : List Value} {x : DataW H × List MemPlace} (h : DataW.trod enc Try.prog W base spare held fuel 36 cs = some x) : ∃ v : Cl, cs = clE v ∧ COk v := by
  obtain ⟨ys, n, _, hx, hl, hlen, hg⟩ := DataW.trod_struct Try.underlying36 h
  obtain ⟨c0, c1, c2, c3, c4, c5, c6, rfl⟩ := list7 (hl.trans cls36)
  obtain ⟨y0, y1, y2, y3, y4, y5, y6, rfl⟩ := list7 (show ys.length = 7 from hlen)
  obtain ⟨m0, e0, _, w0⟩ := DataW.trod_int Try.underlying5 (show DataW.trod enc Try.prog W base spare held n 5 [c0] = some y0 from by simpa [cls5] using hg 0 _ rfl)
  obtain ⟨m1, e1, _, w1⟩ := DataW.trod_int Try.underlying3 (show DataW.trod enc Try.prog W base spare held n 3 [c1] = some y1 from by simpa [cls3] using hg 1 _ rfl)
  obtain ⟨m2, e2, _, w2⟩ := DataW.trod_string Try.underlying9 (show DataW.trod enc Try.prog W base spare held n 9 [c2] = some y2 from by simpa [cls9] using hg 2 _ rfl)
  obtain ⟨m3, e3, _, w3⟩ := DataW.trod_string Try.underlying9 (show DataW.trod enc Try.prog W base spare held n 9 [c3] = some y3 from by simpa [cls9] using hg 3 _ rfl)
  obtain ⟨m4, e4, _, w4⟩ := DataW.trod_string Try.underlying9 (show DataW.trod enc Try.prog W base spare held n 9 [c4] = some y4 from by simpa [cls9] using hg 4 _ rfl)
  obtain ⟨m5, e5, _, w5⟩ := DataW.trod_int Try.underlying3 (show DataW.trod enc Try.prog W base spare held n 3 [c5] = some y5 from by simpa [cls3] using hg 5 _ rfl)
  obtain ⟨m6, e6, _, w6⟩ := DataW.trod_int Try.underlying5 (show DataW.trod enc Try.prog W base spare held n 5 [c6] = some y6 from by simpa [cls5] using hg 6 _ rfl)
  simp at e0 e1 e2 e3 e4 e5 e6
  have r0 := rg8 w0
  have r6 := rg8 w6
  subst e0 e1 e2 e3 e4 e5 e6
  refine ⟨(m0.toNat, m1, m2, m3, m4, m5, m6.toNat), ?_, by show m0.toNat ≤ 255; omega, by show m6.toNat ≤ 255; omega, rgI w1, rgI w5, w2, w3, w4⟩
  unfold clE
  simp only
  rw [Int.toNat_of_nonneg r0.1, Int.toNat_of_nonneg r6.1]
set_option maxRecDepth 100000 in
theorem open_call {base : Nat} {v : Value} {d : DataW H} {ps : List MemPlace} (hval : Value.okWide Try.prog W .any base 36 v) (h : DataW.Trod enc Try.prog W 0 (fun _ => true) true 36 v d ps) : ∃ s : Cl, v = clV s ∧ COk s := by
  obtain ⟨cs, rfl, hsz⟩ := okWide_struct Try.underlying36 hval
  obtain ⟨fuel, hf⟩ := h
  obtain ⟨s, e, hs⟩ := cl_read hf
  refine ⟨s, ?_, hs⟩
  have hcs : cs = (clE s).toArray := by
    apply Array.toList_inj.1
    simpa [Value.cells] using e
  rw [hcs]; rfl
set_option maxRecDepth 100000 in
theorem open_conf {base : Nat} {sp : Nat → Bool} {held : Bool} {r : Reach} {b0 : Nat} {v : Value} {d : DataW H} {p : List MemPlace}
    (hv : Value.okWide Try.prog W r b0 45 v) (h : DataW.Trod enc Try.prog W base sp held 45 v d p) : ∃ c : Conf, v = c.val := by
  obtain ⟨cs, rfl, hsz⟩ := okWide_struct Try.underlying45 hv
  obtain ⟨l⟩ := cs
  match l, hsz.trans cls45 with
  | [c0, c1, c2, c3, c4, c5, c6, c7], _ =>
    obtain ⟨fuel, hf⟩ := h
    obtain ⟨xs, n, _, hx, _, hlen, hg⟩ := DataW.trod_struct Try.underlying45 hf
    match xs, hlen with
    | [y0, y1, y2, y3, y4, y5, y6, y7], _ =>
      obtain ⟨m0, e0, _, _⟩ := DataW.trod_int Try.underlying3 (show DataW.trod enc Try.prog W base sp held n 3 [c0] = some y0 from by simpa [Value.cells, cls3] using hg 0 _ rfl)
      obtain ⟨m1, e1, _, _⟩ := DataW.trod_int Try.underlying3 (show DataW.trod enc Try.prog W base sp held n 3 [c1] = some y1 from by simpa [Value.cells, cls3] using hg 1 _ rfl)
      obtain ⟨m2, e2, _, _⟩ := DataW.trod_int Try.underlying3 (show DataW.trod enc Try.prog W base sp held n 3 [c2] = some y2 from by simpa [Value.cells, cls3] using hg 2 _ rfl)
      obtain ⟨m3, e3, _, _⟩ := DataW.trod_int Try.underlying3 (show DataW.trod enc Try.prog W base sp held n 3 [c3] = some y3 from by simpa [Value.cells, cls3] using hg 3 _ rfl)
      obtain ⟨m4, e4, _, _⟩ := DataW.trod_int Try.underlying3 (show DataW.trod enc Try.prog W base sp held n 3 [c4] = some y4 from by simpa [Value.cells, cls3] using hg 4 _ rfl)
      obtain ⟨m5, e5, _, _⟩ := DataW.trod_int Try.underlying3 (show DataW.trod enc Try.prog W base sp held n 3 [c5] = some y5 from by simpa [Value.cells, cls3] using hg 5 _ rfl)
      obtain ⟨m6, e6, _, _⟩ := DataW.trod_int Try.underlying3 (show DataW.trod enc Try.prog W base sp held n 3 [c6] = some y6 from by simpa [Value.cells, cls3] using hg 6 _ rfl)
      obtain ⟨m7, e7, _, _⟩ := DataW.trod_int Try.underlying3 (show DataW.trod enc Try.prog W base sp held n 3 [c7] = some y7 from by simpa [Value.cells, cls3] using hg 7 _ rfl)
      exact ⟨⟨m0, m1, m2, m3, m4, m5, m6, m7⟩, by simp_all [Conf.val]⟩end
end Go.Proofs.Ytoinjnocopejjaa

/- Turns as arguments. -/
namespace Go.Proofs.Ytoinjnocopejjaa
open Go.ChangeShapes Go.WideShapes Go.ChangeAt Go.RowKit Go.Maps Go.Deep Go.Joins Go.Maps
set_option linter.unusedVariables false
set_option linter.unusedSimpArgs false
theorem cls63 : Try.prog.cellsOf 63 = 8 := by kernel_rfl
def tnE (x : Int × Cl) : List Value := .int .i64 x.1 :: clE x.2
def TnOk (x : Int × Cl) : Prop := (-9223372036854775808 ≤ x.1 ∧ x.1 ≤ 9223372036854775807) ∧ COk x.2
theorem tnE_len (x : Int × Cl) : (tnE x).length = 8 := rfl
theorem list8 {α : Type} {l : List α} (h : l.length = 8) : ∃ a b c d e f g k, l = [a, b, c, d, e, f, g, k] := by
  match l, h with
  | [a, b, c, d, e, f, g, k], _ => exact ⟨a, b, c, d, e, f, g, k, rfl⟩
section
variable {H : Type} {enc : TypeId × Value → H} {W : World}
set_option maxRecDepth 100000 in
theorem tn_read {base : Nat} {spare : Nat → Bool} {held : Bool} {fuel : Nat} {cs : List Value} {x : DataW H × List MemPlace} (h : DataW.trod enc Try.prog W base spare held fuel 63 cs = some x) : ∃ v : Int × Cl, cs = tnE v ∧ TnOk v := by
  obtain ⟨ys, n, _, hx, hl, hlen, hg⟩ := DataW.trod_struct Try.underlying63 h
  obtain ⟨c0, c1, c2, c3, c4, c5, c6, c7, rfl⟩ := list8 (hl.trans cls63)
  match ys, hlen with
  | [y0, y1], _ =>
    obtain ⟨m0, e0, _, w0⟩ := DataW.trod_int Try.underlying3 (show DataW.trod enc Try.prog W base spare held n 3 [c0] = some y0 from by simpa [cls3] using hg 0 _ rfl)
    obtain ⟨v, e1, hv⟩ := cl_read (show DataW.trod enc Try.prog W base spare held n 36 [c1, c2, c3, c4, c5, c6, c7] = some y1 from by simpa [cls3, cls36] using hg 1 _ rfl)
    simp at e0
    subst e0
    exact ⟨(m0, v), by rw [e1]; rfl, rgI w0, hv⟩
set_option maxRecDepth 100000 in
theorem open_turns {base : Nat} {v : Value} {d : DataW H} {ps : List MemPlace} (hval : Value.okWide Try.prog W .any base 55 v) (h : DataW.Trod enc Try.prog W 0 (fun _ => true) true 55 v d ps) :
    ∃ A n c L, v = .slice A n c ∧ RSl tnE 8 W A n L ∧ (∀ r ∈ L, TnOk r) ∧ n ≤ maxLen ∧ n ≤ c ∧ (A = none → n = 0 ∧ c = 0) := by
  obtain ⟨A, n, c, rfl⟩ := okWide_slice Try.underlying55 hval
  obtain ⟨fuel, hf⟩ := h
  obtain ⟨A', n', c', L, e, hr, hq, h1, h2, h3⟩ := open_row (cenc := tnE) (Q := TnOk) Try.underlying55 cls63 (by decide) tnE_len tn_read hf
  simp [Value.cells] at e
  obtain ⟨rfl, rfl, rfl⟩ := e
  exact ⟨A, n, c, L, rfl, hr, hq, h1, h2, h3⟩
end
end Go.Proofs.Ytoinjnocopejjaa

/- Bytes as arguments. -/
namespace Go.Proofs.Ytoinjnocopejjaa
open Go.ChangeShapes Go.WideShapes Go.ChangeAt Go.RowKit Go.Maps Go.Deep Go.Joins Go.Maps
set_option linter.unusedVariables false
set_option linter.unusedSimpArgs false
theorem cls5_ : Try.prog.cellsOf 5 = 1 := by kernel_rfl
def bE (x : Int) : List Value := [.int .u8 x]
def BOk (x : Int) : Prop := 0 ≤ x ∧ x ≤ 255
theorem bE_len (x : Int) : (bE x).length = 1 := rfl
theorem list1 {α : Type} {l : List α} (h : l.length = 1) : ∃ a, l = [a] := by
  match l, h with
  | [a], _ => exact ⟨a, rfl⟩
section
variable {H : Type} {enc : TypeId × Value → H} {W : World}
set_option maxRecDepth 100000 in
theorem b_read {base : Nat} {spare : Nat → Bool} {held : Bool} {fuel : Nat} {cs : List Value} {x : DataW H × List MemPlace} (h : DataW.trod enc Try.prog W base spare held fuel 5 cs = some x) : ∃ v : Int, cs = bE v ∧ BOk v := by
  obtain ⟨m0, e0, _, w0⟩ := DataW.trod_int Try.underlying5 h
  have r0 := rg8 w0
  exact ⟨m0, e0, by unfold BOk; omega⟩
set_option maxRecDepth 100000 in
theorem open_bytes {base : Nat} {v : Value} {d : DataW H} {ps : List MemPlace} (hval : Value.okWide Try.prog W .any base 50 v) (h : DataW.Trod enc Try.prog W 0 (fun _ => true) true 50 v d ps) :
    ∃ A n c L, v = .slice A n c ∧ RSl bE 1 W A n L ∧ (∀ r ∈ L, BOk r) ∧ n ≤ maxLen := by
  obtain ⟨A, n, c, rfl⟩ := okWide_slice Try.underlying50 hval
  obtain ⟨fuel, hf⟩ := h
  obtain ⟨A', n', c', L, e, hr, hq, h1, h2, h3⟩ := open_row (cenc := bE) (Q := BOk) Try.underlying50 cls5_ (by decide) bE_len b_read hf
  simp [Value.cells] at e
  obtain ⟨rfl, rfl, rfl⟩ := e
  exact ⟨A, n, c, L, rfl, hr, hq, h1⟩
end
end Go.Proofs.Ytoinjnocopejjaa
