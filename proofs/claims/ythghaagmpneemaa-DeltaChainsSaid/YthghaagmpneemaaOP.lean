/- Arguments as a law is handed them: texts in a slice. -/
import Derived.Test.YthghaagmpneemaaLF
import Derived.SliceStrings
import Derived.ChangeMaps5
import Derived.Below
import Derived.Lib.Hide
namespace Go.Proofs.Ythghaagmpneemaa
open Go.ChangeShapes Go.WideShapes Go.ChangeAt Go.RowKit Go.ChangeMaps
set_option linter.unusedVariables false
/-- a slice that reads as texts, in a block below a number; nil let in -/
def Strs (n₀ : Nat) (W : World) (A : Option Addr) (n : Nat) (ss : List ByteArray) : Prop :=
  ss.length = n ∧ (0 < n → ∃ g off, A = some ⟨g, off, none⟩ ∧ g < n₀ ∧ ∀ j, j < n → W.cell? ⟨g, off + j, none⟩ = some (.string (ss.getD j ⟨#[]⟩)))
theorem Strs.below {n₀ : Nat} {W W' : World} {A : Option Addr} {n : Nat} {ss : List ByteArray} (h : Strs n₀ W A n ss) (hb : Below n₀ W W') : Strs n₀ W' A n ss :=
  ⟨h.1, fun hn => by
    obtain ⟨g, off, hA, hg, hc⟩ := h.2 hn
    exact ⟨g, off, hA, hg, fun j hj => (hb.cell (p := ⟨g, off + j, none⟩) hg).trans (hc j hj)⟩⟩
theorem Strs.mono {n₀ n₁ : Nat} {W : World} {A : Option Addr} {n : Nat} {ss : List ByteArray} (h : Strs n₀ W A n ss) (hn : n₀ ≤ n₁) : Strs n₁ W A n ss :=
  ⟨h.1, fun hp => by
    obtain ⟨g, off, hA, hg, hc⟩ := h.2 hp
    exact ⟨g, off, hA, Nat.lt_of_lt_of_le hg hn, hc⟩⟩
theorem block_lt_of_cell {w : World} {a : Addr} {v : Value} (h : w.cell? a = some v) : a.block < w.heap.size := by
  by_cases hge : a.block < w.heap.size
  · exact hge
  · have : w.heap[a.block]? = none := Array.getElem?_eq_none (by omega)
    simp [World.cell?, this] at h
theorem block_add (a : Addr) (n : Nat) : (a.add n).block = a.block := by unfold Addr.add; split <;> rfl
theorem add_plain (b off n : Nat) : (⟨b, off, none⟩ : Addr).add n = ⟨b, off + n, none⟩ := by
  unfold Addr.add
  by_cases h : n = 0
  · subst h; rfl
  · rw [if_neg h]
section
variable {H : Type} {P : Program}
theorem weight_str (e : TypeId) : ∀ (l : List ByteArray) (s : ByteArray), s ∈ l → s.size ∈ DataW.weightsAll (H := H) P e (strs l)
  | [], s, h => by cases h
  | x :: l, s, h => by
    show s.size ∈ DataW.weights P e (.lit (.string x.data.toList)) ++ DataW.weightsAll P e (strs l)
    rw [List.mem_append]
    rcases List.mem_cons.1 h with e1 | e1
    · left; subst e1; simp [DataW.weights]
    · right; exact weight_str e l s e1
theorem weight_at {ts us : List TypeId} {ds gs : List (DataW H)} (h : (DataW.weightsEach P (ts ++ us) (ds ++ gs)).all (· ≤ reachBytes) = true) {j : Nat} {t : TypeId} {d : DataW H} (ht : ts[j]? = some t) (hd : ds[j]? = some d) :
    ∀ n ∈ d.weights P t, n ≤ reachBytes := fun n hn => by
  have := List.all_eq_true.1 h n (DataW.weights_mem_each (j := j) (by rw [List.getElem?_append_left (List.getElem?_eq_some_iff.1 ht).1]; exact ht) (by rw [List.getElem?_append_left (List.getElem?_eq_some_iff.1 hd).1]; exact hd) n hn)
  simpa using this
theorem open_strs {enc : TypeId × Value → H} {W : World} {base : Nat} {t e : TypeId} {v : Value} {d : DataW H} {ps : List MemPlace}
    (ht : P.underlying t = some (.slice e)) (he : P.underlying e = some .string) (hc : P.cellsOf e = 1)
    (hval : Value.okWide P W .any base t v) (h : DataW.Trod enc P W 0 (fun _ => true) true t v d ps) (hw : ∀ x ∈ d.weights P t, x ≤ reachBytes) :
    ∃ A n c ss, v = .slice A n c ∧ Strs W.heap.size W A n ss ∧ (∀ s ∈ ss, s.size ≤ reachBytes) ∧ n ≤ maxLen := by
  obtain ⟨A, n, c, rfl⟩ := okWide_slice ht hval
  obtain ⟨fuel, hf⟩ := h
  rcases open_strings ht he hc hf with ⟨hcs, _⟩ | ⟨a, len, cap, ss, hcs, _, hl, hm, hz, hx, hcell, hwz⟩
  · simp [Value.cells] at hcs
    obtain ⟨rfl, rfl, rfl⟩ := hcs
    exact ⟨none, 0, 0, [], rfl, ⟨rfl, fun h => by omega⟩, (fun s hs => by cases hs), Nat.zero_le _⟩
  · simp [Value.cells] at hcs
    obtain ⟨rfl, rfl, rfl⟩ := hcs
    simp only [if_true] at hz
    have hlen : (ss.take n).length = n := by simp; omega
    have hget : ∀ j, j < n → (ss.take n).getD j ⟨#[]⟩ = ss.getD j ⟨#[]⟩ := fun j hj => by
      simp [List.getD_eq_getElem?_getD, hj]
    have hd : d = .slice (strs (ss.take n)) (strs (ss.drop n)) := by
      have := congrArg Prod.fst hx
      exact this
    refine ⟨some a, n, c, ss.take n, rfl, ⟨hlen, fun hn => ?_⟩, fun s hs => ?_, by omega⟩
    · obtain ⟨b, off, spot⟩ := a
      have hspot : spot = none := by simpa [Addr.add] using World.cell?_spot (hcell 0 (by omega))
      subst hspot
      have h0 := block_lt_of_cell (hcell 0 (by omega))
      rw [block_add] at h0
      exact ⟨b, off, rfl, h0, fun j hj => by rw [hget j hj, ← add_plain]; exact hcell j (by omega)⟩
    · apply hw
      rw [hd]
      simp only [DataW.weights, ht]
      exact List.mem_cons_of_mem _ (List.mem_append_left _ (weight_str e _ s hs))
end
end Go.Proofs.Ythghaagmpneemaa
