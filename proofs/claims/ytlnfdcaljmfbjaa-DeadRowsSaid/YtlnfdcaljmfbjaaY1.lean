/- Numbers as a law is handed them. -/
import Derived.Test.YtlnfdcaljmfbjaaV
import Derived.Test.YtlnfdcaljmfbjaaX1
namespace Go.Proofs.Ytlnfdcaljmfbjaa
open Go.ChangeShapes Go.WideShapes Go.ChangeAt Go.RowKit Go.Maps Go.Deep Go.Joins Go.ChangeMaps
set_option linter.unusedVariables false
set_option linter.unusedSimpArgs false

def Nums (n₀ : Nat) (W : World) (A : Option Addr) (n : Nat) (S : List Int) : Prop :=
  S.length = n ∧ (0 < n → ∃ g off, A = some ⟨g, off, none⟩ ∧ g < n₀ ∧ ∀ j, j < n → W.cell? ⟨g, off + j, none⟩ = some (.int .i64 (S.getD j 0)))
theorem Nums.later {W W' : World} {A : Option Addr} {n : Nat} {S : List Int} (h : Nums W.heap.size W A n S) (hb : Below W.heap.size W W') : Nums W'.heap.size W' A n S :=
  ⟨h.1, fun hn => by
    obtain ⟨g, off, hA, hg, hc⟩ := h.2 hn
    exact ⟨g, off, hA, Nat.lt_of_lt_of_le hg hb.size, fun j hj => (hb.cell (p := ⟨g, off + j, none⟩) hg).trans (hc j hj)⟩⟩
theorem nindex (g off m c k : Nat) (i : Int) (hi : i = (k : Int)) (h : k < m) (W : World) : (Instr.indexAt 42 (.slice (some ⟨g, off, none⟩) m c) (.int .i64 i)).run Try.prog W = .ok (.pointer (some ⟨g, off + k, none⟩)) W := by
  subst hi
  have h1 : (0 : Int) ≤ (k : Int) ∧ (k : Int) < (m : Int) := by omega
  go_simp
section
variable {H : Type} {enc : TypeId × Value → H}
theorem open_nums {W : World} {base : Nat} {v : Value} {d : DataW H} {ps : List MemPlace}
    (hval : Value.okWide Try.prog W .any base 42 v) (h : DataW.Trod enc Try.prog W 0 (fun _ => true) true 42 v d ps) :
    ∃ A n c S, v = .slice A n c ∧ Nums W.heap.size W A n S ∧ n ≤ maxLen := by
  obtain ⟨A, n, c, rfl⟩ := okWide_slice Try.underlying42 hval
  obtain ⟨fuel, hf⟩ := h
  rcases open_slice Try.underlying42 hf with ⟨hcs, _⟩ | ⟨a, len, cap, m, n1, D, Pl, hcs, hb, hl, hm, hmm, hx, hi⟩
  · simp [Value.cells] at hcs
    obtain ⟨rfl, rfl, rfl⟩ := hcs
    exact ⟨none, 0, 0, [], rfl, ⟨rfl, fun h => by omega⟩, Nat.zero_le _⟩
  · simp [Value.cells] at hcs
    obtain ⟨rfl, rfl, rfl⟩ := hcs
    simp only [if_true] at hmm
    subst hmm
    have hone : ∀ i, i < n → ∃ v : Int, W.cell? (a.add i) = some (.int .i64 v) := fun i hin => by
      obtain ⟨cs', hc, ht⟩ := hi i (by omega)
      rw [cells3] at hc
      obtain ⟨v, rfl, _, _⟩ := DataW.trod_int Try.underlying3 ht
      obtain ⟨_, _, hat⟩ := World.cells?_some hc
      have h0 := hat 0 (by decide)
      rw [Nat.mul_one] at h0
      refine ⟨v, ?_⟩
      have e : (a.add i).add 0 = a.add i := by unfold Addr.add; simp
      rw [e] at h0
      exact h0
    obtain ⟨f, hf'⟩ := choose_lt hone
    have hgd : ∀ j, j < n → ((List.range n).map f).getD j 0 = f j := fun j hj => by
      simp [List.getD_eq_getElem?_getD, hj]
    refine ⟨some a, n, m, (List.range n).map f, rfl, ⟨by simp, fun hn => ?_⟩, by omega⟩
    obtain ⟨b, off, spot⟩ := a
    have h0 := hf' 0 hn
    have hspot : spot = none := by simpa [Addr.add] using World.cell?_spot (v := .int .i64 (f 0)) h0
    subst hspot
    have hlt : b < W.heap.size := by
      by_cases hge : b < W.heap.size
      · exact hge
      · have : W.heap[b]? = none := Array.getElem?_eq_none (by omega)
        simp [World.cell?, Addr.add, this] at h0
    refine ⟨b, off, rfl, hlt, fun j hj => ?_⟩
    rw [hgd j hj]
    have e0 := hf' j hj
    rw [add_plain] at e0
    exact e0
end
end Go.Proofs.Ytlnfdcaljmfbjaa
