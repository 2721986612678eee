/- The middles of two lists: what is left of them without their common beginning, and their common end. -/
import Derived.Test.YtilaghjboiikdaaL2
namespace Go.Proofs.Ytilaghjboiikdaa

theorem take_same (a b : List UInt8) (p : Nat) (h1 : p ≤ a.length) (h2 : p ≤ b.length) (h : ∀ j, j < p → a.getD j 0 = b.getD j 0) : a.take p = b.take p := by
  apply List.ext_getElem
  · simp; omega
  · intro i hi _
    simp only [List.length_take] at hi
    have := h i (by omega)
    rw [List.getElem_take, List.getElem_take]
    simpa [List.getD_eq_getElem?_getD, show i < a.length by omega, show i < b.length by omega] using this
theorem drop_same (a b : List UInt8) (s : Nat) (h1 : s ≤ a.length) (h2 : s ≤ b.length) (h : ∀ j, j < s → a.getD (a.length - 1 - j) 0 = b.getD (b.length - 1 - j) 0) : a.drop (a.length - s) = b.drop (b.length - s) := by
  apply List.ext_getElem
  · simp; omega
  · intro i hi _
    simp only [List.length_drop] at hi
    have := h (s - 1 - i) (by omega)
    rw [List.getElem_drop, List.getElem_drop]
    rw [show a.length - 1 - (s - 1 - i) = a.length - s + i by omega, show b.length - 1 - (s - 1 - i) = b.length - s + i by omega] at this
    simpa [List.getD_eq_getElem?_getD, show a.length - s + i < a.length by omega, show b.length - s + i < b.length by omega] using this
/-- what two lists' common parts are -/
structure Mids (a b : List UInt8) (p s : Nat) : Prop where
  pa : p + s ≤ a.length
  pb : p + s ≤ b.length
  front : a.take p = b.take p
  back : a.drop (a.length - s) = b.drop (b.length - s)
  head : p + s < a.length → p + s < b.length → a.getD p 0 ≠ b.getD p 0
  last : p + s < a.length → p + s < b.length → a.getD (a.length - 1 - s) 0 ≠ b.getD (b.length - 1 - s) 0
theorem mids_of (a b : List UInt8) (p s m : Nat) (hp : lcp a b = p) (hm : m = min a.length b.length) (hs : lcs a b ((m : Int) - (p : Int)) = s) : Mids a b p s := by
  have hl := lcp_le a b
  have hr := lcp_le a.reverse b.reverse
  simp only [List.length_reverse] at hr
  have hq : s ≤ m - p ∧ s ≤ lcp a.reverse b.reverse ∧ (s = m - p ∨ s = lcp a.reverse b.reverse) := by unfold lcs at hs; omega
  refine ⟨by omega, by omega, ?_, ?_, fun h1 h2 => ?_, fun h1 h2 => ?_⟩
  · exact take_same a b p (by omega) (by omega) (fun j hj => lcp_same a b j (by omega))
  · refine drop_same a b s (by omega) (by omega) (fun j hj => ?_)
    have := lcp_same a.reverse b.reverse j (by omega)
    rwa [rev_getD _ _ (by omega), rev_getD _ _ (by omega)] at this
  · have := lcp_unlike a b (by omega) (by omega)
    rwa [hp] at this
  · have hs2 : lcp a.reverse b.reverse = s := by omega
    have := lcp_unlike a.reverse b.reverse (by simp; omega) (by simp; omega)
    rwa [hs2, rev_getD _ _ (by omega), rev_getD _ _ (by omega)] at this
theorem Mids.swap {a b : List UInt8} {p s : Nat} (h : Mids a b p s) : Mids b a p s :=
  ⟨h.pb, h.pa, h.front.symm, h.back.symm, fun x y e => h.head y x e.symm, fun x y e => h.last y x e.symm⟩
/-- the first one is told again by what the second one has in common with it, and its middle -/
theorem Mids.again {a b : List UInt8} {p s : Nat} (h : Mids a b p s) : b.take p ++ (a.drop p).take (a.length - s - p) ++ b.drop (b.length - s) = a := by
  rw [← h.front, ← h.back]
  have e : a.drop (a.length - s) = (a.drop p).drop (a.length - s - p) := by rw [List.drop_drop]; congr 1; have := h.pa; omega
  rw [e, List.append_assoc, List.take_append_drop, List.take_append_drop]
theorem mid_getD (a : List UInt8) (p n j : Nat) (hj : j < n) : ((a.drop p).take n).getD j 0 = a.getD (p + j) 0 := by
  simp [List.getD_eq_getElem?_getD, hj]
end Go.Proofs.Ytilaghjboiikdaa
