/- Texts that are not too long, and what is put behind a text. -/
import Derived.Test.YtilaghjboiikdaaC
namespace Go.Proofs.Ytilaghjboiikdaa
open Go.ChangeShapes Go.WideShapes Go.ChangeAt Go.RowKit

theorem sum_ge (l : List ByteArray) (s : ByteArray) (h : s ∈ l) : min (s.size : Int) 9000 ≤ (l.map fun a => min (a.size : Int) 9000).sum ∧ 0 ≤ (l.map fun a => min (a.size : Int) 9000).sum := by
  induction l with
  | nil => simp at h
  | cons x l ih =>
    have hn : ∀ m : List ByteArray, 0 ≤ (m.map fun a => min (a.size : Int) 9000).sum := by
      intro m
      induction m with
      | nil => simp
      | cons y m ihm => rw [List.map_cons, List.sum_cons]; omega
    rw [List.map_cons, List.sum_cons]
    have := hn l
    rcases List.mem_cons.1 h with rfl | h
    · omega
    · have := ih h; omega
theorem long_no {l : List ByteArray} (h : longB l = false) (s : ByteArray) (hs : s ∈ l) : s.size < 9000 := by
  unfold longB at h
  have h1 := of_decide_eq_false h
  have h2 := sum_ge l s hs
  omega
theorem bl_append (a b : ByteArray) : bl (a ++ b) = bl a ++ bl b := by unfold bl; simp
theorem size_append (a b : ByteArray) : (a ++ b).size = a.size + b.size := ByteArray.size_append
theorem co_vals (a b : ByteArray) : -1 ≤ co a b ∧ co a b ≤ 1 := by have := cb_vals (bl a) (bl b); unfold co; omega
end Go.Proofs.Ytilaghjboiikdaa
