/- A slot begins by a text, with 00s behind. -/
import Derived.Test.YtbncpfkoeahhpaaGR
namespace Go.Proofs.Ytbncpfkoeahhpaa
open Go.ChangeShapes Go.WideShapes Go.ChangeAt Go.RowKit Go.Maps
set_option linter.unusedVariables false
set_option linter.unusedSimpArgs false

/-- a text, with 00s behind -/
def padT (s : Nat) (T : ByteArray) : ByteArray := T ++ strOfNums (List.replicate (s - T.size) 0)
theorem padT_size {s : Nat} {T : ByteArray} (h : T.size ≤ s) : (padT s T).size = s := by
  unfold padT
  rw [ByteArray.size_append, strOfNums_size, List.length_replicate]
  omega
theorem padT_front (s : Nat) (T : ByteArray) : (padT s T).extract 0 T.size = T := by
  unfold padT
  apply ByteArray.ext
  rw [ByteArray.data_extract, ByteArray.data_append, ← ByteArray.size_data, Array.extract_append_left]
  simp
theorem padT_at {s : Nat} {T : ByteArray} (h : T.size ≤ s) {i : Nat} (h1 : T.size ≤ i) (h2 : i < s) : (padT s T)[i]? = some 0 := by
  have hl : i < (padT s T).size := by rw [padT_size h]; exact h2
  unfold padT at hl ⊢
  rw [getElem?_pos _ i hl]
  rw [ByteArray.getElem_append_right h1]
  congr 1
  show (strOfNums (List.replicate (s - T.size) 0)).data[i - T.size]'_ = 0
  unfold strOfNums
  simp
end Go.Proofs.Ytbncpfkoeahhpaa
