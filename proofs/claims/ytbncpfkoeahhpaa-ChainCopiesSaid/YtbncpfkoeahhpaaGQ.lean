/- Steps as an argument; too many of them; which handle a step is of; a step is done. -/
import Derived.Test.YtbncpfkoeahhpaaGD
import Derived.Test.YtbncpfkoeahhpaaLF
import Derived.Deep.Slices
import Derived.Deep.Strs
import Derived.SliceStrings
import Derived.ChangeMaps5
import Derived.ChangeSame
import Derived.Lib.SmallJoins
namespace Go.Proofs.Ytbncpfkoeahhpaa
open Go.ChangeShapes Go.WideShapes Go.ChangeAt Go.RowKit Go.Maps Go.Deep Go.Joins
set_option linter.unusedVariables false
set_option linter.unusedSimpArgs false

/-- a step: what, the number of a handle, a handle, a text -/
abbrev Stp := Int × Int × Int × ByteArray
abbrev stp0 : Stp := (0, 0, 0, ByteArray.empty)
def StpOk (s : Stp) : Prop := (-9223372036854775808 ≤ s.2.1 ∧ s.2.1 ≤ 9223372036854775807) ∧ (0 ≤ s.2.2.1 ∧ s.2.2.1 ≤ 18446744073709551615) ∧ s.2.2.2.size ≤ maxLen
theorem rgI {x : Int} (h : (Lit.int .i64 x).wf = true) : -9223372036854775808 ≤ x ∧ x ≤ 9223372036854775807 := by
  simp only [Lit.wf, Bool.and_eq_true, decide_eq_true_eq] at h
  exact ⟨h.1, h.2⟩
theorem rgU {x : Int} (h : (Lit.int .u64 x).wf = true) : 0 ≤ x ∧ x ≤ 18446744073709551615 := by
  simp only [Lit.wf, Bool.and_eq_true, decide_eq_true_eq] at h
  exact ⟨h.1, h.2⟩
section
variable {H : Type} {enc : TypeId × Value → H}
end
end Go.Proofs.Ytbncpfkoeahhpaa
