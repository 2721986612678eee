/- Which handle a step is of; a step is done. -/
import Derived.Test.YtbncpfkoeahhpaaGQ
namespace Go.Proofs.Ytbncpfkoeahhpaa
open Go.ChangeShapes Go.WideShapes Go.ChangeAt Go.RowKit Go.Maps
set_option linter.unusedVariables false
set_option linter.unusedSimpArgs false

def hv (x : Int) : Value := .int .u64 x
theorem elemH : Elem Try.prog 48 24 hv 8 where
  und := Try.underlying48
  info := by
    have h : (Try.prog.info? 24).map (fun i => (i.zero, i.size, i.bytes)) = some (some (.int .u64 0), 1, 8) := by kernel_rfl
    cases hi : Try.prog.info? 24 with
    | none => rw [hi] at h; cases h
    | some i => rw [hi] at h; simp only [Option.map_some, Option.some.injEq, Prod.mk.injEq] at h; exact ⟨i, _, rfl, h.1, h.2.1, h.2.2, rfl⟩
  one := fun _ => rfl
/-- which handle a step is of -/
def ofS (t : Stp) (U : List Int) : Int := if t.2.2.1 ≠ 0 ∨ U = [] then t.2.2.1 else U.getD ((t.2.1 % 18446744073709551616) % (U.length : Int)).toNat 0
theorem idx48 (g m c k : Nat) (i : Int) (hi : i = (k : Int)) (h : k < m) (W : World) : (Instr.indexAt 48 (.slice (some ⟨g, 0, none⟩) m c) (.int .i64 i)).run Try.prog W = .ok (.pointer (some ⟨g, k, none⟩)) W := by
  subst hi
  have h1 : (0 : Int) ≤ (k : Int) ∧ (k : Int) < (m : Int) := by omega
  go_simp
/-- a step, done -/
def doS (s : Nat) (t : Stp) (U : List Int) (st : AS) : AS × Int × Bool :=
  if t.1 = 0 then ((alA s st).1, (alA s st).2.1, decide ((alA s st).2.2 = 0))
  else if t.1 = 1 then (frA (ofS t U) st, 0, false)
  else if t.1 = 2 then (wrA s (ofS t U) t.2.2.2 st, 0, false)
  else (st, 0, false)
theorem ofS_rg {t : Stp} {U : List Int} (ht : StpOk t) (hu : ∀ x ∈ U, 0 ≤ x ∧ x ≤ 18446744073709551615) : 0 ≤ ofS t U ∧ ofS t U ≤ 18446744073709551615 := by
  unfold ofS
  split
  · exact ht.2.1
  · by_cases h : ((t.2.1 % 18446744073709551616) % (U.length : Int)).toNat < U.length
    · rw [List.getD_eq_getElem?_getD, List.getElem?_eq_getElem h]
      exact hu _ (List.getElem_mem h)
    · rw [List.getD_eq_getElem?_getD, List.getElem?_eq_none (by omega)]
      simp
end Go.Proofs.Ytbncpfkoeahhpaa
