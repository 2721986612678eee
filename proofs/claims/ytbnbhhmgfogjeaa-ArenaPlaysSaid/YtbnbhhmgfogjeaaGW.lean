/- Steps, run on an arena, the row of handles as it was. -/
import Derived.Test.YtbnbhhmgfogjeaaGU
namespace Go.Proofs.Ytbnbhhmgfogjeaa
open Go.ChangeShapes Go.WideShapes Go.ChangeAt Go.RowKit Go.Maps
set_option linter.unusedVariables false
set_option linter.unusedSimpArgs false

def runS (s : Nat) (U : List Int) (st : AS) (T : List Stp) : Nat → AS
  | 0 => st
  | k + 1 => (doS s (T.getD k stp0) U (runS s U st T k)).1
theorem TI.less {st : AS} {U V : List Int} {K : Nat} (h : TI st (U ++ V) K) : TI st U K :=
  ⟨h.glen, h.gmax, h.pos, fun x hx => h.told x (List.mem_append.2 (.inl hx)), (List.nodup_append.1 h.unq).1⟩
theorem TI.run {s : Nat} {st : AS} {U : List Int} {T : List Stp} {K q : Nat} (h : TI (runS s U st T q) U K) (hK : K ≤ 100000) (hu : Pu s (runS s U st T q)) (h2 : 2 ≤ s) (h4 : s ≤ 4096) (ht : StpOk (T.getD q stp0)) : TI (runS s U st T (q + 1)) U (K + 1) := by
  have := (h.step hK hu h2 h4 ht).ti
  cases e : (doS s (T.getD q stp0) U (runS s U st T q)).2.2
  · rw [e] at this; exact this
  · rw [e] at this; exact TI.less this
end Go.Proofs.Ytbnbhhmgfogjeaa
