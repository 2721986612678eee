/- What regions keep; the steps of calls in them. -/
import Derived.Test.YtmkgipbepipjkaaDoorD
namespace Go.Proofs.YtmkgipbepipjkaaDoor
open Go.ChangeShapes Go.WideShapes Go.ChangeAt Go.RowKit
set_option linter.unusedVariables false
set_option linter.unusedSimpArgs false

def Aft (w W : World) : Prop := Below w.heap.size w W
theorem Aft.refl (w : World) : Aft w w := Below.refl _ _
theorem Aft.drew0 (w : World) : Aft w w.drew := (Below.refl _ _).drew
theorem Aft.drew {w W : World} (h : Aft w W) : Aft w W.drew := Below.drew h
theorem Aft.drewN {w W : World} (h : Aft w W) (n : Nat) : Aft w (W.drewN n) := below_drewN h n
theorem Aft.alloc {w W : World} (h : Aft w W) (o : Obj) : Aft w (W.alloc o) := Below.alloc h h.size o
theorem Aft.size {w W : World} (h : Aft w W) : w.heap.size ≤ W.heap.size := Below.size h
theorem Aft.below {w W W' : World} (h : Aft w W) (k : Below W.heap.size W W') : Aft w W' := stepB h k
theorem cell_later {W W' : World} {g o : Nat} {v : Value} (h : W.cell? ⟨g, o, none⟩ = some v) (hb : Below W.heap.size W W') : W'.cell? ⟨g, o, none⟩ = some v := (hb.cell (p := ⟨g, o, none⟩) (lt_of_cell h)).trans h
theorem step_callw {P : Program} {ops : Array Oper} {Q : Exit → Act → World → Prop} {o : Oper} {a : Act} {w : World} {K : Act → World → Prop} {D : Prop} (hw : Region.wanted o (yielded ops a.tmps) = true) (f : FuncId) (args : Array Value) (hrun : (execOp a.eval o).run P w = .ok (.enter f args) w) (h : Calls P f args w fun e w' => ∃ v, e = .returned v ∧ K (a.put o.dst v) w') :
    if Region.wanted o (yielded ops a.tmps) = true then Oper.wp P o a w K Q else D := by
  rw [if_pos hw]
  unfold Oper.wp
  rw [hrun, Oper.upon_enter]
  refine h.mono fun e w' hh => ?_
  obtain ⟨v, rfl, hk⟩ := hh
  exact hk
theorem step_runw {P : Program} {ops : Array Oper} {Q : Exit → Act → World → Prop} {o : Oper} {a : Act} {w w' : World} {v : Value} {K : Act → World → Prop} {D : Prop} (hw : Region.wanted o (yielded ops a.tmps) = true) (hrun : (execOp a.eval o).run P w = .ok (.value v) w') (h : K (a.put o.dst v) w') :
    if Region.wanted o (yielded ops a.tmps) = true then Oper.wp P o a w K Q else D := by
  rw [if_pos hw]
  unfold Oper.wp
  rw [hrun]
  exact h
end Go.Proofs.YtmkgipbepipjkaaDoor
