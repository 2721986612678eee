/- Copy. -/
import Derived.Test.YtlnfdcaljmfbjaaE
import Derived.Test.YtlnfdcaljmfbjaaS
namespace Go.Proofs.Ytlnfdcaljmfbjaa
open Go.ChangeShapes Go.WideShapes Go.ChangeAt Go.RowKit Go.Maps
set_option linter.unusedVariables false
set_option linter.unusedSimpArgs false

open Go.Shelf
theorem clone_any (b n : Nat) (C : List Ct) (w : World) (h : w.ownsMap Try.prog 3 R3 b n (dm C)) : Calls Try.prog 31 #[.map (some b)] w fun e w' => e = .returned (.map (some w.heap.size)) ∧ w'.ownsMap Try.prog 3 R3 w.heap.size n (dm C) ∧ Below w.heap.size w w' := by
  have hc := AnyW.maps_Clone_owns Try.mapsClone 3 R3 b n (dm C) w h
  change Calls Try.prog 31 _ _ _ at hc
  exact hc.mono fun e w' ⟨h1, h2, _, h4⟩ => ⟨h1, h2, h4⟩
def CopyEnd (C : List Ct) (w : World) (x : Ending) (w' : World) : Prop := ∃ q b, x = .returned (.pointer (some ⟨q, 0, none⟩)) ∧ DdAt w' w.heap.size q b C ∧ Below w.heap.size w w'
set_option maxRecDepth 100000 in
set_option maxHeartbeats 4000000 in
theorem copy_any (B p b : Nat) (C : List Ct) (w : World) (h : DdAt w B p b C) : Calls Try.prog 16 #[.pointer (some ⟨p, 0, none⟩)] w (CopyEnd C w) := by
  have HOK := Lib.hid h.ok
  have HC := Lib.hid (clone_any b C.length C w h.own.2)
  have k0 := h.blk.cell 0
  simp only [List.getElem?_toArray, List.getElem?_cons_zero] at k0
  clear h
  go_enter Try.func16, Try.ntmps16
  go_wp2_with fail
  refine (HC.out).mono ?_
  rintro x w1 ⟨rfl, ho, hb⟩
  have hb2 : Below w.heap.size w (w1.alloc (.cells #[.map (some w.heap.size)] 50)) := hb.alloc hb.size _
  have HF : Hid (DdAt (w1.alloc (.cells #[.map (some w.heap.size)] 50)) w.heap.size w1.heap.size w.heap.size C) := ⟨hb.size, Blk.new _ _ _, ⟨Nat.le_refl _, ho.alloc _⟩, HOK.out⟩
  have HB2 := Lib.hid hb2
  clear ho hb hb2 HC k0
  go_wp2
  go_ret
  exact ⟨_, _, rfl, HF.out, HB2.out⟩
end Go.Proofs.Ytlnfdcaljmfbjaa
