/-
  No cell of these rows narrows 'for every input' (looked for: loops, veiled, ifaces, maps, wideKeys, modest, calm, conditions, laid).
  DERIVED. THE GIVEN ROWS OF THIS SEAT. 12 by the template 'for every input the law returns true; each argument reads behind the call as it read before'; 0 by the template 'total and deterministic' (their statements: YtoinjnocopejjaaTotals.lean).
  GIVEN WITH THE SEED: the statements are not yours to turn. If you find one false, say at which input.
  Laid BY PROGRAM, IN A SANDBOX (cutbox-rows.mjs): the forced cells as the released guide's own fill.sh prints them over the translation dbcff4ca394b0729… (all of the seat's roots in one cut). By AI agents, Wed Nov 11 2026. No macro, syntax, notation, axiom, sorry.
-/
import Derived.Test.YtoinjnocopejjaaChecked
import GoSem.Claim
import GoSem.ClaimJoined
import GoSem.ClaimMapViews
import Derived.JoinedTies
import Derived.KernelRfl
namespace Go.Proofs.Ytoinjnocopejjaa
/- THE CELL 'sum', in the pinned program and in every row, IS THE sha256 OF THE DUMP (.gsa) THAT YtoinjnocopejjaaProg.lean LOADS. Nothing in Lean hashes anything: it is a label: what it is worth is what the hold of that sum in a sandbox is worth. -/
noncomputable def Try.pinned : Pinned := { name := "ytoinjnocopejjaa", sum := "dbcff4ca394b072998bc9dff1141c7dd29b6c01f8d8639631f9d2ceb74fceabe", checked := Try.checked }
namespace Rows
def none {H : Type} : Left H := { results := [], args := [] }

/-- 'ferrymanlaw16.ModelNames': WHATEVER THE INPUT: true; the input reads as it did. -/
def modelNamesSpec : ChangeSpec := { name := "modelNames", fn := fun _ => fun
  | [] => { results := [.lit (.bool true)], args := [] }
  | _ => none }
def modelNamesRow : OpenClaim := { program := "ytoinjnocopejjaa", sum := "dbcff4ca394b072998bc9dff1141c7dd29b6c01f8d8639631f9d2ceb74fceabe", func := "ferryman/ferrymanlaw16.ModelNames", spec := "modelNames", inPlace := ["internal/bytealg.abigen_runtime_cmpstring", "slices.overlaps[ferryman/api.Version]", "maps.clone"], unfollowed := true, recurses := true, apart := false }
def ModelNamesSaid : Prop := modelNamesRow.holds Try.pinned (OpenSpec.ofChange modelNamesSpec)

/-- ITS FALSE NEIGHBOUR: 'it returns false'. Refute it at one input. -/
def modelNamesWrong : ChangeSpec := { name := "modelNames", fn := fun _ => fun
  | [] => { results := [.lit (.bool false)], args := [] }
  | _ => none }
def ModelNamesWrongFalsely : Prop := modelNamesRow.holds Try.pinned (OpenSpec.ofChange modelNamesWrong)

/-- 'ferrymanlaw16.ModelSnapshot': WHATEVER THE INPUT: true; the input reads as it did. -/
def modelSnapshotSpec : ChangeSpec := { name := "modelSnapshot", fn := fun _ => fun
  | [d1, d2] => { results := [.lit (.bool true)], args := [d1, d2] }
  | _ => none }
def modelSnapshotRow : OpenClaim := { program := "ytoinjnocopejjaa", sum := "dbcff4ca394b072998bc9dff1141c7dd29b6c01f8d8639631f9d2ceb74fceabe", func := "ferryman/ferrymanlaw16.ModelSnapshot", spec := "modelSnapshot", inPlace := ["internal/bytealg.abigen_runtime_cmpstring", "slices.overlaps[ferryman/api.Version]"], unfollowed := true, recurses := true, apart := false }
def ModelSnapshotSaid : Prop := modelSnapshotRow.holds Try.pinned (OpenSpec.ofChange modelSnapshotSpec)

/-- ITS FALSE NEIGHBOUR: 'it returns false'. Refute it at one input. -/
def modelSnapshotWrong : ChangeSpec := { name := "modelSnapshot", fn := fun _ => fun
  | [d1, d2] => { results := [.lit (.bool false)], args := [d1, d2] }
  | _ => none }
def ModelSnapshotWrongFalsely : Prop := modelSnapshotRow.holds Try.pinned (OpenSpec.ofChange modelSnapshotWrong)

/-- 'ferrymanlaw16.ModelVacuums': WHATEVER THE INPUT: true; the input reads as it did. -/
def modelVacuumsSpec : ChangeSpec := { name := "modelVacuums", fn := fun _ => fun
  | [d1, d2, d3] => { results := [.lit (.bool true)], args := [d1, d2, d3] }
  | _ => none }
def modelVacuumsRow : OpenClaim := { program := "ytoinjnocopejjaa", sum := "dbcff4ca394b072998bc9dff1141c7dd29b6c01f8d8639631f9d2ceb74fceabe", func := "ferryman/ferrymanlaw16.ModelVacuums", spec := "modelVacuums", inPlace := ["internal/bytealg.abigen_runtime_cmpstring", "slices.overlaps[ferryman/api.Version]"], unfollowed := true, recurses := true, apart := false }
def ModelVacuumsSaid : Prop := modelVacuumsRow.holds Try.pinned (OpenSpec.ofChange modelVacuumsSpec)

/-- ITS FALSE NEIGHBOUR: 'it returns false'. Refute it at one input. -/
def modelVacuumsWrong : ChangeSpec := { name := "modelVacuums", fn := fun _ => fun
  | [d1, d2, d3] => { results := [.lit (.bool false)], args := [d1, d2, d3] }
  | _ => none }
def ModelVacuumsWrongFalsely : Prop := modelVacuumsRow.holds Try.pinned (OpenSpec.ofChange modelVacuumsWrong)

/-- 'ferrymanlaw16.ModelFirst': WHATEVER THE INPUT: true; the input reads as it did. -/
def modelFirstSpec : ChangeSpec := { name := "modelFirst", fn := fun _ => fun
  | [d1, d2] => { results := [.lit (.bool true)], args := [d1, d2] }
  | _ => none }
def modelFirstRow : OpenClaim := { program := "ytoinjnocopejjaa", sum := "dbcff4ca394b072998bc9dff1141c7dd29b6c01f8d8639631f9d2ceb74fceabe", func := "ferryman/ferrymanlaw16.ModelFirst", spec := "modelFirst", inPlace := ["internal/bytealg.abigen_runtime_cmpstring", "slices.overlaps[ferryman/api.Version]"], unfollowed := true, recurses := true, apart := false }
def ModelFirstSaid : Prop := modelFirstRow.holds Try.pinned (OpenSpec.ofChange modelFirstSpec)

/-- ITS FALSE NEIGHBOUR: 'it returns false'. Refute it at one input. -/
def modelFirstWrong : ChangeSpec := { name := "modelFirst", fn := fun _ => fun
  | [d1, d2] => { results := [.lit (.bool false)], args := [d1, d2] }
  | _ => none }
def ModelFirstWrongFalsely : Prop := modelFirstRow.holds Try.pinned (OpenSpec.ofChange modelFirstWrong)

/-- 'ferrymanlaw16.ModelMany': WHATEVER THE INPUT: true; the input reads as it did. -/
def modelManySpec : ChangeSpec := { name := "modelMany", fn := fun _ => fun
  | [d1, d2] => { results := [.lit (.bool true)], args := [d1, d2] }
  | _ => none }
def modelManyRow : OpenClaim := { program := "ytoinjnocopejjaa", sum := "dbcff4ca394b072998bc9dff1141c7dd29b6c01f8d8639631f9d2ceb74fceabe", func := "ferryman/ferrymanlaw16.ModelMany", spec := "modelMany", inPlace := ["internal/bytealg.abigen_runtime_cmpstring", "slices.overlaps[ferryman/api.Version]", "maps.clone"], unfollowed := true, recurses := true, apart := false }
def ModelManySaid : Prop := modelManyRow.holds Try.pinned (OpenSpec.ofChange modelManySpec)

/-- ITS FALSE NEIGHBOUR: 'it returns false'. Refute it at one input. -/
def modelManyWrong : ChangeSpec := { name := "modelMany", fn := fun _ => fun
  | [d1, d2] => { results := [.lit (.bool false)], args := [d1, d2] }
  | _ => none }
def ModelManyWrongFalsely : Prop := modelManyRow.holds Try.pinned (OpenSpec.ofChange modelManyWrong)

/-- 'ferrymanlaw16.ModelTasks': WHATEVER THE INPUT: true; the input reads as it did. -/
def modelTasksSpec : ChangeSpec := { name := "modelTasks", fn := fun _ => fun
  | [d1, d2, d3] => { results := [.lit (.bool true)], args := [d1, d2, d3] }
  | _ => none }
def modelTasksRow : OpenClaim := { program := "ytoinjnocopejjaa", sum := "dbcff4ca394b072998bc9dff1141c7dd29b6c01f8d8639631f9d2ceb74fceabe", func := "ferryman/ferrymanlaw16.ModelTasks", spec := "modelTasks", inPlace := ["internal/bytealg.abigen_runtime_cmpstring", "slices.overlaps[ferryman/api.Version]", "maps.clone"], unfollowed := true, recurses := true, apart := false }
def ModelTasksSaid : Prop := modelTasksRow.holds Try.pinned (OpenSpec.ofChange modelTasksSpec)

/-- ITS FALSE NEIGHBOUR: 'it returns false'. Refute it at one input. -/
def modelTasksWrong : ChangeSpec := { name := "modelTasks", fn := fun _ => fun
  | [d1, d2, d3] => { results := [.lit (.bool false)], args := [d1, d2, d3] }
  | _ => none }
def ModelTasksWrongFalsely : Prop := modelTasksRow.holds Try.pinned (OpenSpec.ofChange modelTasksWrong)

/-- 'ferrymanlaw16.ModelCopies': WHATEVER THE INPUT: true; the input reads as it did. -/
def modelCopiesSpec : ChangeSpec := { name := "modelCopies", fn := fun _ => fun
  | [d1, d2, d3] => { results := [.lit (.bool true)], args := [d1, d2, d3] }
  | _ => none }
def modelCopiesRow : OpenClaim := { program := "ytoinjnocopejjaa", sum := "dbcff4ca394b072998bc9dff1141c7dd29b6c01f8d8639631f9d2ceb74fceabe", func := "ferryman/ferrymanlaw16.ModelCopies", spec := "modelCopies", inPlace := ["internal/bytealg.abigen_runtime_cmpstring", "slices.overlaps[ferryman/api.Version]", "maps.clone"], unfollowed := true, recurses := true, apart := false }
def ModelCopiesSaid : Prop := modelCopiesRow.holds Try.pinned (OpenSpec.ofChange modelCopiesSpec)

/-- ITS FALSE NEIGHBOUR: 'it returns false'. Refute it at one input. -/
def modelCopiesWrong : ChangeSpec := { name := "modelCopies", fn := fun _ => fun
  | [d1, d2, d3] => { results := [.lit (.bool false)], args := [d1, d2, d3] }
  | _ => none }
def ModelCopiesWrongFalsely : Prop := modelCopiesRow.holds Try.pinned (OpenSpec.ofChange modelCopiesWrong)

/-- 'ferrymanlaw30.RoomNames': WHATEVER THE INPUT: true; the input reads as it did. -/
def roomNamesSpec : ChangeSpec := { name := "roomNames", fn := fun _ => fun
  | [] => { results := [.lit (.bool true)], args := [] }
  | _ => none }
def roomNamesRow : OpenClaim := { program := "ytoinjnocopejjaa", sum := "dbcff4ca394b072998bc9dff1141c7dd29b6c01f8d8639631f9d2ceb74fceabe", func := "ferryman/ferrymanlaw30.RoomNames", spec := "roomNames", inPlace := ["internal/bytealg.abigen_runtime_cmpstring", "slices.overlaps[ferryman/api.Version]"], unfollowed := true, recurses := true, apart := false }
def RoomNamesSaid : Prop := roomNamesRow.holds Try.pinned (OpenSpec.ofChange roomNamesSpec)

/-- ITS FALSE NEIGHBOUR: 'it returns false'. Refute it at one input. -/
def roomNamesWrong : ChangeSpec := { name := "roomNames", fn := fun _ => fun
  | [] => { results := [.lit (.bool false)], args := [] }
  | _ => none }
def RoomNamesWrongFalsely : Prop := roomNamesRow.holds Try.pinned (OpenSpec.ofChange roomNamesWrong)

/-- 'ferrymanlaw30.RoomBelow': WHATEVER THE INPUT: true; the input reads as it did. -/
def roomBelowSpec : ChangeSpec := { name := "roomBelow", fn := fun _ => fun
  | [d1, d2, d3] => { results := [.lit (.bool true)], args := [d1, d2, d3] }
  | _ => none }
def roomBelowRow : OpenClaim := { program := "ytoinjnocopejjaa", sum := "dbcff4ca394b072998bc9dff1141c7dd29b6c01f8d8639631f9d2ceb74fceabe", func := "ferryman/ferrymanlaw30.RoomBelow", spec := "roomBelow", inPlace := ["internal/bytealg.abigen_runtime_cmpstring", "slices.overlaps[ferryman/api.Version]"], unfollowed := true, recurses := true, apart := false }
def RoomBelowSaid : Prop := roomBelowRow.holds Try.pinned (OpenSpec.ofChange roomBelowSpec)

/-- ITS FALSE NEIGHBOUR: 'it returns false'. Refute it at one input. -/
def roomBelowWrong : ChangeSpec := { name := "roomBelow", fn := fun _ => fun
  | [d1, d2, d3] => { results := [.lit (.bool false)], args := [d1, d2, d3] }
  | _ => none }
def RoomBelowWrongFalsely : Prop := roomBelowRow.holds Try.pinned (OpenSpec.ofChange roomBelowWrong)

/-- 'ferrymanlaw30.RoomRests': WHATEVER THE INPUT: true; the input reads as it did. -/
def roomRestsSpec : ChangeSpec := { name := "roomRests", fn := fun _ => fun
  | [d1, d2, d3] => { results := [.lit (.bool true)], args := [d1, d2, d3] }
  | _ => none }
def roomRestsRow : OpenClaim := { program := "ytoinjnocopejjaa", sum := "dbcff4ca394b072998bc9dff1141c7dd29b6c01f8d8639631f9d2ceb74fceabe", func := "ferryman/ferrymanlaw30.RoomRests", spec := "roomRests", inPlace := ["internal/bytealg.abigen_runtime_cmpstring", "slices.overlaps[ferryman/api.Version]"], unfollowed := true, recurses := true, apart := false }
def RoomRestsSaid : Prop := roomRestsRow.holds Try.pinned (OpenSpec.ofChange roomRestsSpec)

/-- ITS FALSE NEIGHBOUR: 'it returns false'. Refute it at one input. -/
def roomRestsWrong : ChangeSpec := { name := "roomRests", fn := fun _ => fun
  | [d1, d2, d3] => { results := [.lit (.bool false)], args := [d1, d2, d3] }
  | _ => none }
def RoomRestsWrongFalsely : Prop := roomRestsRow.holds Try.pinned (OpenSpec.ofChange roomRestsWrong)

/-- 'ferrymanlaw30.RoomEvents': WHATEVER THE INPUT: true; the input reads as it did. -/
def roomEventsSpec : ChangeSpec := { name := "roomEvents", fn := fun _ => fun
  | [d1, d2, d3] => { results := [.lit (.bool true)], args := [d1, d2, d3] }
  | _ => none }
def roomEventsRow : OpenClaim := { program := "ytoinjnocopejjaa", sum := "dbcff4ca394b072998bc9dff1141c7dd29b6c01f8d8639631f9d2ceb74fceabe", func := "ferryman/ferrymanlaw30.RoomEvents", spec := "roomEvents", inPlace := ["internal/bytealg.abigen_runtime_cmpstring", "slices.overlaps[ferryman/api.Version]"], unfollowed := true, recurses := true, apart := false }
def RoomEventsSaid : Prop := roomEventsRow.holds Try.pinned (OpenSpec.ofChange roomEventsSpec)

/-- ITS FALSE NEIGHBOUR: 'it returns false'. Refute it at one input. -/
def roomEventsWrong : ChangeSpec := { name := "roomEvents", fn := fun _ => fun
  | [d1, d2, d3] => { results := [.lit (.bool false)], args := [d1, d2, d3] }
  | _ => none }
def RoomEventsWrongFalsely : Prop := roomEventsRow.holds Try.pinned (OpenSpec.ofChange roomEventsWrong)

/-- 'ferrymanlaw30.RoomLarger': WHATEVER THE INPUT: true; the input reads as it did. -/
def roomLargerSpec : ChangeSpec := { name := "roomLarger", fn := fun _ => fun
  | [d1, d2, d3] => { results := [.lit (.bool true)], args := [d1, d2, d3] }
  | _ => none }
def roomLargerRow : OpenClaim := { program := "ytoinjnocopejjaa", sum := "dbcff4ca394b072998bc9dff1141c7dd29b6c01f8d8639631f9d2ceb74fceabe", func := "ferryman/ferrymanlaw30.RoomLarger", spec := "roomLarger", inPlace := ["internal/bytealg.abigen_runtime_cmpstring", "slices.overlaps[ferryman/api.Version]"], unfollowed := true, recurses := true, apart := false }
def RoomLargerSaid : Prop := roomLargerRow.holds Try.pinned (OpenSpec.ofChange roomLargerSpec)

/-- ITS FALSE NEIGHBOUR: 'it returns false'. Refute it at one input. -/
def roomLargerWrong : ChangeSpec := { name := "roomLarger", fn := fun _ => fun
  | [d1, d2, d3] => { results := [.lit (.bool false)], args := [d1, d2, d3] }
  | _ => none }
def RoomLargerWrongFalsely : Prop := roomLargerRow.holds Try.pinned (OpenSpec.ofChange roomLargerWrong)

/- THE SECOND FORM. 'bulk': how many values and letters a reading holds, each counted each time it is reached (what is shared counts as often as it is met; a slice's spare places count too). A statement '..UptoSaid' is the law's where the arguments, and the package variables that the reading takes, are together of bulk at most 1048576: NARROWER than '..Said'. Prove '..Said' where nothing that the law and all that it calls make is longer than what came in: it says more and counts as full. Else prove '..UptoSaid'. A law counts once. -/
mutual
def uptoBulk {H : Type} : DataW H → Nat
  | .lit (.string bytes) => bytes.length + 1
  | .lit _ => 1
  | .nil => 1
  | .ptr d => uptoBulk d + 1
  | .slice elems spare => uptoBulkAll elems + uptoBulkAll spare + 1
  | .agg parts => uptoBulkAll parts + 1
  | .iface _ d => uptoBulk d + 1
  | .map entries => uptoBulkEntries entries + 1
  | .held _ => 1
def uptoBulkAll {H : Type} : List (DataW H) → Nat
  | [] => 0
  | d :: r => uptoBulk d + uptoBulkAll r
def uptoBulkEntries {H : Type} : List (Lit × DataW H) → Nat
  | [] => 0
  | x :: r => uptoBulkEntry x + uptoBulkEntries r
def uptoBulkEntry {H : Type} : Lit × DataW H → Nat
  | (.string bytes, d) => bytes.length + uptoBulk d + 1
  | (_, d) => uptoBulk d + 1
 end
def uptoSmall : (H : Type) → List (DataW H) → Bool := fun _ ds => decide (uptoBulkAll ds ≤ 1048576)
def OpenSpec.upto (s : _root_.Go.ChangeSpec) : _root_.Go.OpenSpec := { _root_.Go.OpenSpec.ofChange s with cond := some uptoSmall }

/-- 'ferrymanlaw16.ModelNames', WHERE WHAT IT READS IS OF BULK AT MOST 1048576: true; the input reads as it did. -/
def modelNamesUptoRow : OpenClaim := { program := "ytoinjnocopejjaa", sum := "dbcff4ca394b072998bc9dff1141c7dd29b6c01f8d8639631f9d2ceb74fceabe", func := "ferryman/ferrymanlaw16.ModelNames", spec := "modelNames", inPlace := ["internal/bytealg.abigen_runtime_cmpstring", "slices.overlaps[ferryman/api.Version]", "maps.clone"], unfollowed := true, recurses := true, apart := false, narrowed := true }
def ModelNamesUptoSaid : Prop := modelNamesUptoRow.holds Try.pinned (OpenSpec.upto modelNamesSpec)

/-- 'ferrymanlaw16.ModelSnapshot', WHERE WHAT IT READS IS OF BULK AT MOST 1048576: true; the input reads as it did. -/
def modelSnapshotUptoRow : OpenClaim := { program := "ytoinjnocopejjaa", sum := "dbcff4ca394b072998bc9dff1141c7dd29b6c01f8d8639631f9d2ceb74fceabe", func := "ferryman/ferrymanlaw16.ModelSnapshot", spec := "modelSnapshot", inPlace := ["internal/bytealg.abigen_runtime_cmpstring", "slices.overlaps[ferryman/api.Version]"], unfollowed := true, recurses := true, apart := false, narrowed := true }
def ModelSnapshotUptoSaid : Prop := modelSnapshotUptoRow.holds Try.pinned (OpenSpec.upto modelSnapshotSpec)

/-- 'ferrymanlaw16.ModelVacuums', WHERE WHAT IT READS IS OF BULK AT MOST 1048576: true; the input reads as it did. -/
def modelVacuumsUptoRow : OpenClaim := { program := "ytoinjnocopejjaa", sum := "dbcff4ca394b072998bc9dff1141c7dd29b6c01f8d8639631f9d2ceb74fceabe", func := "ferryman/ferrymanlaw16.ModelVacuums", spec := "modelVacuums", inPlace := ["internal/bytealg.abigen_runtime_cmpstring", "slices.overlaps[ferryman/api.Version]"], unfollowed := true, recurses := true, apart := false, narrowed := true }
def ModelVacuumsUptoSaid : Prop := modelVacuumsUptoRow.holds Try.pinned (OpenSpec.upto modelVacuumsSpec)

/-- 'ferrymanlaw16.ModelFirst', WHERE WHAT IT READS IS OF BULK AT MOST 1048576: true; the input reads as it did. -/
def modelFirstUptoRow : OpenClaim := { program := "ytoinjnocopejjaa", sum := "dbcff4ca394b072998bc9dff1141c7dd29b6c01f8d8639631f9d2ceb74fceabe", func := "ferryman/ferrymanlaw16.ModelFirst", spec := "modelFirst", inPlace := ["internal/bytealg.abigen_runtime_cmpstring", "slices.overlaps[ferryman/api.Version]"], unfollowed := true, recurses := true, apart := false, narrowed := true }
def ModelFirstUptoSaid : Prop := modelFirstUptoRow.holds Try.pinned (OpenSpec.upto modelFirstSpec)

/-- 'ferrymanlaw16.ModelMany', WHERE WHAT IT READS IS OF BULK AT MOST 1048576: true; the input reads as it did. -/
def modelManyUptoRow : OpenClaim := { program := "ytoinjnocopejjaa", sum := "dbcff4ca394b072998bc9dff1141c7dd29b6c01f8d8639631f9d2ceb74fceabe", func := "ferryman/ferrymanlaw16.ModelMany", spec := "modelMany", inPlace := ["internal/bytealg.abigen_runtime_cmpstring", "slices.overlaps[ferryman/api.Version]", "maps.clone"], unfollowed := true, recurses := true, apart := false, narrowed := true }
def ModelManyUptoSaid : Prop := modelManyUptoRow.holds Try.pinned (OpenSpec.upto modelManySpec)

/-- 'ferrymanlaw16.ModelTasks', WHERE WHAT IT READS IS OF BULK AT MOST 1048576: true; the input reads as it did. -/
def modelTasksUptoRow : OpenClaim := { program := "ytoinjnocopejjaa", sum := "dbcff4ca394b072998bc9dff1141c7dd29b6c01f8d8639631f9d2ceb74fceabe", func := "ferryman/ferrymanlaw16.ModelTasks", spec := "modelTasks", inPlace := ["internal/bytealg.abigen_runtime_cmpstring", "slices.overlaps[ferryman/api.Version]", "maps.clone"], unfollowed := true, recurses := true, apart := false, narrowed := true }
def ModelTasksUptoSaid : Prop := modelTasksUptoRow.holds Try.pinned (OpenSpec.upto modelTasksSpec)

/-- 'ferrymanlaw16.ModelCopies', WHERE WHAT IT READS IS OF BULK AT MOST 1048576: true; the input reads as it did. -/
def modelCopiesUptoRow : OpenClaim := { program := "ytoinjnocopejjaa", sum := "dbcff4ca394b072998bc9dff1141c7dd29b6c01f8d8639631f9d2ceb74fceabe", func := "ferryman/ferrymanlaw16.ModelCopies", spec := "modelCopies", inPlace := ["internal/bytealg.abigen_runtime_cmpstring", "slices.overlaps[ferryman/api.Version]", "maps.clone"], unfollowed := true, recurses := true, apart := false, narrowed := true }
def ModelCopiesUptoSaid : Prop := modelCopiesUptoRow.holds Try.pinned (OpenSpec.upto modelCopiesSpec)

/-- 'ferrymanlaw30.RoomNames', WHERE WHAT IT READS IS OF BULK AT MOST 1048576: true; the input reads as it did. -/
def roomNamesUptoRow : OpenClaim := { program := "ytoinjnocopejjaa", sum := "dbcff4ca394b072998bc9dff1141c7dd29b6c01f8d8639631f9d2ceb74fceabe", func := "ferryman/ferrymanlaw30.RoomNames", spec := "roomNames", inPlace := ["internal/bytealg.abigen_runtime_cmpstring", "slices.overlaps[ferryman/api.Version]"], unfollowed := true, recurses := true, apart := false, narrowed := true }
def RoomNamesUptoSaid : Prop := roomNamesUptoRow.holds Try.pinned (OpenSpec.upto roomNamesSpec)

/-- 'ferrymanlaw30.RoomBelow', WHERE WHAT IT READS IS OF BULK AT MOST 1048576: true; the input reads as it did. -/
def roomBelowUptoRow : OpenClaim := { program := "ytoinjnocopejjaa", sum := "dbcff4ca394b072998bc9dff1141c7dd29b6c01f8d8639631f9d2ceb74fceabe", func := "ferryman/ferrymanlaw30.RoomBelow", spec := "roomBelow", inPlace := ["internal/bytealg.abigen_runtime_cmpstring", "slices.overlaps[ferryman/api.Version]"], unfollowed := true, recurses := true, apart := false, narrowed := true }
def RoomBelowUptoSaid : Prop := roomBelowUptoRow.holds Try.pinned (OpenSpec.upto roomBelowSpec)

/-- 'ferrymanlaw30.RoomRests', WHERE WHAT IT READS IS OF BULK AT MOST 1048576: true; the input reads as it did. -/
def roomRestsUptoRow : OpenClaim := { program := "ytoinjnocopejjaa", sum := "dbcff4ca394b072998bc9dff1141c7dd29b6c01f8d8639631f9d2ceb74fceabe", func := "ferryman/ferrymanlaw30.RoomRests", spec := "roomRests", inPlace := ["internal/bytealg.abigen_runtime_cmpstring", "slices.overlaps[ferryman/api.Version]"], unfollowed := true, recurses := true, apart := false, narrowed := true }
def RoomRestsUptoSaid : Prop := roomRestsUptoRow.holds Try.pinned (OpenSpec.upto roomRestsSpec)

/-- 'ferrymanlaw30.RoomEvents', WHERE WHAT IT READS IS OF BULK AT MOST 1048576: true; the input reads as it did. -/
def roomEventsUptoRow : OpenClaim := { program := "ytoinjnocopejjaa", sum := "dbcff4ca394b072998bc9dff1141c7dd29b6c01f8d8639631f9d2ceb74fceabe", func := "ferryman/ferrymanlaw30.RoomEvents", spec := "roomEvents", inPlace := ["internal/bytealg.abigen_runtime_cmpstring", "slices.overlaps[ferryman/api.Version]"], unfollowed := true, recurses := true, apart := false, narrowed := true }
def RoomEventsUptoSaid : Prop := roomEventsUptoRow.holds Try.pinned (OpenSpec.upto roomEventsSpec)

/-- 'ferrymanlaw30.RoomLarger', WHERE WHAT IT READS IS OF BULK AT MOST 1048576: true; the input reads as it did. -/
def roomLargerUptoRow : OpenClaim := { program := "ytoinjnocopejjaa", sum := "dbcff4ca394b072998bc9dff1141c7dd29b6c01f8d8639631f9d2ceb74fceabe", func := "ferryman/ferrymanlaw30.RoomLarger", spec := "roomLarger", inPlace := ["internal/bytealg.abigen_runtime_cmpstring", "slices.overlaps[ferryman/api.Version]"], unfollowed := true, recurses := true, apart := false, narrowed := true }
def RoomLargerUptoSaid : Prop := roomLargerUptoRow.holds Try.pinned (OpenSpec.upto roomLargerSpec)

end Rows
end Go.Proofs.Ytoinjnocopejjaa
