/-
CallNames: the examples, each Kind's text, what fits, and texts that are none (a closed statement: no inputs).
-/
import Derived.Test.YtkgdmdcnhbaidaaDoorR3
import Derived.Test.YtkgdmdcnhbaidaaDoorZS
import Derived.Test.YtkgdmdcnhbaidaaDoorZL
import Derived.Test.YtkgdmdcnhbaidaaDoorLF
import Derived.Test.YtkgdmdcnhbaidaaDoorOC
import Derived.Shelf.Vars
import Derived.Deep.Strs
import Derived.Test.YtkgdmdcnhbaidaaDoorTie
import Derived.Test.YtkgdmdcnhbaidaaDoorCards
import Derived.SevenTiedAt
import Derived.Lay
import Derived.LaidLaws
import Derived.LaidHandle
namespace Go.Proofs.YtkgdmdcnhbaidaaDoor.callNames
open Go.ChangeShapes Go.WideShapes Go.ChangeAt Go.RowKit Go.Deep
set_option linter.unusedVariables false
set_option linter.unusedSimpArgs false
theorem own : ownKnob Tryd.prog.godebug = none := by kernel_rfl
theorem laidOut : laidOutB Tryd.prog = true := by kernel_rfl

/-- the tables, out of the row's laid condition -/
theorem callNames_gl {W : World} (h : laidMetH Tryd.prog Rows.callNamesRow.laid W) (hlo : 8 ≤ W.heap.size) (hmx : ∃ m, W.cell? ⟨2, 0, none⟩ = some (.int .i64 m)) : Gl W := gl_of_laid (show laidMetH Tryd.prog Rows.callLargerRow.laid W from h) hlo hmx
set_option maxRecDepth 100000

set_option maxRecDepth 100000 in
theorem lifted (os : Os) (started : os.Started) (H : Type) (enc : TypeId × Value → H) :
    ReturnsInHanded {} Tryd.checked os 3 .any (fun w args => (Rows.callNamesSpec.pre enc Tryd.prog Tryd.f3 Rows.callNamesRow.domain false w args ∧ laidMetH Tryd.prog Rows.callNamesRow.laid w) ∧ sizedMet enc Tryd.prog Tryd.f3 (OpenSpec.ofChange Rows.callNamesSpec) false w args) (Rows.callNamesSpec.post enc Tryd.prog Tryd.f3 false true false false) := by
  refine handed_shaped (C := Tryd.checked) (X := fun w _ => laidMetH Tryd.prog Rows.callNamesRow.laid w) (fun _ _ _ hh h => h.of_heap hh) own started (by kernel_rfl) Tryd.func3
    (ChangeSpec.witness_shaped (enc := enc) (C := Tryd.checked) (os := os) (X := fun w _ => laidMetH Tryd.prog Rows.callNamesRow.laid w) false (World.laidAll Tryd.prog os Rows.callNamesRow.laid) #[] 8 (World.laidAll_os _ _ _)
      (World.shaped_of_ZipB (by kernel_rfl) (by kernel_rfl)) (by kernel_rfl) (by kernel_rfl) (by kernel_rfl)
      (by rw [MakeChecks.laidMetH_plain _ _ _ (by kernel_rfl)]; exact laidMet_laidAll _ (by kernel_rfl) (by kernel_rfl))) ?_
  intro W base args ds gs before hval0 hW _ hsz hL hsh
  have hval : ∀ (j : Nat) t v, Tryd.f3.params[j]? = some t → args[j]? = some v → Value.okWide Tryd.prog W .any base t v := hval0
  have hW' := hW
  obtain ⟨p, q, hA0, hV, hbef, _, _⟩ := hW
  have hA : DataW.TrodAll enc Tryd.prog W 0 (fun _ => true) true Tryd.f3.params.toList args.toList ds p := hA0
  rw [Tryd.params3] at hA hval
  obtain ⟨h1, rfl, rfl⟩ := trodAll_nil hA
  obtain rfl : args = #[] := by cases args; simp_all
  obtain ⟨rfl, rfl⟩ := trodVars_none hV

  refine (names_walk W (callNames_gl hL (size_of_shaped hsh (g := 7) (of_decide_eq_true (by kernel_rfl)) (by kernel_rfl)) (Go.Proofs.cell_of_shapedOpen_int (zero := #[.int .i64 0]) (t := 3) hsh (of_decide_eq_true (by kernel_rfl)) (by kernel_rfl) rfl (by kernel_rfl) (by kernel_rfl) Tryd.underlying3))).mono fun e W' ⟨he, hb⟩ => ?_
  subst he
  exact ⟨_, rfl, law_post laidOut (of_decide_eq_true (by kernel_rfl)) rfl Tryd.underlying4 rfl rfl hW' hb⟩

theorem over : Rows.callNamesRow.holds Tryd.pinned (OpenSpec.ofChange Rows.callNamesSpec) :=
  OpenClaim.holds_of_wide 3 Tryd.f3 rfl rfl rfl rfl rfl rfl rfl ⟨rfl, rfl, rfl, rfl, rfl⟩ rfl rfl rfl rfl rfl (by kernel_rfl) Tryd.func3 (by kernel_rfl)
    (of_decide_eq_true (by kernel_rfl)) (by unfold Func.isWrapper; first | (rw [if_pos (by decide +kernel)]; kernel_rfl) | (rw [if_neg (by decide +kernel)]; exact ⟨rfl, rfl⟩))
    (fun os started H enc _ => lifted os started H enc)
set_option maxHeartbeats 4000000 in
theorem card : Rows.CallNamesCardSaid :=
  Claim7.holds_tied_plain_at .later [] [.data, .data, .data, .data, .sentinel, .sentinel, .data, .data, .pinned] true (true, "871192f1426a74dcb09d19c3df5a1cd7abbd666c58880b36d4d2d4dd25c79973") true over (fun _ h => by cases h) (by kernel_rfl) (fun _ h => by cases h) callNames_row_tie rfl ⟨rfl, rfl⟩ (by kernel_rfl) rfl
    (fun f fn hf hfn => by
      obtain rfl : f = 3 := Option.some.inj ((show Tryd.prog.funcNamed "ferryman/ferrymanlaw20.CallNames" = some 3 by kernel_rfl).symm.trans hf) |>.symm
      obtain rfl : fn = Tryd.f3 := (Option.some.inj (Tryd.func3.symm.trans hfn)).symm
      exact ⟨by kernel_rfl, fun j t ht => by
        rw [Tryd.params3] at ht
        simp at ht⟩)
    (by kernel_rfl)
end Go.Proofs.YtkgdmdcnhbaidaaDoor.callNames
namespace Go.Proofs.YtkgdmdcnhbaidaaDoor
theorem callNames_holds : Rows.CallNamesCardSaid := callNames.card
end Go.Proofs.YtkgdmdcnhbaidaaDoor
