/-
CallAnswers: what is read of a text is what the document reads, what is told what it tells, twice over, also where the pairs that were handed back are written over. For any answer, any text.
-/
import Derived.Test.YtkgdmdcnhbaidaaDoorR4
import Derived.Test.YtkgdmdcnhbaidaaDoorZS
import Derived.Test.YtkgdmdcnhbaidaaDoorZL
import Derived.Test.YtkgdmdcnhbaidaaDoorLF
import Derived.Test.YtkgdmdcnhbaidaaDoorOC
import Derived.Shelf.Vars
import Derived.Deep.Strs
import Derived.Test.YtkgdmdcnhbaidaaDoorTie
import Derived.Test.YtkgdmdcnhbaidaaDoorCards
import Derived.SevenTiedAt
import Derived.Lay
import Derived.LaidLaws
import Derived.LaidHandle
namespace Go.Proofs.YtkgdmdcnhbaidaaDoor.callAnswers
open Go.ChangeShapes Go.WideShapes Go.ChangeAt Go.RowKit Go.Deep
set_option linter.unusedVariables false
set_option linter.unusedSimpArgs false
theorem own : ownKnob Tryd.prog.godebug = none := by kernel_rfl
theorem laidOut : laidOutB Tryd.prog = true := by kernel_rfl

theorem walk4 (a : As) (A : Option Addr) (n c : Nat) (s : ByteArray) (W : World) (ha : inI a.1) (hr : RSl pvc 2 W A n a.2.2.2 ∧ n ≤ maxLen) (hs : s.size ≤ maxLen) (hg : Gl W) : Calls Tryd.prog 4 #[.agg #[.int .i64 a.1, .bool a.2.1, .string a.2.2.1, .slice A n c], .string s] W fun e w' => e = .returned (.bool true) ∧ Below W.heap.size W w' := by
  obtain ⟨er, fo, av, ps⟩ := a
  exact answers_walk er fo av ps A n c s W ha hr hs hg
/-- the tables, out of the row's laid condition -/
theorem callAnswers_gl {W : World} (h : laidMetH Tryd.prog Rows.callAnswersRow.laid W) (hlo : 8 ≤ W.heap.size) (hmx : ∃ m, W.cell? ⟨2, 0, none⟩ = some (.int .i64 m)) : Gl W := gl_of_laid (show laidMetH Tryd.prog Rows.callLargerRow.laid W from h) hlo hmx
set_option maxRecDepth 100000

set_option maxRecDepth 100000 in
theorem lifted (os : Os) (started : os.Started) (H : Type) (enc : TypeId × Value → H) :
    ReturnsInHanded {} Tryd.checked os 4 .any (fun w args => (Rows.callAnswersSpec.pre enc Tryd.prog Tryd.f4 Rows.callAnswersRow.domain false w args ∧ laidMetH Tryd.prog Rows.callAnswersRow.laid w) ∧ sizedMet enc Tryd.prog Tryd.f4 (OpenSpec.ofChange Rows.callAnswersSpec) false w args) (Rows.callAnswersSpec.post enc Tryd.prog Tryd.f4 false true false false) := by
  refine handed_shaped (C := Tryd.checked) (X := fun w _ => laidMetH Tryd.prog Rows.callAnswersRow.laid w) (fun _ _ _ hh h => h.of_heap hh) own started (by kernel_rfl) Tryd.func4
    (ChangeSpec.witness_shaped (enc := enc) (C := Tryd.checked) (os := os) (X := fun w _ => laidMetH Tryd.prog Rows.callAnswersRow.laid w) false (World.laidAll Tryd.prog os Rows.callAnswersRow.laid) #[.agg #[.int .i64 0, .bool false, .string { data := #[] }, .slice none 0 0], .string { data := #[] }] 8 (World.laidAll_os _ _ _)
      (World.shaped_of_ZipB (by kernel_rfl) (by kernel_rfl)) (by kernel_rfl) (by kernel_rfl) (by kernel_rfl)
      (by rw [MakeChecks.laidMetH_plain _ _ _ (by kernel_rfl)]; exact laidMet_laidAll _ (by kernel_rfl) (by kernel_rfl))) ?_
  intro W base args ds gs before hval0 hW _ hsz hL hsh
  have hval : ∀ (j : Nat) t v, Tryd.f4.params[j]? = some t → args[j]? = some v → Value.okWide Tryd.prog W .any base t v := hval0
  have hW' := hW
  obtain ⟨p, q, hA0, hV, hbef, _, _⟩ := hW
  have hA : DataW.TrodAll enc Tryd.prog W 0 (fun _ => true) true Tryd.f4.params.toList args.toList ds p := hA0
  rw [Tryd.params4] at hA hval
  obtain ⟨v0, vs0, d0, ds0, p0, q0, hargs, rfl, rfl, h0, r0⟩ := trodAll_cons hA
  obtain ⟨v1, vs1, d1, ds1, p1, q1, rfl, rfl, rfl, h1, r1⟩ := trodAll_cons r0
  obtain ⟨rfl, rfl, rfl⟩ := trodAll_nil r1
  obtain rfl : args = #[v0, v1] := by cases args; simp_all
  obtain ⟨rfl, rfl⟩ := trodVars_none hV
  obtain ⟨a0, A0, n0, c0, rfl, x0, y0⟩ := open_ans (hval 0 37 v0 rfl rfl) h0
  obtain ⟨a1, rfl, x1⟩ := open_str (hval 1 9 v1 rfl rfl) h1
  refine (walk4 a0 A0 n0 c0 a1 W x0 y0 x1 (callAnswers_gl hL (size_of_shaped hsh (g := 7) (of_decide_eq_true (by kernel_rfl)) (by kernel_rfl)) (Go.Proofs.cell_of_shapedOpen_int (zero := #[.int .i64 0]) (t := 3) hsh (of_decide_eq_true (by kernel_rfl)) (by kernel_rfl) rfl (by kernel_rfl) (by kernel_rfl) Tryd.underlying3))).mono fun e W' ⟨he, hb⟩ => ?_
  subst he
  exact ⟨_, rfl, law_post laidOut (of_decide_eq_true (by kernel_rfl)) rfl Tryd.underlying4 rfl rfl hW' hb⟩

theorem over : Rows.callAnswersRow.holds Tryd.pinned (OpenSpec.ofChange Rows.callAnswersSpec) :=
  OpenClaim.holds_of_wide 4 Tryd.f4 rfl rfl rfl rfl rfl rfl rfl ⟨rfl, rfl, rfl, rfl, rfl⟩ rfl rfl rfl rfl rfl (by kernel_rfl) Tryd.func4 (by kernel_rfl)
    (of_decide_eq_true (by kernel_rfl)) (by unfold Func.isWrapper; first | (rw [if_pos (by decide +kernel)]; kernel_rfl) | (rw [if_neg (by decide +kernel)]; exact ⟨rfl, rfl⟩))
    (fun os started H enc _ => lifted os started H enc)
set_option maxHeartbeats 4000000 in
theorem card : Rows.CallAnswersCardSaid :=
  Claim7.holds_tied_plain_at .later [] [.data, .data, .data, .data, .sentinel, .sentinel, .data, .data, .pinned] true (true, "871192f1426a74dcb09d19c3df5a1cd7abbd666c58880b36d4d2d4dd25c79973") true over (fun _ h => by cases h) (by kernel_rfl) (fun _ h => by cases h) callAnswers_row_tie rfl ⟨rfl, rfl⟩ (by kernel_rfl) rfl
    (fun f fn hf hfn => by
      obtain rfl : f = 4 := Option.some.inj ((show Tryd.prog.funcNamed "ferryman/ferrymanlaw20.CallAnswers" = some 4 by kernel_rfl).symm.trans hf) |>.symm
      obtain rfl : fn = Tryd.f4 := (Option.some.inj (Tryd.func4.symm.trans hfn)).symm
      exact ⟨by kernel_rfl, fun j t ht => by
        rw [Tryd.params4] at ht
        have hm : t ∈ [37, 9] := by have := Array.mem_of_getElem? ht; simpa using this
        have hall : ([37, 9].all fun u => !Tryd.prog.wantsStandIn u) = true := by kernel_rfl
        exact (show Tryd.prog.wantsStandIn t = false by simpa using List.all_eq_true.1 hall t hm)⟩)
    (by kernel_rfl)
end Go.Proofs.YtkgdmdcnhbaidaaDoor.callAnswers
namespace Go.Proofs.YtkgdmdcnhbaidaaDoor
theorem callAnswers_holds : Rows.CallAnswersCardSaid := callAnswers.card
end Go.Proofs.YtkgdmdcnhbaidaaDoor
