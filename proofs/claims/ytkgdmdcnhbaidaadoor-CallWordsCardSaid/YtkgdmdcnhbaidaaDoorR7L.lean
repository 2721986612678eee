/-
CallWords: no proper beginning of a call's text, that ends ahead of a blank, is one; a text with a blank too many, or a word, is none. For any call, any place, any word.
-/
import Derived.Test.YtkgdmdcnhbaidaaDoorR7
import Derived.Test.YtkgdmdcnhbaidaaDoorZS
import Derived.Test.YtkgdmdcnhbaidaaDoorZL
import Derived.Test.YtkgdmdcnhbaidaaDoorLF
import Derived.Test.YtkgdmdcnhbaidaaDoorOC
import Derived.Shelf.Vars
import Derived.Deep.Strs
import Derived.Test.YtkgdmdcnhbaidaaDoorTie
import Derived.Test.YtkgdmdcnhbaidaaDoorCards
import Derived.SevenTiedAt
import Derived.Lay
import Derived.LaidLaws
import Derived.LaidHandle
namespace Go.Proofs.YtkgdmdcnhbaidaaDoor.callWords
open Go.ChangeShapes Go.WideShapes Go.ChangeAt Go.RowKit Go.Deep
set_option linter.unusedVariables false
set_option linter.unusedSimpArgs false
theorem own : ownKnob Tryd.prog.godebug = none := by kernel_rfl
theorem laidOut : laidOutB Tryd.prog = true := by kernel_rfl

theorem walk7 (x : Cl) (at_ : Int) (wd : ByteArray) (W : World) (hx : COk x) (ha : inI at_) (hs : wd.size ≤ maxLen) (hg : Gl W) : Calls Tryd.prog 7 #[clV x, .int .i64 at_, .string wd] W fun e w' => e = .returned (.bool true) ∧ Below W.heap.size W w' := by
  obtain ⟨kn, tx, ke, en, va, li, eg⟩ := x
  exact words_walk kn tx ke en va li eg at_ wd W hx ha hs hg
/-- the tables, out of the row's laid condition -/
theorem callWords_gl {W : World} (h : laidMetH Tryd.prog Rows.callWordsRow.laid W) (hlo : 8 ≤ W.heap.size) (hmx : ∃ m, W.cell? ⟨2, 0, none⟩ = some (.int .i64 m)) : Gl W := gl_of_laid (show laidMetH Tryd.prog Rows.callLargerRow.laid W from h) hlo hmx
set_option maxRecDepth 100000

set_option maxRecDepth 100000 in
theorem lifted (os : Os) (started : os.Started) (H : Type) (enc : TypeId × Value → H) :
    ReturnsInHanded {} Tryd.checked os 7 .any (fun w args => (Rows.callWordsSpec.pre enc Tryd.prog Tryd.f7 Rows.callWordsRow.domain false w args ∧ laidMetH Tryd.prog Rows.callWordsRow.laid w) ∧ sizedMet enc Tryd.prog Tryd.f7 (OpenSpec.ofChange Rows.callWordsSpec) false w args) (Rows.callWordsSpec.post enc Tryd.prog Tryd.f7 false true false false) := by
  refine handed_shaped (C := Tryd.checked) (X := fun w _ => laidMetH Tryd.prog Rows.callWordsRow.laid w) (fun _ _ _ hh h => h.of_heap hh) own started (by kernel_rfl) Tryd.func7
    (ChangeSpec.witness_shaped (enc := enc) (C := Tryd.checked) (os := os) (X := fun w _ => laidMetH Tryd.prog Rows.callWordsRow.laid w) false (World.laidAll Tryd.prog os Rows.callWordsRow.laid) #[.agg #[.int .u8 0, .int .i64 0, .string { data := #[] }, .string { data := #[] }, .string { data := #[] }, .int .i64 0, .int .u8 0], .int .i64 0, .string { data := #[] }] 8 (World.laidAll_os _ _ _)
      (World.shaped_of_ZipB (by kernel_rfl) (by kernel_rfl)) (by kernel_rfl) (by kernel_rfl) (by kernel_rfl)
      (by rw [MakeChecks.laidMetH_plain _ _ _ (by kernel_rfl)]; exact laidMet_laidAll _ (by kernel_rfl) (by kernel_rfl))) ?_
  intro W base args ds gs before hval0 hW _ hsz hL hsh
  have hval : ∀ (j : Nat) t v, Tryd.f7.params[j]? = some t → args[j]? = some v → Value.okWide Tryd.prog W .any base t v := hval0
  have hW' := hW
  obtain ⟨p, q, hA0, hV, hbef, _, _⟩ := hW
  have hA : DataW.TrodAll enc Tryd.prog W 0 (fun _ => true) true Tryd.f7.params.toList args.toList ds p := hA0
  rw [Tryd.params7] at hA hval
  obtain ⟨v0, vs0, d0, ds0, p0, q0, hargs, rfl, rfl, h0, r0⟩ := trodAll_cons hA
  obtain ⟨v1, vs1, d1, ds1, p1, q1, rfl, rfl, rfl, h1, r1⟩ := trodAll_cons r0
  obtain ⟨v2, vs2, d2, ds2, p2, q2, rfl, rfl, rfl, h2, r2⟩ := trodAll_cons r1
  obtain ⟨rfl, rfl, rfl⟩ := trodAll_nil r2
  obtain rfl : args = #[v0, v1, v2] := by cases args; simp_all
  obtain ⟨rfl, rfl⟩ := trodVars_none hV
  obtain ⟨a0, rfl, x0⟩ := open_call (hval 0 24 v0 rfl rfl) h0
  obtain ⟨a1, rfl, x1⟩ := open_i64 (hval 1 3 v1 rfl rfl) h1
  obtain ⟨a2, rfl, x2⟩ := open_str (hval 2 9 v2 rfl rfl) h2
  refine (walk7 a0 a1 a2 W x0 x1 x2 (callWords_gl hL (size_of_shaped hsh (g := 7) (of_decide_eq_true (by kernel_rfl)) (by kernel_rfl)) (Go.Proofs.cell_of_shapedOpen_int (zero := #[.int .i64 0]) (t := 3) hsh (of_decide_eq_true (by kernel_rfl)) (by kernel_rfl) rfl (by kernel_rfl) (by kernel_rfl) Tryd.underlying3))).mono fun e W' ⟨he, hb⟩ => ?_
  subst he
  exact ⟨_, rfl, law_post laidOut (of_decide_eq_true (by kernel_rfl)) rfl Tryd.underlying4 rfl rfl hW' hb⟩

theorem over : Rows.callWordsRow.holds Tryd.pinned (OpenSpec.ofChange Rows.callWordsSpec) :=
  OpenClaim.holds_of_wide 7 Tryd.f7 rfl rfl rfl rfl rfl rfl rfl ⟨rfl, rfl, rfl, rfl, rfl⟩ rfl rfl rfl rfl rfl (by kernel_rfl) Tryd.func7 (by kernel_rfl)
    (of_decide_eq_true (by kernel_rfl)) (by unfold Func.isWrapper; first | (rw [if_pos (by decide +kernel)]; kernel_rfl) | (rw [if_neg (by decide +kernel)]; exact ⟨rfl, rfl⟩))
    (fun os started H enc _ => lifted os started H enc)
set_option maxHeartbeats 4000000 in
theorem card : Rows.CallWordsCardSaid :=
  Claim7.holds_tied_plain_at .later [] [.data, .data, .data, .data, .sentinel, .sentinel, .data, .data, .pinned] true (true, "871192f1426a74dcb09d19c3df5a1cd7abbd666c58880b36d4d2d4dd25c79973") true over (fun _ h => by cases h) (by kernel_rfl) (fun _ h => by cases h) callWords_row_tie rfl ⟨rfl, rfl⟩ (by kernel_rfl) rfl
    (fun f fn hf hfn => by
      obtain rfl : f = 7 := Option.some.inj ((show Tryd.prog.funcNamed "ferryman/ferrymanlaw20.CallWords" = some 7 by kernel_rfl).symm.trans hf) |>.symm
      obtain rfl : fn = Tryd.f7 := (Option.some.inj (Tryd.func7.symm.trans hfn)).symm
      exact ⟨by kernel_rfl, fun j t ht => by
        rw [Tryd.params7] at ht
        have hm : t ∈ [24, 3, 9] := by have := Array.mem_of_getElem? ht; simpa using this
        have hall : ([24, 3, 9].all fun u => !Tryd.prog.wantsStandIn u) = true := by kernel_rfl
        exact (show Tryd.prog.wantsStandIn t = false by simpa using List.all_eq_true.1 hall t hm)⟩)
    (by kernel_rfl)
end Go.Proofs.YtkgdmdcnhbaidaaDoor.callWords
namespace Go.Proofs.YtkgdmdcnhbaidaaDoor
theorem callWords_holds : Rows.CallWordsCardSaid := callWords.card
end Go.Proofs.YtkgdmdcnhbaidaaDoor
