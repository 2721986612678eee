/- The sort at counts. -/
import Derived.Test.YtlnfdcaljmfbjaaK
import Derived.Test.YtlnfdcaljmfbjaaS2
namespace Go.Proofs.Ytlnfdcaljmfbjaa
open Go.ChangeShapes Go.WideShapes Go.ChangeAt Go.RowKit Go.Maps
set_option linter.unusedVariables false
set_option linter.unusedSimpArgs false

open Go.Sort Go.Lib Go.Shelf
theorem isAgg39 (w : World) : (isAgg 39).run Try.prog w = .ok true w := by kernel_rfl
theorem sizeOf39 (w : World) : (Go.sizeOf 39).run Try.prog w = .ok 2 w := by kernel_rfl
set_option maxRecDepth 100000 in
set_option maxHeartbeats 4000000 in
theorem closure29 (x y : Ct) (W : World) : Calls Try.prog 29 #[.agg #[.int .i64 x.1, .int .i64 x.2], .agg #[.int .i64 y.1, .int .i64 y.2]] W fun e w' => e = .returned (.int .i64 (Lib.compareInt x.1 y.1)) ∧ ∃ q os', w' = grow (W.drewN q) os' := by
  have hcon := fun W' => Try.cmp_Compare_int x.1 y.1 W'
  generalize Lib.compareInt x.1 y.1 = r at hcon ⊢
  go_enter Try.func29, Try.ntmps29
  go_wp2_with (go_at_call 30; refine (hcon _).mono ?_; rintro e w' ⟨rfl, rfl⟩)
  go_ret
  exact ⟨rfl, 0, _, by rw [alloc_eq_grow, alloc_eq_grow, grow_grow]; rfl⟩
theorem cmpLays29 (blk off size : Nat) (w : World) : CmpLays Try.prog 29 #[] encC 2 (fun x y => Lib.compareInt x.1 y.1) blk off size w :=
  fun _ _ _ _ x y => closure29 x y _
theorem ltTs (x y : Ct) : ltOf (fun x y : Ct => Lib.compareInt x.1 y.1) x y = decide (x.1 < y.1) := by
  unfold ltOf Lib.compareInt
  by_cases h1 : x.1 < y.1
  · simp [h1]
  · by_cases h2 : y.1 < x.1 <;> simp [h1, h2]
theorem swoTs : SWO (ltOf fun x y : Ct => Lib.compareInt x.1 y.1) where
  irrefl x := by rw [ltTs]; simp
  trans x y z h1 h2 := by rw [ltTs] at *; simp at *; omega
  ntrans x y z h1 h2 := by rw [ltTs] at *; simp at *; omega
theorem below_sort {w : World} {B g n : Nat} {d : Array Ct} {os : Array Obj} (hg : g < w.heap.size) (hB : B ≤ g) : RowKit.Below B w (sortWorldK encC 2 w g 0 n d os) := by
  have h1 : RowKit.Below B w (putRowK encC 2 (Sort.ahead w n) g 0 d) := below_putRow (enc := id) (RowKit.Below.refl B w) hB
  have hs : w.heap.size ≤ (putRowK encC 2 (Sort.ahead w n) g 0 d).heap.size := h1.size
  exact below_growS h1 (by omega) os
theorem sort_some : SortSome := fun g cap D w hH hg hD => by
  have eg : ∀ args w, (callFunc 29 args).run Try.prog w = .ok (.enter 29 args) w := enters_of Try.func29 (by kernel_rfl) rfl
  have hcon := AnyQ.slices_SortFunc Try.sortCt 2 isAgg39 sizeOf39 encC (fun _ => rfl) (fun x v hv => by simp [encC] at hv; rcases hv with rfl | rfl <;> rfl) (fun x y => Lib.compareInt x.1 y.1) swoTs 29 #[] g 0 cap D.toArray w eg (cmpLays29 g 0 _ w) hH hg (by simp; omega)
  change Calls Try.prog 28 _ _ _ at hcon
  simp only [List.size_toArray] at hcon
  refine hcon.mono ?_
  rintro e w' ⟨rfl, d', n, os, hp, hs, rfl⟩
  obtain ⟨p1, _, p3⟩ := hp
  have hl : d'.toList.length = D.length := by simpa using p1
  have hl2 : d'.size = D.length := by simpa using p1
  refine ⟨rfl, d'.toList, hl, ?_, ?_, ?_, fun B hB => below_sort hg hB⟩
  · have e1 : d'.extract 0 D.length = d' := by rw [← hl2]; simp
    have e2 : D.toArray.extract 0 D.length = D.toArray := by simp
    rw [e1, e2] at p3
    simpa using p3
  · rw [List.pairwise_iff_getElem]
    intro i j hi hj hij
    have h := hs i j (Nat.zero_le _) hij (by omega)
    rw [ltTs] at h
    have hi' : i < d'.size := by omega
    have hj' : j < d'.size := by omega
    rw [getElem!_pos d' i hi', getElem!_pos d' j hj'] at h
    have := of_decide_eq_false h
    simpa using this
  · rw [Array.toArray_toList]
    exact holdsK_sortWorldK encC 2 w g 0 n D.toArray d' os hg hH (by simpa using hl2)
theorem sort_none : SortNone := fun w => by
  have h := AnyF.slices_SortFunc_none Try.sortCt none 0 (.func (.func 29) #[] #[]) w
  change Calls Try.prog 28 _ _ _ at h
  exact h.mono fun e w' h => ⟨h.1, h.2.symm⟩
theorem counts_any (B p b : Nat) (C : List Ct) (w : World) (h : DdAt w B p b C) : Calls Try.prog 15 #[.pointer (some ⟨p, 0, none⟩)] w (CountsEnd C w) := counts_of sort_some sort_none B p b C w h
theorem works_any (w : World) : Calls Try.prog 9 #[] w fun x w' => x = .returned (.bool true) ∧ RowKit.Below w.heap.size w w' := works_of sort_some sort_none w
theorem summed_any (B p b : Nat) (C : List Ct) (w : World) (h : DdAt w B p b C) : Calls Try.prog 26 #[.pointer (some ⟨p, 0, none⟩)] w fun x w' => x = .returned (.int .i64 (sumC C)) ∧ RowKit.Below w.heap.size w w' := sum_any sort_some sort_none B p b C w h
end Go.Proofs.Ytlnfdcaljmfbjaa
