/- The sort at places. -/
import Derived.Test.YtgbcncfgpdlmiaaRB
import Derived.Test.YtgbcncfgpdlmiaaS2
import Derived.Lib.OwnBridge
namespace Go.Proofs.Ytgbcncfgpdlmiaa
open Go.ChangeShapes Go.WideShapes Go.ChangeAt Go.RowKit Go.Maps
set_option linter.unusedVariables false
set_option linter.unusedSimpArgs false

open Go.Sort Go.Lib Go.Shelf
/-- quiet, but for new blocks -/
def Gr (w W : World) : Prop := ∃ q os, W = grow (w.drewN q) os
theorem Gr.refl (w : World) : Gr w w := ⟨0, #[], by simp [World.drewN_zero]⟩
theorem Gr.alloc {w W : World} (h : Gr w W) (o : Obj) : Gr w (W.alloc o) := by
  obtain ⟨q, os, rfl⟩ := h
  exact ⟨q, os ++ #[o], by rw [alloc_eq_grow, grow_grow]⟩
theorem Gr.drewN {w W : World} (h : Gr w W) (n : Nat) : Gr w (W.drewN n) := by
  obtain ⟨q, os, rfl⟩ := h
  exact ⟨q + n, os, by rw [← World.drewN_drewN]; rfl⟩
theorem Gr.drew {w W : World} (h : Gr w W) : Gr w W.drew := h.drewN 1
theorem Gr.trans {a b c : World} (h : Gr a b) (k : Gr b c) : Gr a c := by
  obtain ⟨q, os, rfl⟩ := k
  obtain ⟨q2, os2, h2⟩ := h.drewN q
  rw [h2]
  exact ⟨q2, os2 ++ os, by rw [grow_grow]⟩
theorem Gr.below {w W : World} (h : Gr w W) : Below w.heap.size w W := by
  obtain ⟨q, os, rfl⟩ := h
  exact ⟨rfl, rfl, rfl, by rw [size_grow]; exact Nat.le_add_right _ _, fun k hk => heap_grow_old _ _ hk⟩
abbrev S4G (w2 : World) (g : Nat) (a1 a2 b1 b2 : Int) (W : World) : Prop := Gr w2 W ∧ W.cell? ⟨g, 0, none⟩ = some (.int .i64 a1) ∧ W.cell? ⟨g, 1, none⟩ = some (.int .i64 a2) ∧ W.cell? ⟨g + 1, 0, none⟩ = some (.int .i64 b1) ∧ W.cell? ⟨g + 1, 1, none⟩ = some (.int .i64 b2)
set_option maxRecDepth 100000 in
set_option maxHeartbeats 4000000 in
theorem compare_gr (a b : Pl) (w : World) : Calls Try.prog 42 #[.agg #[.int .i64 a.1, .int .i64 a.2], .agg #[.int .i64 b.1, .int .i64 b.2]] w fun e w' => e = .returned (.int .i64 (cmpP a b)) ∧ Gr w w' := by
  obtain ⟨a1, a2⟩ := a
  obtain ⟨b1, b2⟩ := b
  unfold cmpP
  simp only
  have HBA : Hid (Blk ((w.alloc (.cells #[.int .i64 a1, .int .i64 a2] 45)).alloc (.cells #[.int .i64 b1, .int .i64 b2] 45)) w.heap.size #[.int .i64 a1, .int .i64 a2] 45) := (Blk.new w _ 45).alloc _
  have HBB : Hid (Blk ((w.alloc (.cells #[.int .i64 a1, .int .i64 a2] 45)).alloc (.cells #[.int .i64 b1, .int .i64 b2] 45)) (w.heap.size + 1) #[.int .i64 b1, .int .i64 b2] 45) := Blk.new2 _ _ 45 (by simp)
  have HB : Hid (Gr w ((w.alloc (.cells #[.int .i64 a1, .int .i64 a2] 45)).alloc (.cells #[.int .i64 b1, .int .i64 b2] 45))) := ((Gr.refl w).alloc _).alloc _
  obtain ⟨x, hx⟩ : ∃ x, cmpI a1 b1 = x := ⟨_, rfl⟩
  obtain ⟨y, hy⟩ : ∃ y, cmpI a2 b2 = y := ⟨_, rfl⟩
  have HC1 : Hid (∀ W, Calls Try.prog 55 #[.int .i64 a1, .int .i64 b1] W fun e w' => e = .returned (.int .i64 x) ∧ W = w') := fun W => by rw [← hx]; exact cmp_any a1 b1 W
  have HC2 : Hid (∀ W, Calls Try.prog 55 #[.int .i64 a2, .int .i64 b2] W fun e w' => e = .returned (.int .i64 y) ∧ W = w') := fun W => by rw [← hy]; exact cmp_any a2 b2 W
  rw [hx, hy]
  obtain ⟨r, hr⟩ : ∃ r, (if x ≠ 0 then x else y) = r := ⟨_, rfl⟩
  have HOR : Hid (∀ (W W' : World), W'.heap = (W.alloc (.cells #[.int .i64 x, .int .i64 y] 3)).heap → Calls Try.prog 54 #[.slice (some ⟨W.heap.size, 0, none⟩) 2 2] W' fun e w' => e = .returned (.int .i64 r) ∧ W' = w') := fun W W' hw => by
    rw [← hr]
    refine or_any W.heap.size 2 x y W' ?_ ?_
    · have := Blk.cell (Blk.new W #[.int .i64 x, .int .i64 y] 3) 0
      unfold World.cell? at this ⊢; rw [hw]; exact this
    · have := Blk.cell (Blk.new W #[.int .i64 x, .int .i64 y] 3) 1
      unfold World.cell? at this ⊢; rw [hw]; exact this
  rw [hr]
  clear hx hy hr
  go_enter Try.func42, Try.ntmps42
  go_upto_region 1 with (fail)
  generalize ((w.alloc (.cells #[.int .i64 a1, .int .i64 a2] 45)).alloc (.cells #[.int .i64 b1, .int .i64 b2] 45)) = w2 at *
  have HE : Hid (∀ W, Gr w2 W → Gr w W) := fun W hb => HB.out.trans hb
  obtain ⟨g, hgg⟩ : ∃ g, w.heap.size = g := ⟨_, rfl⟩
  rw [hgg] at HBA HBB
  rw [hgg]
  clear hgg
  have KSS : Hid (∀ W, Gr w2 W → S4G w2 g a1 a2 b1 b2 W) := fun W hb => ⟨hb, (HBA.out.later hb.below).cell 0, (HBA.out.later hb.below).cell 1, (HBB.out.later hb.below).cell 0, (HBB.out.later hb.below).cell 1⟩
  have K0 : Hid (S4G w2 g a1 a2 b1 b2 w2.drew) := KSS.out _ (Gr.drew (Gr.refl _))
  go_region_held3 (S4G w2 g a1 a2 b1 b2) (first | assumption | exact K0.out | exact KSS.out _ (Gr.trans (And.left (by assumption)) (by assumption)) | exact KSS.out _ (Gr.alloc (And.left (by assumption)) _) | exact KSS.out _ (Gr.drewN (And.left (by assumption)) _)) (first
    | (go_at_call_of 55 (Value.int IntKind.i64 a1); refine (HC1.out _).mono ?_; rintro e wz ⟨rfl, rfl⟩)
    | (go_at_call_of 55 (Value.int IntKind.i64 a2); refine (HC2.out _).mono ?_; rintro e wz ⟨rfl, rfl⟩)
    | (go_at_call 54; refine (HOR.out w2 _ (by exact rfl)).mono ?_; rintro e wz ⟨rfl, rfl⟩))
  all_goals (
    rename S4G _ _ _ _ _ _ _ => hSO
    have HZ := Lib.hid hSO.1
    clear hSO
    go_wp2
    go_ret
    exact ⟨rfl, HE.out _ HZ.out⟩)
theorem isAgg45 (w : World) : (isAgg 45).run Try.prog w = .ok true w := by kernel_rfl
theorem sizeOf45 (w : World) : (Go.sizeOf 45).run Try.prog w = .ok 2 w := by kernel_rfl
instance : Inhabited Pl := ⟨(0, 0)⟩
theorem cmpLays42 (blk off size : Nat) (w : World) : CmpLays Try.prog 42 #[] plc 2 cmpP blk off size w :=
  fun _ _ _ _ x y => compare_gr x y _
theorem ltPl (x y : Pl) : ltOf cmpP x y = decide (cmpP x y < 0) := by
  unfold ltOf
  rfl
theorem swoPl : SWO (ltOf cmpP) where
  irrefl x := by rw [ltPl]; simp [cmpP_lt]
  trans x y z h1 h2 := by rw [ltPl, decide_eq_true_eq, cmpP_lt] at *; omega
  ntrans x y z h1 h2 := by rw [ltPl, decide_eq_false_iff_not, cmpP_lt] at *; omega
theorem grown_sort {w : World} {g n : Nat} {d : Array Pl} {os : Array Obj} : w.grownBy (sortWorldK plc 2 w g 0 n d os) (some g) := by
  refine ⟨rfl, rfl, rfl, ?_, fun k hk hne => ?_⟩
  · simp [sortWorldK, grow, putRowK, putRow, mapBlock, Sort.ahead]
  · have hne2 : g ≠ k := fun e => hne (by rw [e])
    simp [sortWorldK, grow, putRowK, putRow, mapBlock, Sort.ahead, Array.getElem?_append, Array.getElem?_modify, hk, hne2]
    rw [Array.getElem_modify, if_neg hne2]
/-- places sorted -/
def SortEnd (g : Nat) (D : List Pl) (w : World) (e : Ending) (w' : World) : Prop := e = .returned (.tuple #[]) ∧ ∃ D' : List Pl, D'.length = D.length ∧ D'.Perm D ∧ D'.Pairwise (fun x y => ¬ cmpP y x < 0) ∧ HoldsK plc 2 w' g 0 D'.toArray ∧ w.grownBy w' (some g)
theorem sort_any (g cap : Nat) (D : List Pl) (w : World) (hH : HoldsK plc 2 w g 0 D.toArray) (hg : g < w.heap.size) (hD : D.length ≤ 1000) : Calls Try.prog 41 #[.slice (some ⟨g, 0, none⟩) D.length cap, .func (.func 42) #[] #[]] w (SortEnd g D w) := by
  have eg : ∀ args w, (callFunc 42 args).run Try.prog w = .ok (.enter 42 args) w := enters_of Try.func42 (by kernel_rfl) rfl
  have hcon := AnyQ.slices_SortFunc Try.sortPl 2 isAgg45 sizeOf45 plc (fun _ => rfl) (fun x v hv => by simp [plc] at hv; rcases hv with rfl | rfl <;> rfl) cmpP swoPl 42 #[] g 0 cap D.toArray w eg (cmpLays42 g 0 _ w) hH hg (by simp; omega)
  change Calls Try.prog 41 _ _ _ at hcon
  simp only [List.size_toArray] at hcon
  refine hcon.mono ?_
  rintro e w' ⟨rfl, d', n, os, hp, hs, rfl⟩
  obtain ⟨p1, _, p3⟩ := hp
  have hl : d'.toList.length = D.length := by simpa using p1
  have hl2 : d'.size = D.length := by simpa using p1
  have e1 : d'.extract 0 D.length = d' := by rw [← hl2]; simp
  have e2 : D.toArray.extract 0 D.length = D.toArray := by simp
  rw [e1, e2] at p3
  refine ⟨rfl, d'.toList, hl, by simpa using p3, ?_, ?_, grown_sort⟩
  · rw [List.pairwise_iff_getElem]
    intro i j hi hj hij
    have h := hs i j (Nat.zero_le _) hij (by omega)
    rw [ltPl] at h
    have hi' : i < d'.size := by omega
    have hj' : j < d'.size := by omega
    rw [getElem!_pos d' i hi', getElem!_pos d' j hj'] at h
    have := of_decide_eq_false h
    simpa using this
  · rw [Array.toArray_toList]
    exact holdsK_sortWorldK plc 2 w g 0 n D.toArray d' os hg hH (by simpa using hl2)
theorem sort_none (w : World) : Calls Try.prog 41 #[.slice none 0 0, .func (.func 42) #[] #[]] w fun e w' => e = .returned (.tuple #[]) ∧ w = w' := by
  have h := AnyF.slices_SortFunc_none Try.sortPl none 0 (.func (.func 42) #[] #[]) w
  change Calls Try.prog 41 _ _ _ at h
  exact h.mono fun e w' h => ⟨h.1, h.2.symm⟩
end Go.Proofs.Ytgbcncfgpdlmiaa
