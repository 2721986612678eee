/- New, Of, All. -/
import Derived.Test.YtlnfdcaljmfbjaaA
import Derived.Carry
namespace Go.Proofs.Ytlnfdcaljmfbjaa
open Go.ChangeShapes Go.WideShapes Go.ChangeAt Go.RowKit Go.Maps
set_option linter.unusedVariables false
set_option linter.unusedSimpArgs false

set_option maxRecDepth 100000 in
set_option maxHeartbeats 4000000 in
theorem new_any (w : World) : Calls Try.prog 17 #[] w fun x w' => x = .returned (.pointer (some ⟨w.heap.size + 1, 0, none⟩)) ∧ DdAt w' w.heap.size (w.heap.size + 1) w.heap.size [] ∧ Below w.heap.size w w' := by
  have hmm := @run_makeMap Try.prog
  have hb0 : Below w.heap.size w (w.alloc (.map #[] 0)) := (Below.refl _ _).alloc (Nat.le_refl _) _
  have hb1 : Below w.heap.size w ((w.alloc (.map #[] 0)).alloc (.cells #[.map (some w.heap.size)] 50)) := hb0.alloc hb0.size _
  have HB := Lib.hid hb1
  have HO : Hid (DdAt ((w.alloc (.map #[] 0)).alloc (.cells #[.map (some w.heap.size)] 50)) w.heap.size (w.heap.size + 1) w.heap.size []) :=
    ⟨Nat.le_succ _, Blk.new2 _ _ _ (by simp), ⟨Nat.le_refl _, (World.ownsMap_made w Try.prog 3 R3).alloc _⟩, Ok.nil⟩
  clear hb0 hb1
  go_enter Try.func17, Try.ntmps17
  go_wp2
  go_ret
  exact ⟨rfl, HO.out, HB.out⟩
set_option maxRecDepth 100000 in
set_option maxHeartbeats 4000000 in
theorem of_any (B p b : Nat) (C : List Ct) (ts : Int) (w : World) (h : DdAt w B p b C) (hts : (Lit.int .i64 ts).wf = true) : Calls Try.prog 13 #[.pointer (some ⟨p, 0, none⟩), .int .i64 ts] w fun x w' => x = .returned (.int .i64 (ofC C ts)) ∧ w = w' := by
  have k0 := h.blk.cell 0
  simp only [List.getElem?_toArray, List.getElem?_cons_zero] at k0
  have HM := Lib.hid h.own.2
  clear h
  go_enter Try.func13, Try.ntmps13
  go_wp2_with (first
    | (at_lookup; refine wpList_lookup_own_int _ rfl _ _ 48 rfl 3 3 .i64 law3 Try.underlying48 Try.underlying3 (zero3 _) b C.length _ rfl HM.out _ _ rfl (keyOf_int_mk Try.underlying3 hts) ?_; intro c hat)
    | go_in)
  intro hwc
  have hc : ofC C ts = c := by
    rw [atKey_dm] at hat
    simpa using hat
  subst hc
  clear hat hwc
  go_wp2
  go_ret
  exact ⟨rfl, rfl⟩
set_option maxRecDepth 100000 in
set_option maxHeartbeats 4000000 in
theorem all_any (B p b : Nat) (C : List Ct) (w : World) (h : DdAt w B p b C) : Calls Try.prog 14 #[.pointer (some ⟨p, 0, none⟩)] w fun x w' => x = .returned (.int .i64 (sumC C)) ∧ Below w.heap.size w w' := by
  have k0 := h.blk.cell 0
  simp only [List.getElem?_toArray, List.getElem?_cons_zero] at k0
  have HM := Lib.hid h.own.2
  have HOK := Lib.hid h.ok
  have hs64 := h.ok.sum
  clear h
  go_enter Try.func14, Try.ntmps14
  go_wp2_with (first
    | (at_range; refine wpList_range_own _ rfl _ 48 rfl 3 3 law3 Try.underlying48 _ b C.length _ rfl HM.out ?_; intro w0 hrg0 hg0 hs0)
    | go_in)
  go_frame
  have hB0 : Below w.heap.size w w0 := (Below.refl _ _).grown hg0 (Nat.le_refl _) (fun k e => by cases e)
  go_loopw [3] (fun s wr => ∃ (left : Lit → Bool) (cnt : Nat), wr.ranges Try.prog 3 R3 b w.heap.size C.length (dm C) left cnt ∧ s = .int .i64 (sumL C left) ∧ Below w.heap.size w wr)
    (fun _ wr => wr.rangeLeft b w.heap.size)
  case atStart => exact ⟨_, _, hrg0, by rw [sumL_start], hB0⟩
  case round =>
    obtain ⟨left, cnt, hrg, rfl, hb⟩ := hrel
    clear hrg0 hg0 hs0 hB0 k0
    go_wp2_with (first
      | (at_next; refine wpList_next_ranges_ii _ rfl _ rfl 3 3 .i64 .i64 law3 Try.underlying3 Try.underlying3 b w.heap.size C.length _ _ _ rfl hrg ?_ ?_)
      | go_in)
    · intro _ hl0
      rw [sumL_end hl0]
      clear hl0
      go_wp2
      go_ret
      exact ⟨rfl, hb⟩
    · intro x c w1 cnt1 hwx hwc hlx hat hrg1 hlt hg1 hs1 hen
      have hm := mem_of_at hat
      have hst := sumL_step HOK.out.up hlx hm
      have h1 := sumL_le left HOK.out.pos
      have h2 := sumL_le (fun z => left z && !z.sameKey (.int .i64 x)) HOK.out.pos
      have hb1 : Below w.heap.size w w1 := hb.grown hg1 hb.size (fun k e => by cases e; exact Nat.le_refl _)
      have HST := Lib.hid hst
      have wq : IntKind.i64.wrap (sumL C left + c) = sumL C left + c := IntWalk.i64_in _ (by omega)
      have HRG := Lib.hid hrg1
      have HLT := Lib.hid hlt
      have HR0 := Lib.hid hrg
      have HB1 := Lib.hid hb1
      clear hwx hwc hlx hat hrg1 hg1 hs1 hm hst h1 h2 hb1 hlt hb hrg
      go_wp2
      go_roundw
      case rel => exact ⟨_, cnt1, HRG.out, by rw [HST.out], HB1.out⟩
      case measure => rw [HRG.out.left_eq, HR0.out.left_eq]; exact HLT.out
end Go.Proofs.Ytlnfdcaljmfbjaa
