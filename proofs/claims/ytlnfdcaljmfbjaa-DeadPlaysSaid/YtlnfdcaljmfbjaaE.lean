/- Pass. -/
import Derived.Test.YtlnfdcaljmfbjaaD
namespace Go.Proofs.Ytlnfdcaljmfbjaa
open Go.ChangeShapes Go.WideShapes Go.ChangeAt Go.RowKit Go.Maps
set_option linter.unusedVariables false
set_option linter.unusedSimpArgs false

/-- what is there while the floor passes -/
def fsC (C : List Ct) (f : Int) (left : Lit → Bool) : List Ct := C.filter fun p => decide (f < p.1) || left (.int .i64 p.1)
theorem fs_start {C : List Ct} {f : Int} : fsC C f (Maps.has (dm C)) = C := List.filter_eq_self.2 (fun p hp => by
  have : Maps.has (dm C) (.int .i64 p.1) = true := List.any_eq_true.2 ⟨enc1 p, List.mem_map.2 ⟨p, hp, rfl⟩, (same_int p.1 p.1).trans (decide_eq_true rfl)⟩
  rw [this]; simp)
theorem fs_end {C : List Ct} {f : Int} {left : Lit → Bool} (h : ∀ kl, left kl = false) : fsC C f left = passS C f := List.filter_congr (fun p _ => by rw [h]; simp)
theorem fs_gone {C : List Ct} {f x : Int} {left : Lit → Bool} (h : ¬ f < x) : delC (fsC C f left) x = fsC C f (fun z => left z && !z.sameKey (.int .i64 x)) := by
  unfold delC fsC
  rw [List.filter_filter]
  refine List.filter_congr (fun p _ => ?_)
  simp only [same_int]
  by_cases e : p.1 = x
  · simp [e]; omega
  · simp [e]
theorem fs_stays {C : List Ct} {f x : Int} {left : Lit → Bool} (h : f < x) : fsC C f (fun z => left z && !z.sameKey (.int .i64 x)) = fsC C f left := by
  refine List.filter_congr (fun p _ => ?_)
  simp only [same_int]
  by_cases e : p.1 = x
  · rw [decide_eq_true (by rw [e]; exact h)]; simp
  · simp [e]
set_option maxRecDepth 100000 in
set_option maxHeartbeats 4000000 in
theorem pass_any (B p b : Nat) (C : List Ct) (f : Int) (w : World) (h : DdAt w B p b C) : Calls Try.prog 12 #[.pointer (some ⟨p, 0, none⟩), .int .i64 f] w (DEnd B p b (passS C f) (.int .i64 (sumC C - sumC (passS C f))) w) := by
  have H := Lib.hid h
  have HOK := Lib.hid (h.ok.pass f)
  have hs1 := h.ok.sum
  have hs2 := sum_nn h.ok.pos
  have hs3 := HOK.out.sum
  have hs4 := sum_nn HOK.out.pos
  clear h
  go_enter Try.func12, Try.ntmps12
  go_wp2_with fail
  refine (all_any B p b C w H.out).mono ?_
  rintro x w1 ⟨rfl, hb⟩
  have H1 := Lib.hid (H.out.later hb)
  have HG := Lib.hid (grown_of_below hb (some b))
  have HM := Lib.hid H1.out.own.2
  have k0 := H1.out.blk.cell 0
  simp only [List.getElem?_toArray, List.getElem?_cons_zero] at k0
  clear hb
  go_wp2_with (first
    | (at_range; refine wpList_range_own _ rfl _ 48 rfl 3 3 law3 Try.underlying48 _ b C.length _ rfl HM.out ?_; intro w0 hrg0 hg0 hz0)
    | go_in)
  go_frame
  have hgg := hg0.but (some b)
  go_loopw [6] (fun _ wr => ∃ (left : Lit → Bool) (cnt : Nat), wr.ranges Try.prog 3 R3 b w1.heap.size C.length (dm (fsC C f left)) left cnt ∧ w1.grownBy wr (some b))
    (fun _ wr => wr.rangeLeft b w1.heap.size)
  case atStart => exact ⟨_, _, by rw [fs_start]; exact hrg0, hgg⟩
  case round =>
    obtain ⟨left, cnt, hrg, hgw⟩ := hrel
    clear hrg0 hg0 hz0 hgg k0
    have HGW := Lib.hid hgw
    clear hgw
    go_wp2_with (first
      | (at_next; refine wpList_next_ranges_ii _ rfl _ rfl 3 3 .i64 .i64 law3 Try.underlying3 Try.underlying3 b w1.heap.size C.length _ _ _ rfl hrg ?_ ?_)
      | go_in)
    · intro _ hl0
      have ho := hrg.owns
      rw [fs_end hl0] at ho
      have HF := Lib.hid (H1.out.turned HGW.out ho HOK.out)
      have HG2 := Lib.hid (grown_step HG.out HGW.out)
      clear hl0 ho hrg
      go_wp2_with fail
      refine (all_any B p b (passS C f) _ HF.out).mono ?_
      rintro x w3 ⟨rfl, hb⟩
      have HF3 := Lib.hid (HF.out.later hb)
      have HG3 := Lib.hid (grown_step HG2.out (grown_of_below hb (some b)))
      have wq : IntKind.i64.wrap (sumC C - sumC (passS C f)) = sumC C - sumC (passS C f) := IntWalk.i64_in _ (by omega)
      clear hb
      go_wp2
      go_ret
      exact ⟨rfl, HF3.out, HG3.out⟩
    · intro x c w2 cnt1 hwx hwc hlx hat hrg1 hlt hg1 hz1 hen
      have hgw1 := HGW.out.andThen hg1 (fun j hj => by cases hj; exact Or.inl (Nat.le_refl _))
      have HGW1 := Lib.hid hgw1
      have hbk := H1.out.blk.grown hgw1 (fun e => H1.out.ne (Option.some.inj e))
      have k1 := hbk.cell 0
      simp only [List.getElem?_toArray, List.getElem?_cons_zero] at k1
      have HLT := Lib.hid hlt
      have HR0 := Lib.hid hrg
      have HR1 := Lib.hid hrg1
      clear hwc hlx hat hg1 hz1 hgw1 hbk hlt hrg hrg1
      by_cases hxf : x ≤ f
      · have d1 : decide (x ≤ f) = true := decide_eq_true hxf
        go_wp2_with (first
          | (at_delete; refine wpList_delete_ranges _ rfl _ _ 48 3 rfl 3 law3 Try.underlying48 _ b w1.heap.size C.length _ _ _ rfl HR1.out _ _ rfl (keyOf_int_mk Try.underlying3 hwx) ?_; intro w3 cnt2 hrg2 hle)
          | go_in)
        intro hturn
        rw [Maps.strike_twice, del_dm, fs_gone (by omega)] at hrg2
        have HR2 := Lib.hid hrg2
        have HGW2 := Lib.hid (HGW1.out.andThen hturn.grown (fun j hj => by cases hj; exact Or.inr rfl))
        have HLE := Lib.hid hle
        clear hturn hrg2 hle k1
        go_wp2
        go_roundw
        case rel => exact ⟨_, cnt2, HR2.out, HGW2.out⟩
        case measure => rw [HR2.out.left_eq, HR0.out.left_eq]; have := HLE.out; have := HLT.out; omega
      · have d1 : decide (x ≤ f) = false := decide_eq_false hxf
        have hr := HR1.out
        rw [← fs_stays (C := C) (left := left) (show f < x by omega)] at hr
        have HR2 := Lib.hid hr
        clear k1 hr
        go_wp2
        go_roundw
        case rel => exact ⟨_, cnt1, HR2.out, HGW1.out⟩
        case measure => rw [HR2.out.left_eq, HR0.out.left_eq]; exact HLT.out
end Go.Proofs.Ytlnfdcaljmfbjaa
