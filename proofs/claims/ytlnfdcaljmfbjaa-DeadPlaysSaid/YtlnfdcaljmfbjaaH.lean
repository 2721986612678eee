/- Counts, given what the sort does. -/
import Derived.Test.YtlnfdcaljmfbjaaG
namespace Go.Proofs.Ytlnfdcaljmfbjaa
open Go.ChangeShapes Go.WideShapes Go.ChangeAt Go.RowKit Go.Maps
set_option linter.unusedVariables false
set_option linter.unusedSimpArgs false

open Go.Sort Go.Lib Go.Shelf
/-- what the sort does: at some, at none -/
def SortEnd (g : Nat) (D : List Ct) (w : World) (e : Ending) (w' : World) : Prop := e = .returned (.tuple #[]) ∧ ∃ E : List Ct, E.length = D.length ∧ E.Perm D ∧ E.Pairwise (fun p q => ¬ q.1 < p.1) ∧ HoldsK encC 2 w' g 0 E.toArray ∧ ∀ B, B ≤ g → RowKit.Below B w w'
def SortSome : Prop := ∀ (g cap : Nat) (D : List Ct) (w : World), HoldsK encC 2 w g 0 D.toArray → g < w.heap.size → D.length ≤ 64 → Calls Try.prog 28 #[.slice (some ⟨g, 0, none⟩) D.length cap, .func (.func 29) #[] #[]] w (SortEnd g D w)
def SortNone : Prop := ∀ w : World, Calls Try.prog 28 #[.slice none 0 0, .func (.func 29) #[] #[]] w fun e w' => e = .returned (.tuple #[]) ∧ w = w'
theorem ctsl_of {W : World} {B g : Nat} {L : List Ct} (h : HoldsK encC 2 W g 0 L.toArray) (hB : B ≤ g) (hg : g < W.heap.size) : CtSl W B (some ⟨g, 0, none⟩) L := fun hL => by
  refine ⟨g, rfl, hB, hg, fun j hj => ?_⟩
  have h0 := h.cell (i := j) (c := 0) (by simpa using hj) (by decide)
  have h1 := h.cell (i := j) (c := 1) (by simpa using hj) (by decide)
  rw [getD_arr L j hj] at h0 h1
  simp only [Nat.zero_add, Nat.add_zero] at h0 h1
  exact ⟨h0.1, h1.1, h0.2, h1.2⟩
theorem ranges_ne {W : World} {B b r n cnt : Nat} {D : DU} {left : Lit → Bool} {v : Value} {L : List Ct} (h : W.ranges Try.prog 3 R3 b r n D left cnt) (o : COwn W B v L) : some b ≠ v.ownBlock ∧ some r ≠ v.ownBlock := by
  obtain ⟨es, clock, since, seen, c0, hb, _, _, _, hr, _⟩ := h
  refine ⟨fun e => ?_, fun e => ?_⟩
  · obtain ⟨cur, hc⟩ := o.tag b e.symm; rw [hb] at hc; cases hc
  · obtain ⟨cur, hc⟩ := o.tag r e.symm; rw [hr] at hc; cases hc
theorem blk_oneC {W : World} {g : Nat} {p : Ct} (h : Blk W g #[.int .i64 p.1, .int .i64 p.2] 39) : ∀ j u, (ctv [p])[j]? = some u → W.cell? ((⟨g, 0, none⟩ : Addr).add j) = some u := fun j u hu => by
  rw [add_plain, Nat.zero_add, h.cell]
  simpa [ctv] using hu
def CountsEnd (C : List Ct) (w : World) (x : Ending) (w' : World) : Prop := ∃ A c, x = .returned (.slice A C.length c) ∧ CtSl w' w.heap.size A C ∧ RowKit.Below w.heap.size w w'
set_option maxRecDepth 100000 in
set_option maxHeartbeats 4000000 in
theorem counts_of (hS : SortSome) (hN : SortNone) (B p b : Nat) (C : List Ct) (w : World) (h : DdAt w B p b C) : Calls Try.prog 15 #[.pointer (some ⟨p, 0, none⟩)] w (CountsEnd C w) := by
  have k0 := h.blk.cell 0
  simp only [List.getElem?_toArray, List.getElem?_cons_zero] at k0
  have HM := Lib.hid h.own.2
  have HOK := Lib.hid h.ok
  have HSS := Lib.hid hS
  have HSN := Lib.hid hN
  have hlen := h.len
  obtain ⟨i0, hi, hz0, hz1, hz2⟩ := info_parts c39info
  clear h hS hN
  go_enter Try.func15, Try.ntmps15
  go_wp2_with (first
    | (at_range; refine wpList_range_own _ rfl _ 48 rfl 3 3 law3 Try.underlying48 _ b C.length _ rfl HM.out ?_; intro w0 hrg0 hg0 hs0)
    | go_in)
  go_frame
  have hB0 : RowKit.Below w.heap.size w w0 := (Below.refl _ _).grown hg0 (Nat.le_refl _) (fun k e => by cases e)
  go_loopw [3] (fun v wr => ∃ (left : Lit → Bool) (cnt : Nat) (xs : List Ct), wr.ranges Try.prog 3 R3 b w.heap.size C.length (dm C) left cnt ∧ xs.Perm (come C left) ∧ COwn wr w.heap.size v xs ∧ (xs = [] → v = .slice none 0 0) ∧ RowKit.Below w.heap.size w wr)
    (fun _ wr => wr.rangeLeft b w.heap.size)
  case atStart => exact ⟨_, _, [], hrg0, by rw [come_start], COwn.nil _ _, fun _ => rfl, hB0⟩
  case round =>
    obtain ⟨left, cnt, xs, hrg, hpm, hco, hnil, hb⟩ := hrel
    have HCO := Lib.hid hco
    have HPM := Lib.hid hpm
    have HNIL := Lib.hid hnil
    have HB := Lib.hid hb
    obtain ⟨A, c, rfl, hA⟩ := hco.sl
    have hxl : xs.length ≤ 64 := by
      have h1 := hpm.length_eq
      have h2 : (come C left).length ≤ C.length := List.length_filter_le _ _
      omega
    have HA := Lib.hid hA
    clear hrg0 hg0 hs0 hB0 k0 hpm hco hnil hb hA
    go_wp2_with (first
      | (at_next; refine wpList_next_ranges_ii _ rfl _ rfl 3 3 .i64 .i64 law3 Try.underlying3 Try.underlying3 b w.heap.size C.length _ _ _ rfl hrg ?_ ?_)
      | go_in)
    · intro _ hl0
      have hpm : xs.Perm C := by have := HPM.out; rw [come_end hl0] at this; exact this
      have HPC := Lib.hid hpm
      clear hl0 hpm HPM hrg
      by_cases hx0 : xs = []
      · subst hx0
        have hv := HNIL.out rfl
        cases hv
        have HC0 : Hid (C = []) := HPC.out.symm.eq_nil
        clear HCO
        go_wp2_with fail
        refine (HSN.out _).mono ?_
        rintro x _ ⟨rfl, rfl⟩
        go_wp2
        go_ret
        exact ⟨_, _, by rw [HC0.out]; rfl, by rw [HC0.out]; exact (fun hL => absurd hL (by decide)), HB.out⟩
      · have hpos : 0 < xs.length := List.length_pos_iff.2 hx0
        obtain ⟨g, rfl, hBg, hgl⟩ := HA.out hpos
        have HH := Lib.hid HCO.out.holds
        clear hx0 HA
        go_wp2_with fail
        refine (HSS.out g c xs _ HH.out hgl hxl).mono ?_
        rintro x w3 ⟨rfl, E, hEl, hEp, hEs, hEh, hEb⟩
        have hEC : E = C := rising_eq HOK.out.up hEs (hEp.trans HPC.out)
        subst hEC
        have hsz := (hEb 0 (Nat.zero_le _)).size
        have HF := Lib.hid (ctsl_of (B := w.heap.size) hEh hBg (by omega))
        have HB3 := Lib.hid (HB.out.trans (hEb w.heap.size hBg))
        rw [← hEl]
        clear hEp hEs hEh hEb hEl hsz HPC HH HCO HM hgl hBg hpos
        go_wp2
        go_ret
        exact ⟨_, _, rfl, HF.out, HB3.out⟩
    · intro x c1 w1 cnt1 hwx hwc hlx hat hrg1 hlt hg1 hs1 hen
      have hm := mem_of_at hat
      have HST := Lib.hid ((HPM.out.append_right [(x, c1)]).trans (come_step HOK.out.up hlx hm).symm)
      have hb1 : RowKit.Below w.heap.size w w1 := HB.out.grown hg1 HB.out.size (fun k e => by cases e; exact Nat.le_refl _)
      have hco1 : COwn w1 w.heap.size (.slice A xs.length c) xs := World.ownsRow.kept HCO.out hg1 (by
        cases h0 : (Value.slice A xs.length c).ownBlock with
        | none => exact .inl rfl
        | some k => right; intro e; exact (ranges_ne hrg HCO.out).2 (by rw [h0]; exact e.symm))
      have hb2 : RowKit.Below w1.heap.size w1 (w1.alloc (.cells #[.int .i64 x, .int .i64 c1] 39)) := (Below.refl _ _).alloc (Nat.le_refl _) _
      have HCO2 := Lib.hid (hco1.later hb2)
      have HRG2 := Lib.hid (hrg1.alloc (.cells #[.int .i64 x, .int .i64 c1] 39))
      have HB2 : Hid (RowKit.Below w.heap.size w (w1.alloc (.cells #[.int .i64 x, .int .i64 c1] 39))) := stepB hb1 hb2
      have HX := Lib.hid (Blk.new w1 #[.int .i64 x, .int .i64 c1] 39)
      have HLT := Lib.hid hlt
      have HR0 := Lib.hid hrg
      clear hwx hwc hlx hat hrg1 hg1 hs1 hm hb1 hco1 hb2 hlt hrg HCO HPM HNIL HB HA
      go_wp2_with (at_builtin; refine wpList_append_own _ rfl (.tmp 18) (.tmp 22) 29 rfl w.heap.size 39 i0 _ 2 16 Try.underlying29 hi hz0 hz1 hz2 rfl (by decide) _ xs.length (ctv xs) rfl HCO2.out ⟨w1.heap.size, 0, none⟩ 1 1 (ctv [(x, c1)]) rfl rfl (blk_oneC HX.out) (ctv_one _) (by unfold maxLen; omega) (by omega) HB2.out.size ?_; intro v5 w5 ho5 hg5)
      intro hnil5
      have ho6 : COwn w5 w.heap.size v5 (xs ++ [(x, c1)]) := by unfold COwn; rw [ctv_app, List.length_append]; exact ho5
      have hne := ranges_ne HRG2.out HCO2.out
      have HRG5 := Lib.hid (HRG2.out.kept hg5 hne.1 hne.2)
      have HB5 : Hid (RowKit.Below w.heap.size w w5) := HB2.out.grown hg5 HB2.out.size (fun k e => (HCO2.out.lt k e).1)
      obtain ⟨A5, c5, rfl, _⟩ := ho6.sl
      have HO6 := Lib.hid ho6
      clear ho5 ho6 hg5 hnil5 hne HCO2 HRG2 HB2 HX
      go_wp2
      go_roundw
      case rel => exact ⟨_, cnt1, _, HRG5.out, HST.out, HO6.out, fun e => absurd e (by simp), HB5.out⟩
      case measure => rw [HRG5.out.left_eq, HR0.out.left_eq]; exact HLT.out
end Go.Proofs.Ytlnfdcaljmfbjaa
