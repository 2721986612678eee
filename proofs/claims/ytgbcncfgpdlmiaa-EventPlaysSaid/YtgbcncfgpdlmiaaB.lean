/- A copy of pairs; an event that shares no memory. -/
import Derived.Test.YtgbcncfgpdlmiaaA
import Derived.Lib.SliceRun
namespace Go.Proofs.Ytgbcncfgpdlmiaa
open Go.ChangeShapes Go.WideShapes Go.ChangeAt Go.RowKit Go.Maps
set_option linter.unusedVariables false
set_option linter.unusedSimpArgs false

theorem eq29 (A : Option Addr) (n c : Nat) (W : World) : (binOp .eql 29 (.slice A n c) (.slice none 0 0)).run Try.prog W = .ok (.bool A.isNone) W := Go.Lib.run_eql_slice_nil W 29 53 A n c 0 0 Try.underlying29
theorem elemPr : RElem prc 2 Try.prog 29 53 32 where
  und := Try.underlying29
  info := by
    have h : (Try.prog.info? 53).map (fun i => (i.zero, i.size, i.bytes)) = some (some (.agg #[.string ByteArray.empty, .string ByteArray.empty]), 2, 32) := by kernel_rfl
    cases hi : Try.prog.info? 53 with
    | none => rw [hi] at h; cases h
    | some i => rw [hi] at h; simp only [Option.map_some, Option.some.injEq, Prod.mk.injEq] at h; exact ⟨i, _, rfl, h.1, h.2.1, h.2.2, rfl⟩
  pos := by decide
  len := prc_len
  one := fun x u hu => by simp [prc] at hu; rcases hu with rfl | rfl <;> rfl
def ClEnd (ps : List Pr) (n : Nat) (w : World) (e : Ending) (w' : World) : Prop := ∃ A c, e = .returned (.slice A n c) ∧ POn w' w.heap.size (A, n, c) ps ∧ Below w.heap.size w w'
set_option maxRecDepth 100000 in
set_option maxHeartbeats 4000000 in
theorem clone_any (A : Option Addr) (n c : Nat) (ps : List Pr) (w : World) (h : PO w (A, n, c) ps) (hn : n ≤ 100000) : Calls Try.prog 56 #[.slice A n c] w (ClEnd ps n w) := by
  cases A with
  | none =>
    obtain ⟨h1, h2⟩ := h.nil rfl
    simp only at h1 h2
    subst h1 h2
    have hps : ps = [] := List.eq_nil_of_length_eq_zero h.rd.1
    subst hps
    clear h
    have e29 := fun W => eq29 none 0 0 W
    simp only [Option.isNone_none] at e29
    go_enter Try.func56, Try.ntmps56
    go_wp2
    go_ret
    exact ⟨none, 0, rfl, POn.empty _ _, Below.refl _ _⟩
  | some a =>
    have HR := Lib.hid h
    have hbx : Below w.heap.size w (w.alloc (.cells #[] 53)) := (Below.refl _ _).alloc (Nat.le_refl _) _
    have HF : Hid (ROwn prc 2 (w.alloc (.cells #[] 53)) w.heap.size 53 (.slice (some ⟨w.heap.size, 0, none⟩) 0 0) 0 []) := ROwn.fresh w 53 (Nat.le_refl _) rfl
    have HS := Lib.hid (h.rd.later hbx)
    have HB := Lib.hid hbx
    clear h hbx
    have e29 := fun W => eq29 (some a) n c W
    simp only [Option.isNone_some] at e29
    go_enter Try.func56, Try.ntmps56
    go_wp2_with (first
      | (at_builtin; refine append_row elemPr rfl (.tmp 5) (.tmp 6) rfl w.heap.size _ 0 [] rfl HF.out (some a) n c ps rfl HS.out (fun e => by cases e) (by omega) (by decide) HB.out.size ?_; intro v1 w1 ho1)
      | fail)
    intro hg1
    obtain ⟨A1, c1, rfl, hl1, hn1⟩ := ho1.sl
    have HB1 : Hid (Below w.heap.size w w1) := HB.out.grown hg1 HB.out.size (fun j e => (HF.out.lt j e).1)
    have HO1 : Hid (ROwn prc 2 w1 w.heap.size 53 (.slice A1 n c1) n ps) := by
      have := ho1
      rw [Nat.zero_add, List.nil_append] at this
      exact this
    have HE : Hid (POn w1 w.heap.size (A1, n, c1) ps) := ⟨⟨HO1.out.rsl prc_len, (show n ≤ c1 by omega), fun e => by have := hn1 e; exact ⟨(show n = 0 by omega), this.2⟩⟩, fun g e => by
      have e2 : (Value.slice A1 n c1).ownBlock = some g := by cases A1 with
        | none => cases e
        | some a => exact e
      exact ⟨(HO1.out.lt g e2).1, HO1.out.tag g e2⟩⟩
    have hz : 0 + n = n := Nat.zero_add n
    rw [hz]
    clear ho1 hg1 hl1 hn1 hz
    go_wp2
    go_ret
    exact ⟨A1, c1, rfl, HE.out, HB1.out⟩
/-- seven cells stored, one by one -/
abbrev S7 (W : World) (g : Nat) (a b c d e f h : Value) : World := ((((((W.setCell ⟨g, 0, none⟩ a).setCell ⟨g, 1, none⟩ b).setCell ⟨g, 2, none⟩ c).setCell ⟨g, 3, none⟩ d).setCell ⟨g, 4, none⟩ e).setCell ⟨g, 5, none⟩ f).setCell ⟨g, 6, none⟩ h
theorem S7.blk {W : World} {g t : Nat} {a b c d e f h a0 b0 c0 d0 e0 f0 h0 : Value} (k : Blk W g #[a0, b0, c0, d0, e0, f0, h0] t) : Blk (S7 W g a b c d e f h) g #[a, b, c, d, e, f, h] t := by
  have k0 : Blk _ g #[a, b0, c0, d0, e0, f0, h0] t := Blk.set (j := 0) k a
  have k1 : Blk _ g #[a, b, c0, d0, e0, f0, h0] t := Blk.set (j := 1) k0 b
  have k2 : Blk _ g #[a, b, c, d0, e0, f0, h0] t := Blk.set (j := 2) k1 c
  have k3 : Blk _ g #[a, b, c, d, e0, f0, h0] t := Blk.set (j := 3) k2 d
  have k4 : Blk _ g #[a, b, c, d, e, f0, h0] t := Blk.set (j := 4) k3 e
  have k5 : Blk _ g #[a, b, c, d, e, f, h0] t := Blk.set (j := 5) k4 f
  have k6 : Blk _ g #[a, b, c, d, e, f, h] t := Blk.set (j := 6) k5 h
  exact k6
theorem S7.grown (W : World) (g : Nat) (a b c d e f h : Value) : W.grownBy (S7 W g a b c d e f h) (some g) :=
  grown_trans (grown_set W g 0 a) (grown_trans (grown_set _ g 1 b) (grown_trans (grown_set _ g 2 c) (grown_trans (grown_set _ g 3 d) (grown_trans (grown_set _ g 4 e) (grown_trans (grown_set _ g 5 f) (grown_set _ g 6 h))))))
def OwnEnd (e : Ev) (w : World) (x : Ending) (w' : World) : Prop := ∃ h : Hd, x = .returned (.agg (evc (e, h)).toArray) ∧ POn w' w.heap.size h e.2.2.2.2.2.2 ∧ h.2.1 = e.2.2.2.2.2.2.length ∧ Below w.heap.size w w'
set_option maxRecDepth 100000 in
set_option maxHeartbeats 4000000 in
theorem own_any (e : Ev) (h : Hd) (w : World) (hp : PO w h e.2.2.2.2.2.2) (hn : h.2.1 ≤ 100000) : Calls Try.prog 50 #[.agg (evc (e, h)).toArray] w (OwnEnd e w) := by
  obtain ⟨wh, t, cl, er, fo, va, ps⟩ := e
  obtain ⟨A, n, c⟩ := h
  simp only at hp hn
  have HP := Lib.hid hp
  clear hp
  show Calls Try.prog 50 #[.agg #[.int .u8 wh, .int .i64 t, .int .i64 cl, .int .i64 er, .bool fo, .string va, .slice A n c]] w _
  have hb1 : Below w.heap.size w (w.alloc (.cells #[.int .u8 wh, .int .i64 t, .int .i64 cl, .int .i64 er, .bool fo, .string va, .slice A n c] 40)) := (Below.refl _ _).alloc (Nat.le_refl _) _
  have hb2 := hb1.alloc hb1.size (.cells #[.int .u8 0, .int .i64 0, .int .i64 0, .int .i64 0, .bool false, .string { data := #[] }, .slice none 0 0] 40)
  have HBK : Hid (Blk ((w.alloc (.cells #[.int .u8 wh, .int .i64 t, .int .i64 cl, .int .i64 er, .bool fo, .string va, .slice A n c] 40)).alloc (.cells #[.int .u8 0, .int .i64 0, .int .i64 0, .int .i64 0, .bool false, .string { data := #[] }, .slice none 0 0] 40)) w.heap.size #[.int .u8 wh, .int .i64 t, .int .i64 cl, .int .i64 er, .bool fo, .string va, .slice A n c] 40) := (Blk.new w _ 40).alloc _
  have HBR : Hid (Blk ((w.alloc (.cells #[.int .u8 wh, .int .i64 t, .int .i64 cl, .int .i64 er, .bool fo, .string va, .slice A n c] 40)).alloc (.cells #[.int .u8 0, .int .i64 0, .int .i64 0, .int .i64 0, .bool false, .string { data := #[] }, .slice none 0 0] 40)) (w.heap.size + 1) #[.int .u8 0, .int .i64 0, .int .i64 0, .int .i64 0, .bool false, .string { data := #[] }, .slice none 0 0] 40) := Blk.new2 _ _ 40 (by simp)
  have HB2 := Lib.hid hb2
  clear hb1 hb2
  go_enter Try.func50, Try.ntmps50
  go_upto_region 1 with (fail)
  generalize ((w.alloc (.cells #[.int .u8 wh, .int .i64 t, .int .i64 cl, .int .i64 er, .bool fo, .string va, .slice A n c] 40)).alloc (.cells #[.int .u8 0, .int .i64 0, .int .i64 0, .int .i64 0, .bool false, .string { data := #[] }, .slice none 0 0] 40)) = w2 at *
  have HG : Hid (w.heap.size < w.heap.size + 1) := Nat.lt_succ_self _
  obtain ⟨g1, hg1⟩ : ∃ g, w.heap.size = g := ⟨_, rfl⟩
  rw [hg1] at HBK HBR
  rw [hg1]
  have c6 := HBK.out.cell 6
  simp only [List.getElem?_toArray, List.getElem?_cons_zero, List.getElem?_cons_succ] at c6
  go_wp2_with fail
  refine (clone_any A n c ps w2 (HP.out.later HB2.out) hn).mono ?_
  rintro e w3 ⟨A3, c3, rfl, hpo, hb⟩
  have HPO := Lib.hid hpo
  have HB3 := Lib.hid (stepB HB2.out hb)
  have HZ3 : Hid (w.heap.size ≤ w2.heap.size) := HB2.out.size
  have HBK3 := Lib.hid (HBK.out.later hb)
  have HBR3 := Lib.hid (HBR.out.later hb)
  have f6 := HBK3.out.frozen 6
  have c6 := HBK3.out.cell 6
  simp only [List.getElem?_toArray, List.getElem?_cons_zero, List.getElem?_cons_succ] at c6
  have HBK4 : Hid (Blk (w3.setCell ⟨g1, 6, none⟩ (.slice A3 n c3)) g1 #[.int .u8 wh, .int .i64 t, .int .i64 cl, .int .i64 er, .bool fo, .string va, .slice A3 n c3] 40) := HBK3.out.set (j := 6) (.slice A3 n c3)
  have HBR4 : Hid (Blk (w3.setCell ⟨g1, 6, none⟩ (.slice A3 n c3)) (g1 + 1) #[.int .u8 0, .int .i64 0, .int .i64 0, .int .i64 0, .bool false, .string { data := #[] }, .slice none 0 0] 40) := HBR3.out.other (by omega) _
  have HB4 : Hid (Below w.heap.size w (w3.setCell ⟨g1, 6, none⟩ (.slice A3 n c3))) := Below.setCell (p := ⟨g1, 6, none⟩) HB3.out (by rw [hg1]; exact Nat.le_refl _) _
  have HPO4 : Hid (POn (w3.setCell ⟨g1, 6, none⟩ (.slice A3 n c3)) w2.heap.size (A3, n, c3) ps) := HPO.out.keep (by simp) (fun g e => (grown_set w3 g1 6 _).block g (HPO.out.lt g e).2 (fun e2 => by
    have h1 := (HPO.out.lt g e).1
    have h2 := HBR.out.lt
    have h3 := Option.some.inj e2
    omega))
  clear hpo hb
  go_upto_region 2 with (fail)
  generalize w3.setCell ⟨g1, 6, none⟩ (.slice A3 n c3) = w4 at *
  clear c6 f6
  have c0 := HBK4.out.cell 0
  have c1 := HBK4.out.cell 1
  have c2 := HBK4.out.cell 2
  have c3' := HBK4.out.cell 3
  have c4 := HBK4.out.cell 4
  have c5 := HBK4.out.cell 5
  have c6 := HBK4.out.cell 6
  have hlt := HBR4.out.lt
  simp only [List.getElem?_toArray, List.getElem?_cons_zero, List.getElem?_cons_succ] at c0 c1 c2 c3' c4 c5 c6
  have f := HBR4.out.frozen
  have d0 := HBR4.out.cell 0
  have d1 := HBR4.out.cell 1
  have d2 := HBR4.out.cell 2
  have d3 := HBR4.out.cell 3
  have d4 := HBR4.out.cell 4
  have d5 := HBR4.out.cell 5
  have d6 := HBR4.out.cell 6
  simp only [List.getElem?_toArray, List.getElem?_cons_zero, List.getElem?_cons_succ] at d0 d1 d2 d3 d4 d5 d6
  have HG7 := Lib.hid (S7.grown w4 (g1 + 1) (.int .u8 wh) (.int .i64 t) (.int .i64 cl) (.int .i64 er) (.bool fo) (.string va) (.slice A3 n c3))
  have HB7 : Hid (Blk (S7 w4 (g1 + 1) (.int .u8 wh) (.int .i64 t) (.int .i64 cl) (.int .i64 er) (.bool fo) (.string va) (.slice A3 n c3)) (g1 + 1) #[.int .u8 wh, .int .i64 t, .int .i64 cl, .int .i64 er, .bool fo, .string va, .slice A3 n c3] 40) := S7.blk HBR4.out
  have HLN : Hid (n = ps.length) := HP.out.rd.1.symm
  have HLR : Hid (g1 + 1 < w2.heap.size) := HBR.out.lt
  go_wp2
  refine bodyPost_ret (results_cell_row rfl _ _ (g1 + 1) 40 _ (0, 0) _ rfl HB7.out Try.underlying40 rfl (by kernel_rfl)) rfl ?_
  refine ⟨(A3, n, c3), rfl, (HPO4.out.keep HG7.out.size (fun g e => HG7.out.block g (HPO4.out.lt g e).2 (fun e2 => ?_))).base HZ3.out, HLN.out, HB4.out.grown HG7.out HB4.out.size (fun j e => ?_)⟩
  · have h1 := (HPO4.out.lt g e).1
    have h2 := HLR.out
    have h3 := Option.some.inj e2
    omega
  · have h3 := Option.some.inj e
    omega
end Go.Proofs.Ytgbcncfgpdlmiaa
