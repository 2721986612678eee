/- What turns the document's writers; who of them is busy. -/
import Derived.Test.YtmkgipbepipjkaaDoorQ
namespace Go.Proofs.YtmkgipbepipjkaaDoor
open Go.ChangeShapes Go.WideShapes Go.ChangeAt Go.RowKit
set_option linter.unusedVariables false
set_option linter.unusedSimpArgs false

theorem RfAt.grown {W W' : World} {B p : Nat} {v : Value} {L : List Wr} (h : RfAt W B p v L) {r : Option Nat} (hg : W.grownBy W' r) (hr : ∀ k, r = some k → ∃ cur t, W.heap[k]? = some (.cells cur t (0, 0)) ∧ t ≠ 57 ∧ t ≠ 59) : RfAt W' B p v L := h.keep (fun k cur t hk ht => by
  refine hg.block k (Array.getElem?_eq_some_iff.1 hk).1 (fun e => ?_)
  obtain ⟨cur', t', h1, h2, h3⟩ := hr k e.symm
  rw [hk] at h1; cases h1
  rcases ht with rfl | ⟨rfl, _⟩
  · exact h3 rfl
  · exact h2 rfl)
theorem rset_fin {w w5 : World} {B p : Nat} {v v2 : Value} {L M : List Wr} (h : RfAt w B p v L) (hb : Below w.heap.size w w5) (ho : ROwn w5 w.heap.size v2 M) : RfAt (w5.setCell ⟨p, 0, none⟩ v2) B p v2 M ∧ Fr w (w5.setCell ⟨p, 0, none⟩ v2) p nilv := by
  have hlt := h.plt
  have hp := h.hp
  refine ⟨⟨h.hp, (h.later hb).blk.set v2, (ho.base (by omega)).keep (fun k hk => Below.heap_setCell w5 ⟨p, 0, none⟩ v2 k (fun e => ?_))⟩, (Fr.of_below hb).trans (Fr.setp w5 p 0 v2 nilv)⟩
  have h1 := (ho.lt k hk).1
  have e2 : k = p := e
  omega
theorem blk_oneR {W : World} {g : Nat} (h : Blk W g #[.int .u8 1, .int .i64 0] 59) : ∀ j u, (wrv [wz])[j]? = some u → W.cell? ((⟨g, 0, none⟩ : Addr).add j) = some u := fun j u hu => by
  rw [add_plain, Nat.zero_add, h.cell]
  simpa [wrv, wz] using hu
def RBeg (B p : Nat) (L : List Wr) (w : World) (x : Ending) (w' : World) : Prop := ∃ v', x = .returned (.int .i64 ((L.length : Int) + 1)) ∧ RfAt w' B p v' (L ++ [wz]) ∧ Fr w w' p nilv
set_option maxRecDepth 100000 in
set_option maxHeartbeats 4000000 in
theorem rbegin_any (B p : Nat) (v : Value) (L : List Wr) (w : World) (h : RfAt w B p v L) (hn : L.length ≤ 1000000) : Calls Tryd.prog 23 #[.pointer (some ⟨p, 0, none⟩)] w (RBeg B p L w) := by
  have H := Lib.hid h
  obtain ⟨i0, hi, hz0, hz1, hz2⟩ := info_parts r59info
  obtain ⟨A, c, rfl, hc, k0, _⟩ := h.cells
  obtain ⟨A', c', e, _, hat⟩ := h.own.sl
  cases e
  have k0' := cell_later k0 ((Below.refl _ w).alloc (Nat.le_refl _) (.cells #[] 59))
  clear k0
  cases A with
  | none =>
    have hv : L = [] := by
      rcases Nat.eq_zero_or_pos L.length with h0 | h0
      · exact List.eq_nil_of_length_eq_zero h0
      · obtain ⟨g, e, _⟩ := hat 0 h0; cases e
    subst hv
    have hown0 := World.ownsRow_lit (base := w.heap.size) (size := 2) (e := 59) w #[] 0 (Nat.le_refl _) (by unfold maxLen; omega) (by simp)
    have HR3 : Hid (ROwn (w.alloc (.cells #[] 59)) w.heap.size (.slice (some ⟨w.heap.size, 0, none⟩) 0 0) []) := hown0
    have HB3 : Hid (Below w.heap.size w (w.alloc (.cells #[] 59))) := (Below.refl _ _).alloc (Nat.le_refl _) _
    clear hat hown0 h
    have hb1 : Below (w.alloc (.cells #[] 59)).heap.size (w.alloc (.cells #[] 59)) ((w.alloc (.cells #[] 59)).alloc (.cells #[.int .u8 1, .int .i64 0] 59)) := (Below.refl _ _).alloc (Nat.le_refl _) _
    have HR1 : Hid (ROwn ((w.alloc (.cells #[] 59)).alloc (.cells #[.int .u8 1, .int .i64 0] 59)) w.heap.size (.slice (some ⟨w.heap.size, 0, none⟩) 0 0) []) := World.ownsRow.kept HR3.out (row := none) ⟨hb1.os, hb1.tape, hb1.output, hb1.size, fun k hk _ => hb1.block k hk⟩ (.inr (by intro e; cases e))
    have HB1 : Hid (Below w.heap.size w ((w.alloc (.cells #[] 59)).alloc (.cells #[.int .u8 1, .int .i64 0] 59))) := stepB HB3.out hb1
    have HX : Hid (Blk ((w.alloc (.cells #[] 59)).alloc (.cells #[.int .u8 1, .int .i64 0] 59)) (w.heap.size + 1) #[.int .u8 1, .int .i64 0] 59) := Blk.new2 _ _ _ (by simp)
    have hsz1 := HB1.out.size
    clear hb1 HR3 HB3
    go_enter Tryd.func23, Tryd.ntmps23
    go_wp2_with (at_builtin; refine wpList_append_own _ rfl (.tmp 9) (.tmp 11) 55 rfl w.heap.size 59 i0 _ 2 16 Tryd.underlying55 hi hz0 hz1 hz2 rfl (by decide) _ 0 (wrv []) rfl HR1.out ⟨w.heap.size + 1, 0, none⟩ 1 1 (wrv [wz]) rfl rfl (blk_oneR HX.out) (wrv_one _) (by unfold maxLen; omega) (by omega) hsz1 ?_; intro v2 w5 ho2 hg2)
    intro hnil2
    clear hnil2
    have ho3 : ROwn w5 w.heap.size v2 (([] : List Wr) ++ [wz]) := by unfold ROwn; rw [wrv_app, List.length_append]; exact ho2
    have hB5 : Below w.heap.size w w5 := HB1.out.grown hg2 hsz1 (fun k hk => (HR1.out.lt k hk).1)
    obtain ⟨A2, c2, rfl, _⟩ := ho3.sl
    have HF := Lib.hid (rset_fin H.out hB5 ho3)
    have q0 := (H.out.later hB5).blk.cell 0
    have q1 := (H.out.later hB5).blk.frozen 0
    simp only [List.getElem?_toArray, List.getElem?_cons_zero] at q0
    have hl : (([] : List Wr) ++ [wz]).length = ([] : List Wr).length + 1 := by simp
    rw [hl] at HF ⊢
    clear ho2 ho3 hg2 hB5 hl k0' HR1 HB1 HX
    go_wp2
    go_ret
    exact ⟨_, by first | rfl | simp, HF.out.1, HF.out.2⟩
  | some a =>
    have hown0 := World.ownsRow_lit (base := w.heap.size) (size := 2) (e := 59) w #[] 0 (Nat.le_refl _) (by unfold maxLen; omega) (by simp)
    have Hl : Hid ((wrv L).length = L.length * 2) := wrv_len L
    have Hc : Hid (∀ i u, (wrv L)[i]? = some u → (w.alloc (.cells #[] 59)).cell? (a.add i) = some u) := by
      rcases h.own.2 with ⟨e, _⟩ | ⟨g, cap, cur, e, hB, hg, _⟩
      · cases e
      · cases e
        have hO := h.own
        unfold ROwn at hO
        intro i u hu
        have := hO.cells (g := g) rfl i u hu
        exact (((Below.refl w.heap.size w).alloc (Nat.le_refl _) (.cells #[] 59)).cell (p := (⟨g, 0, none⟩ : Addr).add i) (by rw [add_plain]; exact (Array.getElem?_eq_some_iff.1 hg).1)).trans this
    clear hat h
    go_enter Tryd.func23, Tryd.ntmps23
    go_wp2_with (at_builtin; refine wpList_append_own _ rfl (.tmp 4) (.tmp 8) 55 rfl w.heap.size 59 i0 _ 2 16 Tryd.underlying55 hi hz0 hz1 hz2 rfl (by decide) _ 0 [] rfl hown0 a L.length c (wrv L) rfl Hl.out Hc.out (wrv_one L) (by unfold maxLen; omega) (by omega) (by simp) ?_; intro v1 w3 hown1 hgrow1)
    intro hnil1
    clear hnil1
    simp only [Nat.zero_add, List.nil_append] at hown1
    have HR3 : Hid (ROwn w3 w.heap.size v1 L) := hown1
    have HB3 : Hid (Below w.heap.size w w3) := ((Below.refl _ _).alloc (Nat.le_refl _) _).grown hgrow1 (by simp) (fun j e => by cases e; exact Nat.le_refl _)
    obtain ⟨A1, c1, rfl, _⟩ := HR3.out.sl
    have hb1 : Below w3.heap.size w3 (w3.alloc (.cells #[.int .u8 1, .int .i64 0] 59)) := (Below.refl _ _).alloc (Nat.le_refl _) _
    have HR1 : Hid (ROwn (w3.alloc (.cells #[.int .u8 1, .int .i64 0] 59)) w.heap.size (.slice A1 L.length c1) L) := HR3.out.keep (fun k hk => hb1.block k (HR3.out.lt k hk).2)
    have HB1 : Hid (Below w.heap.size w (w3.alloc (.cells #[.int .u8 1, .int .i64 0] 59))) := stepB HB3.out hb1
    have HX := Lib.hid (Blk.new w3 #[.int .u8 1, .int .i64 0] 59)
    have hsz1 := HB1.out.size
    clear hb1 HR3 HB3 hown1 hgrow1 hown0 Hl Hc
    go_wp2_with (at_builtin; refine wpList_append_own _ rfl (.tmp 9) (.tmp 11) 55 rfl w.heap.size 59 i0 _ 2 16 Tryd.underlying55 hi hz0 hz1 hz2 rfl (by decide) _ L.length (wrv L) rfl HR1.out ⟨w3.heap.size, 0, none⟩ 1 1 (wrv [wz]) rfl rfl (blk_oneR HX.out) (wrv_one _) (by unfold maxLen; omega) (by omega) hsz1 ?_; intro v2 w5 ho2 hg2)
    intro hnil2
    clear hnil2
    have ho3 : ROwn w5 w.heap.size v2 (L ++ [wz]) := by unfold ROwn; rw [wrv_app, List.length_append]; exact ho2
    have hB5 : Below w.heap.size w w5 := HB1.out.grown hg2 hsz1 (fun k hk => (HR1.out.lt k hk).1)
    obtain ⟨A2, c2, rfl, _⟩ := ho3.sl
    have HF := Lib.hid (rset_fin H.out hB5 ho3)
    have q0 := (H.out.later hB5).blk.cell 0
    have q1 := (H.out.later hB5).blk.frozen 0
    simp only [List.getElem?_toArray, List.getElem?_cons_zero] at q0
    have hl : (L ++ [wz]).length = L.length + 1 := by simp
    rw [hl] at HF ⊢
    clear ho2 ho3 hg2 hB5 hl k0' HR1 HB1 HX
    go_wp2
    go_ret
    exact ⟨_, by first | rfl | simp, HF.out.1, HF.out.2⟩

theorem Fr.late {w W : World} {p : Nat} {v : Value} (f : Fr w W p v) {g : Nat} (hg : w.heap.size ≤ g) (j : Nat) (x : Value) : Fr w (W.setCell ⟨g, j, none⟩ x) p v :=
  ⟨f.os, f.tape, f.output, Nat.le_trans f.size (by simp [World.setCell]), fun k hk h1 h2 => (Below.heap_setCell W ⟨g, j, none⟩ x k (fun e => by have e2 : k = g := e; omega)).trans (f.block k hk h1 h2)⟩
theorem ROwn.ne {W : World} {B p : Nat} {u : Value} {M : List Wr} (h : ROwn W B u M) {cs : Array Value} {t : TypeId} (hb : Blk W p cs t) (ht : t ≠ 59) : ∀ k, u.ownBlock = some k → k ≠ p := fun k hk e => by
  obtain ⟨cur, hc⟩ := h.tag k hk
  have h2 : W.heap[p]? = some (.cells cs t (0, 0)) := hb
  rw [e, h2] at hc
  cases hc
  exact ht rfl
theorem rset2 {W : World} {B p g j : Nat} {v : Value} {L : List Wr} (h : RfAt W B p v L) (hg : v.ownBlock = some g) (x : Wr) : RfAt ((W.setCell ⟨g, j * 2, none⟩ (.int .u8 x.1)).setCell ⟨g, j * 2 + 1, none⟩ (.int .i64 x.2)) B p v (L.set j x) := by
  have hgp : p ≠ g := fun e => h.own.ne h.blk (by decide) g hg e.symm
  exact ⟨h.hp, (h.blk.other hgp (j := j * 2) (.int .u8 x.1)).other hgp (j := j * 2 + 1) (.int .i64 x.2), h.own.set hg x⟩
def RT (B p : Nat) (L : List Wr) (la i st ts : Int) (w : World) (x : Ending) (w' : World) : Prop := x = .returned (.int .i64 (turnE L la i st ts)) ∧ ∃ v', RfAt w' B p v' (turnS L la i st ts) ∧ Fr w w' p nilv
theorem Fr.refl (w : World) (p : Nat) (v : Value) : Fr w w p v := ⟨rfl, rfl, rfl, Nat.le_refl _, fun _ _ _ _ => rfl⟩
theorem rt_no {B p : Nat} {v : Value} {L : List Wr} {la i st ts c : Int} {w : World} (h : RfAt w B p v L) (he : turnE L la i st ts = c) (hc : c ≠ 0) : RT B p L la i st ts w (.returned (.int .i64 c)) w := by
  unfold RT turnS; rw [he, if_neg hc]; exact ⟨rfl, v, h, Fr.refl _ _ _⟩
theorem rt_yes {B p : Nat} {v : Value} {L : List Wr} {la i st ts : Int} {w w' : World} (he : turnE L la i st ts = 0) (h : RfAt w' B p v (L.set (i - 1).toNat (st, ts))) (hf : Fr w w' p nilv) : RT B p L la i st ts w (.returned (.int .i64 0)) w' := by
  unfold RT turnS; rw [he, if_pos rfl]; exact ⟨rfl, v, h, hf⟩
set_option maxRecDepth 100000 in
set_option maxHeartbeats 4000000 in
theorem rturn_out (B p : Nat) (v : Value) (L : List Wr) (la i was st ts : Int) (may : Bool) (w : World) (h : RfAt w B p v L) (hn : L.length ≤ 1000000) (hcan : ∀ s, canB s st = decide (s = was)) (hmay : may = decide (¬ (ts ≠ 0 ∧ (ts ≤ la ∨ 1048576 < ts)))) (hi : i < 1 ∨ (L.length : Int) < i) : Calls Tryd.prog 35 #[.pointer (some ⟨p, 0, none⟩), .int .i64 i, .int .u8 was, .int .u8 st, .int .i64 ts, .bool may] w (RT B p L la i st ts w) := by
  have H := Lib.hid h
  have HE : Hid (turnE L la i st ts = 5) := if_pos hi
  obtain ⟨A, c, rfl, hc, k0, _⟩ := h.cells
  clear h hcan hmay
  by_cases c1 : i < 1
  · have d1 : decide (i < 1) = true := decide_eq_true c1
    go_enter Tryd.func35, Tryd.ntmps35
    go_wp2
    go_ret
    exact rt_no H.out HE.out (by decide)
  · have d1 : decide (i < 1) = false := decide_eq_false c1
    have d2 : decide ((L.length : Int) < i) = true := decide_eq_true (by omega)
    go_enter Tryd.func35, Tryd.ntmps35
    go_wp2
    go_ret
    exact rt_no H.out HE.out (by decide)
set_option maxRecDepth 100000 in
set_option maxHeartbeats 4000000 in
theorem rturn_in (B p : Nat) (v : Value) (L : List Wr) (la i was st ts : Int) (may : Bool) (w : World) (h : RfAt w B p v L) (hn : L.length ≤ 1000000) (hcan : ∀ s, canB s st = decide (s = was)) (hmay : may = decide (¬ (ts ≠ 0 ∧ (ts ≤ la ∨ 1048576 < ts)))) (hi : ¬ (i < 1 ∨ (L.length : Int) < i)) : Calls Tryd.prog 35 #[.pointer (some ⟨p, 0, none⟩), .int .i64 i, .int .u8 was, .int .u8 st, .int .i64 ts, .bool may] w (RT B p L la i st ts w) := by
  obtain ⟨k, rfl⟩ : ∃ k : Nat, i = (k : Int) + 1 := ⟨(i - 1).toNat, by omega⟩
  have hk : k < L.length := by omega
  have H := Lib.hid h
  obtain ⟨A, c, rfl, hc, k0, _⟩ := h.cells
  obtain ⟨A', c', e, _, hat⟩ := h.own.sl
  cases e
  obtain ⟨g, rfl, hg, _, _, x0, x1, _⟩ := hat k hk
  have i1 := rindex g L.length c k (k : Int) rfl hk
  have w1 : IntKind.i64.wrap ((k : Int) + 1 - 1) = (k : Int) := (IntWalk.i64_in _ (by omega)).trans (by omega)
  have w2 : (k : Int) + 1 - 1 = (k : Int) := by omega
  have w3 : wrap64 (k : Int) = (k : Int) := by unfold wrap64; omega
  have w4 : IntKind.i64.wrap (k : Int) = (k : Int) := IntWalk.i64_in _ (by omega)
  have d1 : decide ((k : Int) + 1 < 1) = false := decide_eq_false (by omega)
  have d2 : decide ((L.length : Int) < (k : Int) + 1) = false := decide_eq_false (by omega)
  obtain ⟨⟨s, t⟩, hx⟩ : ∃ x, L.getD k w0r = x := ⟨_, rfl⟩
  have hE := turnE_in (la := la) (st := st) (ts := ts) hk hx
  rw [hcan s] at hE
  rw [hx] at x0 x1
  simp only at x0 x1
  by_cases hs : s = was
  · subst hs
    rw [if_neg (by simp)] at hE
    cases hm : may
    · rw [hm] at hmay
      have hm2 : ts ≠ 0 ∧ (ts ≤ la ∨ 1048576 < ts) := by
        have := of_decide_eq_false hmay.symm
        exact Classical.not_not.1 this
      rw [if_pos hm2] at hE
      have HE := Lib.hid hE
      clear h hat hx hcan hmay hm hm2 hE
      go_enter Tryd.func35, Tryd.ntmps35
      go_wp2
      go_ret
      exact rt_no H.out HE.out (by decide)
    · rw [hm] at hmay
      rw [if_neg (of_decide_eq_true hmay.symm)] at hE
      have HE := Lib.hid hE
      obtain ⟨i0, hi, hz0, hz1, hz2⟩ := info_parts r59info
      have hown0 := World.ownsRow_lit (base := w.heap.size) (size := 2) (e := 59) w #[] 0 (Nat.le_refl _) (by unfold maxLen; omega) (by simp)
      have Hl : Hid ((wrv L).length = L.length * 2) := wrv_len L
      have Hc : Hid (∀ i u, (wrv L)[i]? = some u → (w.alloc (.cells #[] 59)).cell? ((⟨g, 0, none⟩ : Addr).add i) = some u) := by
        rcases h.own.2 with ⟨e, _⟩ | ⟨g, cap, cur, e, hB, hg, _⟩
        · cases e
        · cases e
          have hO := h.own
          unfold ROwn at hO
          intro i u hu
          have := hO.cells (g := g) rfl i u hu
          exact (((Below.refl w.heap.size w).alloc (Nat.le_refl _) (.cells #[] 59)).cell (p := (⟨g, 0, none⟩ : Addr).add i) (by rw [add_plain]; exact (Array.getElem?_eq_some_iff.1 hg).1)).trans this
      have k0' := cell_later k0 ((Below.refl _ w).alloc (Nat.le_refl _) (.cells #[] 59))
      clear h hat hx hcan hmay hm hE
      go_enter Tryd.func35, Tryd.ntmps35
      go_wp2_with (at_builtin; refine wpList_append_own _ rfl (.tmp 38) (.tmp 42) 55 rfl w.heap.size 59 i0 _ 2 16 Tryd.underlying55 hi hz0 hz1 hz2 rfl (by decide) _ 0 [] rfl hown0 ⟨g, 0, none⟩ L.length c (wrv L) rfl Hl.out Hc.out (wrv_one L) (by unfold maxLen; omega) (by omega) (by simp) ?_; intro v1 w5 hown1 hgrow1)
      intro hnil1
      clear hnil1
      simp only [Nat.zero_add, List.nil_append] at hown1
      have HR3 : Hid (ROwn w5 w.heap.size v1 L) := hown1
      have HB3 : Hid (Below w.heap.size w w5) := ((Below.refl _ _).alloc (Nat.le_refl _) _).grown hgrow1 (by simp) (fun j e => by cases e; exact Nat.le_refl _)
      obtain ⟨A1, c1, rfl, _, hat1⟩ := HR3.out.sl
      obtain ⟨g1, rfl, hg1, hBg1, _⟩ := hat1 k hk
      have HF := Lib.hid (rset_fin H.out HB3.out HR3.out)
      have q0 := (H.out.later HB3.out).blk.cell 0
      have q1 := (H.out.later HB3.out).blk.frozen 0
      simp only [List.getElem?_toArray, List.getElem?_cons_zero] at q0
      have HFX := Lib.hid (Fr.refl w5 0 nilv)
      clear hown1 hgrow1 hown0 Hl Hc k0 k0' x0 x1 i1 hat1 HR3 HB3 H hc
      go_upto_region 8 with (fail)
      generalize (w5.setCell ⟨p, 0, none⟩ (.slice (some ⟨g1, 0, none⟩) L.length c1)) = W4 at *
      obtain ⟨A2, c2, e, _, y0, _⟩ := HF.out.1.cells
      cases e
      obtain ⟨A3, c3, e, _, hat2⟩ := HF.out.1.own.sl
      cases e
      obtain ⟨g2, e, _, _, _, x0, x1, z0, z1⟩ := hat2 k hk
      cases e
      have i1 := rindex g1 L.length c1 k (k : Int) rfl hk
      clear q0 q1 hat2
      go_wp2
      go_ret
      exact rt_yes HE.out (by rw [show ((k : Int) + 1 - 1).toNat = k by omega]; exact rset2 HF.out.1 rfl (st, ts)) ((HF.out.2.late hBg1 _ _).late hBg1 _ _)
  · have dn : (s != was) = true := ine_yes hs
    rw [if_pos (decide_eq_false hs)] at hE
    have HE := Lib.hid hE
    clear h hat hx hcan hmay hs hE
    go_enter Tryd.func35, Tryd.ntmps35
    go_wp2
    go_ret
    exact rt_no H.out HE.out (by decide)
theorem rturn_any (B p : Nat) (v : Value) (L : List Wr) (la i was st ts : Int) (may : Bool) (w : World) (h : RfAt w B p v L) (hn : L.length ≤ 1000000) (hcan : ∀ s, canB s st = decide (s = was)) (hmay : may = decide (¬ (ts ≠ 0 ∧ (ts ≤ la ∨ 1048576 < ts)))) : Calls Tryd.prog 35 #[.pointer (some ⟨p, 0, none⟩), .int .i64 i, .int .u8 was, .int .u8 st, .int .i64 ts, .bool may] w (RT B p L la i st ts w) := by
  by_cases hi : i < 1 ∨ (L.length : Int) < i
  · exact rturn_out B p v L la i was st ts may w h hn hcan hmay hi
  · exact rturn_in B p v L la i was st ts may w h hn hcan hmay hi
theorem can3 (s : Int) : canB s 3 = decide (s = 1) := by unfold canB; simp
theorem can2 (s : Int) : canB s 2 = decide (s = 1) := by unfold canB; simp
theorem can4 (s : Int) : canB s 4 = decide (s = 2) := by unfold canB; simp
set_option maxRecDepth 100000 in
set_option maxHeartbeats 4000000 in
theorem rfall_any (B p : Nat) (v : Value) (L : List Wr) (la i : Int) (w : World) (h : RfAt w B p v L) (hn : L.length ≤ 1000000) : Calls Tryd.prog 25 #[.pointer (some ⟨p, 0, none⟩), .int .i64 i] w (RT B p L la i 2 0 w) := by
  have C := Lib.hid (rturn_any B p v L la i 1 2 0 true w h hn can2 (by simp))
  obtain ⟨e, he⟩ : ∃ e, turnE L la i 2 0 = e := ⟨_, rfl⟩
  have HE := Lib.hid he
  clear h he
  go_enter Tryd.func25, Tryd.ntmps25
  go_wp2_with fail
  refine (C.out).mono ?_
  rintro x w' ⟨rfl, h2⟩
  rw [HE.out]
  have H2 := Lib.hid h2
  clear h2 C
  go_wp2
  go_ret
  exact ⟨by rw [HE.out]; rfl, H2.out⟩
set_option maxRecDepth 100000 in
set_option maxHeartbeats 4000000 in
theorem rfallen_any (B p : Nat) (v : Value) (L : List Wr) (la i : Int) (w : World) (h : RfAt w B p v L) (hn : L.length ≤ 1000000) : Calls Tryd.prog 26 #[.pointer (some ⟨p, 0, none⟩), .int .i64 i] w (RT B p L la i 4 0 w) := by
  have C := Lib.hid (rturn_any B p v L la i 2 4 0 true w h hn can4 (by simp))
  obtain ⟨e, he⟩ : ∃ e, turnE L la i 4 0 = e := ⟨_, rfl⟩
  have HE := Lib.hid he
  clear h he
  go_enter Tryd.func26, Tryd.ntmps26
  go_wp2_with fail
  refine (C.out).mono ?_
  rintro x w' ⟨rfl, h2⟩
  rw [HE.out]
  have H2 := Lib.hid h2
  clear h2 C
  go_wp2
  go_ret
  exact ⟨by rw [HE.out]; rfl, H2.out⟩
set_option maxRecDepth 100000 in
set_option maxHeartbeats 4000000 in
theorem rcommit_any (B p : Nat) (v : Value) (L : List Wr) (i ts : Int) (w : World) (h : RfAt w B p v L) (hn : L.length ≤ 1000000) : Calls Tryd.prog 24 #[.pointer (some ⟨p, 0, none⟩), .int .i64 i, .int .i64 ts] w (RT B p L (lastL L) i 3 ts w) := by
  obtain ⟨e, he⟩ : ∃ e, turnE L (lastL L) i 3 ts = e := ⟨_, rfl⟩
  have HE := Lib.hid he
  have CL := Lib.hid (rlast_any B p v L w h hn)
  obtain ⟨la, hla⟩ : ∃ la, lastL L = la := ⟨_, rfl⟩
  rw [hla] at he HE CL ⊢
  clear hla he
  by_cases h0 : ts = 0
  · subst h0
    have C := Lib.hid (rturn_any B p v L la i 1 3 0 true w h hn can3 (by simp))
    clear h CL
    go_enter Tryd.func24, Tryd.ntmps24
    go_wp2_with fail
    refine (C.out).mono ?_
    rintro x w' ⟨rfl, h2⟩
    rw [HE.out]
    have H2 := Lib.hid h2
    clear h2 C
    go_wp2
    go_ret
    exact ⟨by rw [HE.out]; rfl, H2.out⟩
  · have dz : (ts == 0) = false := ieq_no h0
    by_cases h1 : la < ts
    · have d1 : decide (la < ts) = true := decide_eq_true h1
      obtain ⟨b, hb⟩ : ∃ b, decide (ts ≤ 1048576) = b := ⟨_, rfl⟩
      have C := Lib.hid (rturn_any B p v L la i 1 3 ts b w h hn can3 (by rw [← hb, decide_eq_decide]; omega))
      clear h
      go_enter Tryd.func24, Tryd.ntmps24
      go_wp2_with fail
      refine (CL.out).mono ?_
      rintro x _ ⟨rfl, rfl⟩
      go_wp2_with fail
      refine (C.out).mono ?_
      rintro x w' ⟨rfl, h2⟩
      rw [HE.out]
      have H2 := Lib.hid h2
      clear h2 C
      go_wp2
      go_ret
      exact ⟨by rw [HE.out]; rfl, H2.out⟩
    · have d1 : decide (la < ts) = false := decide_eq_false h1
      have C := Lib.hid (rturn_any B p v L la i 1 3 ts false w h hn can3 (by symm; rw [decide_eq_false_iff_not]; omega))
      clear h
      go_enter Tryd.func24, Tryd.ntmps24
      go_wp2_with fail
      refine (CL.out).mono ?_
      rintro x _ ⟨rfl, rfl⟩
      go_wp2_with fail
      refine (C.out).mono ?_
      rintro x w' ⟨rfl, h2⟩
      rw [HE.out]
      have H2 := Lib.hid h2
      clear h2 C
      go_wp2
      go_ret
      exact ⟨by rw [HE.out]; rfl, H2.out⟩
end Go.Proofs.YtmkgipbepipjkaaDoor
