/- The document's Free, Write. -/
import Derived.Test.YtbnbhhmgfogjeaaJZ3
import Derived.Deep.AppendLies
namespace Go.Proofs.Ytbnbhhmgfogjeaa
open Go.ChangeShapes Go.WideShapes Go.ChangeAt Go.RowKit Go.Maps
set_option linter.unusedVariables false
set_option linter.unusedSimpArgs false

/-- what a turn of the document's page leaves -/
def DEnd (B q s : Nat) (st : PS) (vB vU vK : Value) (w w' : World) : Prop :=
  ∃ Bs Us Bk vB' vU' vK', Dx w' B q s Bs Us Bk vB' vU' vK' ∧ Rel s st Bs Us Bk ∧ FrD w w' q vB vU ∧ Nw w vB vB' ∧ Nw w vU vU' ∧ Nw w vK vK'
theorem DEnd.same {B q s : Nat} {st : PS} {Bs : List ByteArray} {Us : List Bool} {Bk : List Nat} {vB vU vK : Value} {w w' : World} (h : Dx w B q s Bs Us Bk vB vU vK) (hr : Rel s st Bs Us Bk) (hb : Below w.heap.size w w') : DEnd B q s st vB vU vK w w' :=
  ⟨Bs, Us, Bk, vB, vU, vK, h.later hb, hr, FrD.of_below hb, Nw.refl, Nw.refl, Nw.refl⟩
section
variable {W W' w w' : World} {B q s : Nat} {Bs : List ByteArray} {Us : List Bool} {Bk Bk' : List Nat} {vB vU vK vB2 vU2 vK2 : Value}
theorem ow_set {α : Type} {enc : α → Value} {W : World} {B e n : Nat} {v : Value} {xs : List α} (h : Ow enc W B e v n xs) (q j : Nat) (u : Value) (hq : v.ownBlock ≠ some q) : Ow enc (W.setCell ⟨q, j, none⟩ u) B e v n xs :=
  World.ownsRow.kept h (grown_set W q j u) (by cases hv : v.ownBlock with | none => exact .inl rfl | some k => exact .inr (fun e => hq (by rw [hv, e])))
theorem Ks.set (h : Ks W B vK Bk) (q j : Nat) (u : Value) (hq : vK.ownBlock ≠ some q) : Ks (W.setCell ⟨q, j, none⟩ u) B vK Bk :=
  h.keep (by simp) (fun k e => (grown_set W q j u).block k ((Array.getElem?_eq_some_iff.1 (h.tg k e).2.choose_spec).1) (fun e2 => hq (by rw [e]; exact e2)))
theorem ks_nq {c : Array Value} (h : Ks W B vK Bk) (hb : Blk W q c 107) : vK.ownBlock ≠ some q := fun e => by
  obtain ⟨_, cur, hc⟩ := h.tg q e
  have h2 : W.heap[q]? = some (.cells c 107 (0, 0)) := hb
  rw [h2] at hc; cases hc
theorem ow_nq {α : Type} {enc : α → Value} {e n : Nat} {v : Value} {xs : List α} {c : Array Value} (h : Ow enc W B e v n xs) (hb : Blk W q c 107) (he : e ≠ 107) : v.ownBlock ≠ some q := fun e2 => by
  obtain ⟨cur, hc⟩ := Ow.tag h q e2
  have h2 : W.heap[q]? = some (.cells c 107 (0, 0)) := hb
  rw [h2] at hc; simp only [Option.some.injEq, Obj.cells.injEq] at hc; exact he hc.2.1.symm
/-- a field is set -/
theorem Dx.setK (h : Dx W B q s Bs Us Bk vB vU vK) (hk : Ks W B vK2 Bk') : Dx (W.setCell ⟨q, 3, none⟩ vK2) B q s Bs Us Bk' vB vU vK2 :=
  ⟨h.hq, h.blk.set (j := 3) vK2, ow_set h.oB q 3 vK2 h.apart.1, ow_set h.oU q 3 vK2 h.apart.2.1, hk.set q 3 vK2 (ks_nq hk h.blk)⟩
theorem Dx.setU {Us' : List Bool} (h : Dx W B q s Bs Us Bk vB vU vK) (hk : Ow bv W B 4 vU2 Us'.length Us') : Dx (W.setCell ⟨q, 2, none⟩ vU2) B q s Bs Us' Bk vB vU2 vK :=
  ⟨h.hq, h.blk.set (j := 2) vU2, ow_set h.oB q 2 vU2 h.apart.1, ow_set hk q 2 vU2 (ow_nq hk h.blk (by decide)), h.oK.set q 2 vU2 h.apart.2.2.1⟩
theorem Dx.setB {Bs' : List ByteArray} (h : Dx W B q s Bs Us Bk vB vU vK) (hk : Ow sv W B 9 vB2 Bs'.length Bs') : Dx (W.setCell ⟨q, 1, none⟩ vB2) B q s Bs' Us Bk vB2 vU vK :=
  ⟨h.hq, h.blk.set (j := 1) vB2, ow_set hk q 1 vB2 (ow_nq hk h.blk (by decide)), ow_set h.oU q 1 vB2 h.apart.2.1, h.oK.set q 1 vB2 h.apart.2.2.1⟩
/-- .. or an element of a row -/
theorem Dx.elU {g c k : Nat} (b : Bool) (h : Dx W B q s Bs Us Bk vB (.slice (some ⟨g, 0, none⟩) Us.length c) vK) : Dx (W.setCell ⟨g, k, none⟩ (.bool b)) B q s Bs (Us.set k b) Bk vB (.slice (some ⟨g, 0, none⟩) Us.length c) vK := by
  have hst := World.ownsRow.stored h.oU k (.bool b)
  have hnq : q ≠ g := fun e => h.apart.2.1 (by rw [e]; rfl)
  refine ⟨h.hq, h.blk.other hnq _, ow_set h.oB g k _ (fun e => (h.apart.2.2.2.1 g e).1 rfl), ?_, h.oK.set g k _ (h.apart.2.2.2.2 g rfl)⟩
  have := hst.1
  rw [← show (Us.set k b).map bv = (Us.map bv).set k (.bool b) from by rw [List.map_set]; rfl] at this
  rw [List.length_set]
  exact this
theorem Dx.elB {g c k : Nat} (t : ByteArray) (h : Dx W B q s Bs Us Bk (.slice (some ⟨g, 0, none⟩) Bs.length c) vU vK) : Dx (W.setCell ⟨g, k, none⟩ (.string t)) B q s (Bs.set k t) Us Bk (.slice (some ⟨g, 0, none⟩) Bs.length c) vU vK := by
  have hst := World.ownsRow.stored h.oB k (.string t)
  have hnq : q ≠ g := fun e => h.apart.1 (by rw [e]; rfl)
  refine ⟨h.hq, h.blk.other hnq _, ?_, ow_set h.oU g k _ (fun e => (h.apart.2.2.2.1 g rfl).1 e), h.oK.set g k _ (h.apart.2.2.2.1 g rfl).2⟩
  have := hst.1
  rw [← show (Bs.set k t).map sv = (Bs.map sv).set k (.string t) from by rw [List.map_set]; rfl] at this
  rw [List.length_set]
  exact this
theorem FrD.set_q (j : Nat) (u : Value) : FrD W (W.setCell ⟨q, j, none⟩ u) q vB vU := ⟨rfl, rfl, rfl, by simp, fun k hk h1 _ _ => (grown_set W q j u).block k hk (fun e => h1 (Option.some.inj e))⟩
theorem FrD.set_U {g j n c : Nat} (u : Value) : FrD W (W.setCell ⟨g, j, none⟩ u) q vB (.slice (some ⟨g, 0, none⟩) n c) := ⟨rfl, rfl, rfl, by simp, fun k hk _ _ h2 => (grown_set W g j u).block k hk (fun e => h2 (by rw [Option.some.inj e]; rfl))⟩
theorem FrD.set_B {g j n c : Nat} (u : Value) : FrD W (W.setCell ⟨g, j, none⟩ u) q (.slice (some ⟨g, 0, none⟩) n c) vU := ⟨rfl, rfl, rfl, by simp, fun k hk _ h2 _ => (grown_set W g j u).block k hk (fun e => h2 (by rw [Option.some.inj e]; rfl))⟩
theorem FrD.grow_U (hg : W.grownBy W' vU.ownBlock) : FrD W W' q vB vU := ⟨hg.os, hg.tape, hg.output, hg.size, fun k hk _ _ h2 => hg.block k hk (fun e => h2 e.symm)⟩
theorem FrD.grow_B (hg : W.grownBy W' vB.ownBlock) : FrD W W' q vB vU := ⟨hg.os, hg.tape, hg.output, hg.size, fun k hk _ h2 _ => hg.block k hk (fun e => h2 e.symm)⟩
end
set_option maxRecDepth 100000 in
set_option maxHeartbeats 4000000 in
theorem dfree_any (B q s : Nat) (st : PS) (Bs : List ByteArray) (Us : List Bool) (Bk : List Nat) (vB vU vK : Value) (x : Int) (w : World) (h : Dx w B q s Bs Us Bk vB vU vK) (hr : Rel s st Bs Us Bk) (hi : InvS s st) (hup : st.2.1.Pairwise (fun p q => p < q)) (hB : B ≤ w.heap.size) (h0 : 0 ≤ x) (h1 : x ≤ 65535) : Calls Try.prog 53 #[.pointer (some ⟨q, 0, none⟩), .int .u16 x] w fun e w' => e = .returned (.int .i64 (frE x st)) ∧ DEnd B q s (frS x st) vB vU vK w w' := by
  have HP := Lib.hid (place_any B q s st Bs Us Bk vB vU vK x w h hr hi h0 h1)
  by_cases hx : x ∈ st.2.1
  · have hm := is_mem.2 hx
    obtain ⟨m, C, bs, F⟩ := st
    obtain ⟨k, hk, e⟩ := Inv.cm hi x hx
    have hs := Inv.s2 hi
    have hpl : plcK s x (m, C, bs, F) = k := by unfold plcK; rw [if_pos hm, e, Int.toNat_natCast]; exact Nat.mul_div_cancel k (by omega)
    have hre : frE x (m, C, bs, F) = 0 := by unfold frE; rw [if_pos hm]
    have hrs : frS x (m, C, bs, F) = (m, delC C ((k * s : Nat) : Int), putI bs (k * s) 2 (hdF F), k * s :: F) := by unfold frS; rw [if_pos hm, e, Int.toNat_natCast]
    rw [hpl, hm] at HP
    rw [hre, hrs]
    have HR := Lib.hid (rel_free (l := hdF F) hr hi hup hk (by rw [← e]; exact hx))
    have hkl : k < Us.length := by rw [hr.um]; exact hk
    have hBk : Bk.length ≤ 4096 := by
      have h3 := Inv.ct hi
      have h4 := Inv.le hi
      have h5 := hr.bk
      have h6 : F.length = Bk.length := by rw [← show _ = F from h5]; simp
      have h7 : m * 2 ≤ m * s := Nat.mul_le_mul_left _ hs
      have h3' : C.length + F.length = m := h3
      have h4' : m * s ≤ 4096 := h4
      omega
    have HD := Lib.hid h
    obtain ⟨gu, cu, rfl, hgu, hcu, hfu⟩ := ow_at h.oU (getB hkl)
    obtain ⟨AK, cK, rfl, hsK⟩ := h.oK.sl
    have HSK := Lib.hid hsK
    have c2 := h.blk.cell 2
    have c3 := h.blk.cell 3
    simp only [List.getElem?_toArray, List.getElem?_cons_zero, List.getElem?_cons_succ] at c2 c3
    have i5 := idx50 gu Us.length cu k (k : Int) rfl hkl
    have hst := World.ownsRow.stored h.oU k (.bool false)
    have HU1 : Hid (Ow bv (w.setCell ⟨gu, k, none⟩ (.bool false)) B 4 (.slice (some ⟨gu, 0, none⟩) Us.length cu) Us.length (Us.set k false)) := by
      have := hst.1
      rw [← show (Us.set k false).map bv = (Us.map bv).set k (.bool false) from by rw [List.map_set]; rfl] at this
      exact this
    have HG1 := Lib.hid hst.2
    have hnq : gu ≠ q := fun e => h.apart.2.1 (by rw [← e]; rfl)
    have hB1 : B ≤ w.heap.size := hB
    have HW1 : Hid ((w.setCell ⟨gu, k, none⟩ (.bool false)).heap.size = w.heap.size) := by show _ = _; simp
    have hblk1 : Blk (w.setCell ⟨gu, k, none⟩ (.bool false)) q #[.int .i64 (s : Int), vB, .slice (some ⟨gu, 0, none⟩) Us.length cu, .slice AK Bk.length cK] 107 := h.blk.other (Ne.symm hnq) _
    have HBL1 := Lib.hid hblk1
    have HFR1 : Hid (FrD w (w.setCell ⟨gu, k, none⟩ (.bool false)) q vB (.slice (some ⟨gu, 0, none⟩) Us.length cu)) := FrD.set_U _
    have HOB1 : Hid (Ow sv (w.setCell ⟨gu, k, none⟩ (.bool false)) B 9 vB Bs.length Bs) := World.ownsRow.kept h.oB hst.2 (.inr (fun e => (h.apart.2.2.2.1 gu e).1 rfl))
    have HKS1 : Hid (Ks (w.setCell ⟨gu, k, none⟩ (.bool false)) B (.slice AK Bk.length cK) Bk) := h.oK.keep (by simp) (fun j e => hst.2.block j ((Array.getElem?_eq_some_iff.1 (h.oK.tg j e).2.choose_spec).1) (fun e2 => by cases e2; exact h.apart.2.2.2.2 gu rfl e))
    clear h hr hi h0 h1 hx hm hpl hre hrs hup hsK hgu hst hblk1 e hk
    go_enter Try.func53, Try.ntmps53
    go_wp2_with fail
    refine HP.out.mono ?_
    rintro e w1 ⟨rfl, rfl⟩
    go_upto_region 5 with (fail)
    have hz1 : (w.setCell ⟨gu, k, none⟩ (.bool false)).heap.size = w.heap.size := HW1.out
    generalize w.setCell ⟨gu, k, none⟩ (.bool false) = w1 at *
    clear c2 c3 hfu hcu
    have c3 := HBL1.out.cell 3
    simp only [List.getElem?_toArray, List.getElem?_cons_zero, List.getElem?_cons_succ] at c3
    have hbx : Below w1.heap.size w1 (w1.alloc (.cells #[] 3)) := (Below.refl _ _).alloc (Nat.le_refl _) _
    have HF0 : Hid (Ow iv (w1.alloc (.cells #[] 3)) w.heap.size 3 (.slice (some ⟨w1.heap.size, 0, none⟩) 0 0) 0 []) := Ow.fresh w1 3 (by omega) rfl
    have hle1 : w.heap.size ≤ w1.heap.size := by omega
    have HZ1 := Lib.hid hz1
    clear hz1
    have hBL2 := HBL1.out.later hbx
    have c3x := hBL2.cell 3
    simp only [List.getElem?_toArray, List.getElem?_cons_zero, List.getElem?_cons_succ] at c3x
    have HSK2 : Hid (Sl iv (w1.alloc (.cells #[] 3)) AK Bk.length cK Bk) := by
      obtain ⟨A', c', e, hs⟩ := (HKS1.out.keep hbx.size (fun j e => hbx.block j (Array.getElem?_eq_some_iff.1 (HKS1.out.tg j e).2.choose_spec).1)).sl
      cases e; exact hs
    clear c3
    go_wp2_with (first
      | (at_builtin; refine wpList_append_sl elemI rfl (.tmp 22) (.tmp 26) rfl w.heap.size _ 0 [] rfl HF0.out AK Bk.length cK Bk rfl HSK2.out (by omega) (by decide) (by simp; omega) ?_; intro v2 w2 ho2)
      | fail)
    intro hg2
    have HK2 : Hid (Ow iv w2 w.heap.size 3 v2 Bk.length Bk) := by
      have := ho2
      rw [Nat.zero_add, List.nil_append] at this
      exact this
    have hb2 : Below w1.heap.size w1 w2 := hbx.grown hg2 hbx.size (fun j e => by cases e; exact Nat.le_refl _)
    have HB2 := Lib.hid hb2
    have hb3 : Below w2.heap.size w2 (w2.alloc (.cells #[.int .i64 (k : Int)] 3)) := (Below.refl _ _).alloc (Nat.le_refl _) _
    have HX3 : Hid (Sl iv (w2.alloc (.cells #[.int .i64 (k : Int)] 3)) (some ⟨w2.heap.size, 0, none⟩) 1 1 [k]) := Blk.sl (enc := iv) (xs := [k]) (Blk.new w2 #[.int .i64 (k : Int)] 3)
    have HK3 := Lib.hid (Ow.later HK2.out hb3)
    have HS3 := Lib.hid (Nat.le_trans hle1 (Nat.le_trans hb2.size hb3.size))
    have HB3 := Lib.hid (stepB hb2 hb3)
    clear ho2 hg2 hb2 hb3 hbx HF0 HSK2 c3x hBL2 HK2
    go_wp2_with (first
      | (at_builtin; refine wpList_append_sl elemI rfl (.tmp 27) (.tmp 29) rfl w.heap.size _ Bk.length Bk rfl HK3.out (some ⟨w2.heap.size, 0, none⟩) 1 1 [k] rfl HX3.out (by omega) (by decide) HS3.out ?_; intro v4 w4 ho4)
      | fail)
    intro hg4
    obtain ⟨A4, c4, rfl, _⟩ := Ow.sl ho4
    have hlk := Ow.lt HK3.out
    have hb4 : Below w1.heap.size w1 w4 := HB3.out.grown hg4 HB3.out.size (fun j e => (by have := (hlk j e).1; rw [HZ1.out]; exact this))
    have HD4 : Hid (Dx w4 B q s Bs (Us.set k false) Bk vB (.slice (some ⟨gu, 0, none⟩) Us.length cu) (.slice AK Bk.length cK)) := by
      have hd1 : Dx w1 B q s Bs (Us.set k false) Bk vB (.slice (some ⟨gu, 0, none⟩) Us.length cu) (.slice AK Bk.length cK) := ⟨HD.out.hq, HBL1.out, HOB1.out, by rw [List.length_set]; exact HU1.out, HKS1.out⟩
      exact hd1.later hb4
    have HF4 : Hid (FrD w w4 q vB (.slice (some ⟨gu, 0, none⟩) Us.length cu)) := HFR1.out.trans (FrD.of_below hb4) Nw.refl Nw.refl
    have HK4 : Hid (Ks w4 B (.slice A4 (Bk.length + 1) c4) (Bk ++ [k])) := Ks.of (Ow.base (by simpa using ho4) hB1)
    have HN4 : Hid (Nw w (.slice AK Bk.length cK) (.slice A4 (Bk.length + 1) c4)) := fun j e => .inr (Ow.lt ho4 j e).1
    have HD5 := Lib.hid (HD4.out.setK HK4.out)
    have HF5 := Lib.hid (HF4.out.trans (FrD.set_q (W := w4) 3 (.slice A4 (Bk.length + 1) c4)) Nw.refl Nw.refl)
    have q3 := HD4.out.blk.cell 3
    have qf := HD4.out.blk.frozen 3
    simp only [List.getElem?_toArray, List.getElem?_cons_zero, List.getElem?_cons_succ] at q3
    clear ho4 hg4 hlk hb4 HB3 HX3 HK3
    go_wp2
    go_ret
    exact ⟨rfl, Bs, _, _, vB, _, _, HD5.out, HR.out, HF5.out, Nw.refl, Nw.refl, HN4.out⟩
  · have hm := isC_no hx
    have hre : frE x st = 5 := by unfold frE; rw [if_neg (by simp [hm])]
    have hrs : frS x st = st := by unfold frS; rw [if_neg (by simp [hm])]
    rw [hm] at HP
    rw [hre, hrs]
    have HE := Lib.hid (DEnd.same h hr (Below.refl w.heap.size w))
    clear h hr hi h0 h1 hx hm hre hrs hup
    go_enter Try.func53, Try.ntmps53
    go_wp2_with fail
    refine HP.out.mono ?_
    rintro e w1 ⟨rfl, rfl⟩
    go_wp2
    go_ret
    exact ⟨rfl, HE.out⟩
end Go.Proofs.Ytbnbhhmgfogjeaa
