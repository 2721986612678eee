/- The document's Write. -/
import Derived.Test.YtbnbhhmgfogjeaaJZ4
namespace Go.Proofs.Ytbnbhhmgfogjeaa
open Go.ChangeShapes Go.WideShapes Go.ChangeAt Go.RowKit Go.Maps
set_option linter.unusedVariables false
set_option linter.unusedSimpArgs false

def oldc (W : World) (p : Addr) : Value := (W.cell? p).getD undef
theorem oldc_of {W : World} {p : Addr} {v : Value} (h : W.cell? p = some v) : W.cell? p = some (oldc W p) := by unfold oldc; rw [h]; rfl
theorem conv_zb (n b : Nat) (W : World) (h : Blk W b (madeCells #[.int .u8 0] n) 5) : (convert 96 9 (.slice (some ⟨b, 0, none⟩) n n)).run Try.prog W = .ok (.string (strOfNums (List.replicate n 0))) W := by
  refine run_convert_bytes_arg _ 96 5 Try.underlying96 Try.underlying5 _ 0 n n (List.replicate n 0) (by simp) (fun i hi => ?_) 9 Try.underlying9
  have hc := h.cell i
  rw [Nat.zero_add, hc, made_at' n i hi, List.getD_eq_getElem?_getD, List.getElem?_replicate, if_pos hi]
  rfl
/-- what the region keeps -/
abbrev SY (q s g k : Nat) (vB : Value) (W : World) : Prop := W.cell? ⟨q, 0, none⟩ = some (.int .i64 (s : Int)) ∧ W.cell? ⟨q, 1, none⟩ = some vB ∧ W.cell? ⟨g, k, none⟩ = some (oldc W ⟨g, k, none⟩) ∧ W.frozen? ⟨g, k, none⟩ = false
theorem SY.later {q s g k : Nat} {vB : Value} {W W' : World} (h : SY q s g k vB W) (hb : Below W.heap.size W W') : SY q s g k vB W' := by
  obtain ⟨h0, h1, h2, h3⟩ := h
  have l0 := lt_of_cell h0
  have l2 := lt_of_cell h2
  exact ⟨(hb.cell (p := ⟨q, 0, none⟩) l0).trans h0, (hb.cell (p := ⟨q, 1, none⟩) l0).trans h1, oldc_of ((hb.cell (p := ⟨g, k, none⟩) l2).trans h2), (hb.frozen (p := ⟨g, k, none⟩) l2).trans h3⟩
theorem SY.set {q s g k : Nat} {vB : Value} {W : World} (h : SY q s g k vB W) (hne : q ≠ g) (v : Value) : SY q s g k vB (W.setCell ⟨g, k, none⟩ v) := by
  obtain ⟨h0, h1, h2, h3⟩ := h
  have e : ∀ j, (W.setCell ⟨g, k, none⟩ v).cell? ⟨q, j, none⟩ = W.cell? ⟨q, j, none⟩ := fun j => World.cell?_of_block (a := ⟨q, j, none⟩) (Below.heap_setCell W ⟨g, k, none⟩ v q hne)
  refine ⟨(e 0).trans h0, (e 1).trans h1, oldc_of (World.cell?_setCell_same W _ v h2), by rw [World.frozen?_setCell]; exact h3⟩
set_option maxRecDepth 100000 in
set_option maxHeartbeats 4000000 in
theorem dwrite_any (B q s : Nat) (st : PS) (Bs : List ByteArray) (Us : List Bool) (Bk : List Nat) (vB vU vK : Value) (x : Int) (S : ByteArray) (w : World) (h : Dx w B q s Bs Us Bk vB vU vK) (hr : Rel s st Bs Us Bk) (hi : InvS s st) (hs4 : s ≤ 4096) (h0 : 0 ≤ x) (h1 : x ≤ 65535) : Calls Try.prog 54 #[.pointer (some ⟨q, 0, none⟩), .int .u16 x, .string S] w fun e w' => e = .returned (.int .i64 (wrE s x S st)) ∧ DEnd B q s (wrS s x S st) vB vU vK w w' := by
  have HP := Lib.hid (place_any B q s st Bs Us Bk vB vU vK x w h hr hi h0 h1)
  have c0 := h.blk.cell 0
  have c1 := h.blk.cell 1
  simp only [List.getElem?_toArray, List.getElem?_cons_zero, List.getElem?_cons_succ] at c0 c1
  by_cases hx : x ∈ st.2.1
  · have hm := is_mem.2 hx
    obtain ⟨m, C, bs, F⟩ := st
    obtain ⟨k, hk, e⟩ := Inv.cm hi x hx
    have hs := Inv.s2 hi
    have hpl : plcK s x (m, C, bs, F) = k := by unfold plcK; rw [if_pos hm, e, Int.toNat_natCast]; exact Nat.mul_div_cancel k (by omega)
    rw [hpl, hm] at HP
    by_cases hS : S.size ≤ s
    · have hre : wrE s x S (m, C, bs, F) = 0 := by unfold wrE; rw [if_pos hm, if_pos hS]
      have hrs : wrS s x S (m, C, bs, F) = (m, C, fillZ (putS bs (k * s) S) (k * s + S.size) (s - S.size), F) := by unfold wrS; rw [if_pos ⟨hm, hS⟩, e, Int.toNat_natCast]
      have hks : k * s + s ≤ 4096 := by
        have h3 : (k + 1) * s ≤ m * s := Nat.mul_le_mul_right s hk
        rw [Nat.add_mul, Nat.one_mul] at h3
        have h4 : m * s ≤ 4096 := Inv.le hi
        omega
      have HR := Lib.hid (rel_write hr hi hk hS hks)
      have hkl : k < Bs.length := by rw [hr.bm]; exact hk
      rw [hre, hrs]
      have HD := Lib.hid h
      obtain ⟨g, cB, rfl, hg, hcc, hff⟩ := ow_at h.oB (getS hkl)
      have d1 : decide ((s : Int) < (S.size : Int)) = false := decide_eq_false (by omega)
      have i5 := idx49 g Bs.length cB k (k : Int) rfl hkl
      obtain ⟨z, hz⟩ : ∃ z : Nat, z = s - S.size := ⟨_, rfl⟩
      have hzi : (s : Int) - (S.size : Int) = (z : Int) := by omega
      have wz : IntKind.i64.wrap (z : Int) = (z : Int) := IntWalk.i64_in _ (by omega)
      have hmk := fun W => mk_z z (by omega) W
      have hcv := conv_zb z w.heap.size (w.alloc (.cells (madeCells #[.int .u8 0] z) 5)).drew ((Blk.new w (madeCells #[.int .u8 0] z) 5).later (Below.drew (Below.refl _ _)))
      have hzs := str_size z
      rw [← hz] at HR ⊢
      have HRR : Hid (S ++ strOfNums (List.replicate z 0) = S ++ strOfNums (List.replicate z 0)) := rfl
      clear h hr hi h0 h1 hx hm hpl hre hrs hz hks e hk hg
      go_enter Try.func54, Try.ntmps54
      go_wp2_with fail
      refine HP.out.mono ?_
      rintro e w1 ⟨rfl, rfl⟩
      go_upto_region 6 with (fail)
      have hqg : q ≠ g := fun e => HD.out.apart.1 (by rw [e]; rfl)
      have hbA : Below w.heap.size w (w.alloc (.cells (madeCells #[.int .u8 0] z) 5)).drew := Below.drew ((Below.refl _ _).alloc (Nat.le_refl _) _)
      have HDA := Lib.hid (HD.out.later hbA)
      have e1 := HDA.out.blk.cell 1
      simp only [List.getElem?_toArray, List.getElem?_cons_zero, List.getElem?_cons_succ] at e1
      have e2 := (hbA.cell (p := ⟨g, k, none⟩) (lt_of_cell hcc)).trans hcc
      have e3 := (hbA.frozen (p := ⟨g, k, none⟩) (lt_of_cell hcc)).trans hff
      have hsz2 : S.size ≤ 4096 := by omega
      have hsz3 : (strOfNums (List.replicate z 0)).size ≤ 4096 := by rw [hzs]; omega
      clear hzs HRR
      generalize strOfNums (List.replicate z 0) = Z at *
      have hns : ¬ (9223372036854775807 < S.size + Z.size) := by omega
      clear hbA
      have hbB : Below w.heap.size w (w.alloc (.cells (madeCells #[.int .u8 0] z) 5)) := (Below.refl _ _).alloc (Nat.le_refl _) _
      have HDF : Hid (Dx ((w.alloc (.cells (madeCells #[.int .u8 0] z) 5)).setCell ⟨g, k, none⟩ (.string (S ++ Z))).drew B q s (Bs.set k (S ++ Z)) Us Bk (.slice (some ⟨g, 0, none⟩) Bs.length cB) vU vK) := ((HD.out.later hbB).elB (k := k) (S ++ Z)).later (Below.drew (Below.refl _ _))
      have HFF : Hid (FrD w ((w.alloc (.cells (madeCells #[.int .u8 0] z) 5)).setCell ⟨g, k, none⟩ (.string (S ++ Z))).drew q (.slice (some ⟨g, 0, none⟩) Bs.length cB) vU) := ((FrD.of_below hbB).trans (FrD.set_B _) Nw.refl Nw.refl).trans (FrD.of_below (Below.drew (Below.refl _ _))) Nw.refl Nw.refl
      clear hbB
      go_region_law (fail)
      all_goals (
        clear e1 e2 e3 hcv hmk c0 c1 hcc hff hns wz hzi
        go_wp2
        go_ret
        exact ⟨rfl, _, _, _, _, _, _, HDF.out, HR.out, HFF.out, Nw.refl, Nw.refl, Nw.refl⟩)
    · have hre : wrE s x S (m, C, bs, F) = 40 := by unfold wrE; rw [if_pos hm, if_neg hS]
      have hrs : wrS s x S (m, C, bs, F) = (m, C, bs, F) := by unfold wrS; rw [if_neg (fun e => hS e.2)]
      have d1 : decide ((s : Int) < (S.size : Int)) = true := decide_eq_true (by omega)
      have d1n : decide (s < S.size) = true := decide_eq_true (by omega)
      rw [hre, hrs]
      have HE := Lib.hid (DEnd.same h hr (Below.refl w.heap.size w))
      clear h hr hi h0 h1 hx hm hpl hre hrs e hk hS
      go_enter Try.func54, Try.ntmps54
      go_wp2_with fail
      refine HP.out.mono ?_
      rintro e w1 ⟨rfl, rfl⟩
      go_wp2
      go_ret
      exact ⟨rfl, HE.out⟩
  · have hm := isC_no hx
    have hre : wrE s x S st = 5 := by unfold wrE; rw [if_neg (by simp [hm])]
    have hrs : wrS s x S st = st := by unfold wrS; rw [if_neg (by simp [hm])]
    rw [hm] at HP
    rw [hre, hrs]
    have HE := Lib.hid (DEnd.same h hr (Below.refl w.heap.size w))
    clear h hr hi h0 h1 hx hm hre hrs c0 c1
    go_enter Try.func54, Try.ntmps54
    go_wp2_with fail
    refine HP.out.mono ?_
    rintro e w1 ⟨rfl, rfl⟩
    go_wp2
    go_ret
    exact ⟨rfl, HE.out⟩
end Go.Proofs.Ytbnbhhmgfogjeaa
