/- The document's Is, Read, Used, Room, Free, Write. -/
import Derived.Test.YtbnbhhmgfogjeaaJZ2
namespace Go.Proofs.Ytbnbhhmgfogjeaa
open Go.ChangeShapes Go.WideShapes Go.ChangeAt Go.RowKit Go.Maps
set_option linter.unusedVariables false
set_option linter.unusedSimpArgs false

set_option maxRecDepth 100000 in
set_option maxHeartbeats 4000000 in
theorem dis_any (B q s : Nat) (st : PS) (Bs : List ByteArray) (Us : List Bool) (Bk : List Nat) (vB vU vK : Value) (x : Int) (w : World) (h : Dx w B q s Bs Us Bk vB vU vK) (hr : Rel s st Bs Us Bk) (hi : InvS s st) (h0 : 0 ≤ x) (h1 : x ≤ 65535) : Calls Try.prog 48 #[.pointer (some ⟨q, 0, none⟩), .int .u16 x] w fun e w' => e = .returned (.bool (isC st.2.1 x)) ∧ w = w' := by
  have HP := Lib.hid (place_any B q s st Bs Us Bk vB vU vK x w h hr hi h0 h1)
  clear h hr hi h0 h1
  go_enter Try.func48, Try.ntmps48
  go_wp2_with fail
  refine HP.out.mono ?_
  rintro e w1 ⟨rfl, rfl⟩
  go_wp2
  go_ret
  exact ⟨rfl, rfl⟩
set_option maxRecDepth 100000 in
set_option maxHeartbeats 4000000 in
theorem dread_any (B q s : Nat) (st : PS) (Bs : List ByteArray) (Us : List Bool) (Bk : List Nat) (vB vU vK : Value) (x : Int) (w : World) (h : Dx w B q s Bs Us Bk vB vU vK) (hr : Rel s st Bs Us Bk) (hi : InvS s st) (h0 : 0 ≤ x) (h1 : x ≤ 65535) : Calls Try.prog 55 #[.pointer (some ⟨q, 0, none⟩), .int .u16 x] w fun e w' => e = .returned (.tuple #[.string (rdT s x st), .int .i64 (rdE x st)]) ∧ w = w' := by
  have HP := Lib.hid (place_any B q s st Bs Us Bk vB vU vK x w h hr hi h0 h1)
  have c1 := h.blk.cell 1
  simp only [List.getElem?_toArray, List.getElem?_cons_zero, List.getElem?_cons_succ] at c1
  by_cases hx : x ∈ st.2.1
  · have hm := is_mem.2 hx
    obtain ⟨k, hk, e⟩ := Inv.cm hi x hx
    have hs := Inv.s2 hi
    have hpl : plcK s x st = k := by unfold plcK; rw [if_pos hm, e, Int.toNat_natCast]; exact Nat.mul_div_cancel k (by omega)
    have hbs := hr.bs k hk (by rw [← e]; exact hm)
    have hkl : k < Bs.length := by rw [hr.bm]; exact hk
    obtain ⟨g, c, rfl, _, hc, _⟩ := ow_at h.oB (getS hkl)
    rw [hbs] at hc
    have hrt : rdT s x st = rdS st.2.2.1 (k * s) s := by unfold rdT; rw [if_pos hm, e, Int.toNat_natCast]
    have hre : rdE x st = 0 := by unfold rdE; rw [if_pos hm]
    have hc' : w.cell? ⟨g, k, none⟩ = some (.string (rdS st.2.2.1 (k * s) s)) := hc
    rw [hpl, hm] at HP
    rw [hrt, hre]
    generalize rdS st.2.2.1 (k * s) s = t at *
    have i5 := idx49 g Bs.length c k (k : Int) rfl hkl
    clear h hr hi h0 h1 hx hm hpl hbs hkl hc hrt hre hk e
    go_enter Try.func55, Try.ntmps55
    go_wp2_with fail
    refine HP.out.mono ?_
    rintro e w1 ⟨rfl, rfl⟩
    go_wp2
    go_ret2
    exact ⟨rfl, rfl⟩
  · have hm := isC_no hx
    have hrt : rdT s x st = ByteArray.empty := by unfold rdT; rw [if_neg (by simp [hm])]
    have hre : rdE x st = 5 := by unfold rdE; rw [if_neg (by simp [hm])]
    rw [hm] at HP
    rw [hrt, hre]
    clear h hr hi h0 h1 hx hm hrt hre c1
    go_enter Try.func55, Try.ntmps55
    go_wp2_with fail
    refine HP.out.mono ?_
    rintro e w1 ⟨rfl, rfl⟩
    go_wp2
    go_ret2
    exact ⟨rfl, rfl⟩
set_option maxRecDepth 100000 in
set_option maxHeartbeats 4000000 in
theorem dused_any (B q s : Nat) (st : PS) (Bs : List ByteArray) (Us : List Bool) (Bk : List Nat) (vB vU vK : Value) (w : World) (h : Dx w B q s Bs Us Bk vB vU vK) (hr : Rel s st Bs Us Bk) (hi : InvS s st) : Calls Try.prog 56 #[.pointer (some ⟨q, 0, none⟩)] w fun e w' => e = .returned (.int .i64 (st.2.1.length : Nat)) ∧ w = w' := by
  have c2 := h.blk.cell 2
  simp only [List.getElem?_toArray, List.getElem?_cons_zero, List.getElem?_cons_succ] at c2
  have HU := Lib.hid h.oU
  have HCT := Lib.hid hr.ct
  have hlen : Us.length ≤ 4096 := by
    have := hr.um
    have h1 := Inv.le hi
    have h2 := Inv.s2 hi
    have h3 : st.1 * 2 ≤ st.1 * s := Nat.mul_le_mul_left _ h2
    omega
  obtain ⟨AU, cU, hv, _⟩ := Ow.sl h.oU
  rw [hv] at HU c2
  clear h hr hi hv
  go_enter Try.func56, Try.ntmps56
  go_wp2
  go_loop [3, 4] (fun m i => ∃ k : Nat, k ≤ Us.length ∧ i = .int .i64 k ∧ m = .int .i64 (cntT (Us.take k) : Nat)) (fun _ i => Us.length - (intOf i).toNat)
  case atStart => exact ⟨0, Nat.zero_le _, rfl, rfl⟩
  case round =>
    obtain ⟨k, hk, rfl, rfl⟩ := hrel
    by_cases hlt : k < Us.length
    · have d5 : decide ((k : Int) < (Us.length : Int)) = true := decide_eq_true (by omega)
      have wk1 : IntKind.i64.wrap ((k : Int) + 1) = (k : Int) + 1 := IntWalk.i64_in _ (by omega)
      obtain ⟨g, c, e, _, hc, _⟩ := ow_at HU.out (getB hlt)
      simp only [Value.slice.injEq] at e
      obtain ⟨rfl, _, rfl⟩ := e
      have i5 := idx50 g Us.length cU k (k : Int) rfl hlt
      have hcs := cnt_take Us k hlt
      have hct : cntT (Us.take k) ≤ k := by
        unfold cntT
        exact Nat.le_trans (List.length_filter_le _ _) (by rw [List.length_take]; omega)
      have wk2 : IntKind.i64.wrap (((cntT (Us.take k) : Nat) : Int) + 1) = ((cntT (Us.take k) : Nat) : Int) + 1 := IntWalk.i64_in _ (by omega)
      have hc' : w.cell? ⟨g, k, none⟩ = some (.bool (Us.getD k false)) := hc
      have HCS := Lib.hid hcs
      clear hc hcs hct
      generalize cntT (Us.take k) = a at *
      obtain ⟨b, hb⟩ : ∃ b, cntT (Us.take (k + 1)) = b := ⟨_, rfl⟩
      rw [hb] at HCS
      have HBB := Lib.hid hb
      clear hb
      generalize Us.getD k false = u at *
      cases u with
      | true =>
        have HB1 : Hid (b = a + 1) := HCS.out
        go_wp2
        go_round
        case rel => exact ⟨k + 1, by omega, by go_num, by rw [HBB.out, HB1.out]; go_num⟩
        case measure => simp [intOf]; omega
      | false =>
        have HB1 : Hid (b = a) := HCS.out
        go_wp2
        go_round
        case rel => exact ⟨k + 1, by omega, by go_num, by rw [HBB.out, HB1.out]⟩
        case measure => simp [intOf]; omega
    · obtain rfl : k = Us.length := by omega
      have d5 : decide ((Us.length : Int) < (Us.length : Int)) = false := decide_eq_false (by omega)
      rw [List.take_length, HCT.out]
      go_wp2
      go_ret
      exact ⟨rfl, rfl⟩
abbrev SQ (w : World) (q s : Nat) (W : World) : Prop := Below w.heap.size w W ∧ W.cell? ⟨q, 0, none⟩ = some (.int .i64 (s : Int))
set_option maxRecDepth 100000 in
set_option maxHeartbeats 4000000 in
theorem droom_any (B q s : Nat) (st : PS) (Bs : List ByteArray) (Us : List Bool) (Bk : List Nat) (vB vU vK : Value) (w : World) (h : Dx w B q s Bs Us Bk vB vU vK) (hr : Rel s st Bs Us Bk) (hi : InvS s st) (hs : s ≤ 4096) : Calls Try.prog 50 #[.pointer (some ⟨q, 0, none⟩)] w fun e w' => e = .returned (.int .i64 (((4096 / s : Nat) : Int) - (st.2.1.length : Nat))) ∧ Below w.heap.size w w' := by
  have h2 := Inv.s2 hi
  have hqs := quo_s h2
  have hz1 : ¬ (s = 0) := by omega
  have hz2 : (s == 0) = false := by rw [beq_eq_false_iff_ne]; omega
  have hz3 : ((s : Int) == 0) = false := by rw [beq_eq_false_iff_ne]; omega
  have hdl : 4096 / s ≤ 4096 := Nat.div_le_self _ _
  have hcl : st.2.1.length ≤ 4096 := by
    have h1 := Inv.le hi
    have h3 : st.1 * 2 ≤ st.1 * s := Nat.mul_le_mul_left _ h2
    have := Inv.ct hi
    omega
  have hq1 := hqs.1
  have hq2 := hqs.2
  have HD := Lib.hid h
  have KU : Hid (∀ W, SQ w q s W → Calls Try.prog 56 #[.pointer (some ⟨q, 0, none⟩)] W fun e w' => e = .returned (.int .i64 (st.2.1.length : Nat)) ∧ W = w') := fun W hW => dused_any B q s st Bs Us Bk vB vU vK W (h.later hW.1) hr hi
  have KS : Hid (∀ W W', SQ w q s W → Below W.heap.size W W' → SQ w q s W') := fun W W' hW hb => ⟨stepB hW.1 hb, (hb.cell (p := ⟨q, 0, none⟩) (lt_of_cell hW.2)).trans hW.2⟩
  have K0 : Hid (SQ w q s w) := ⟨Below.refl _ _, h.blk.cell 0⟩
  clear h hr hi hqs HD
  generalize 4096 / s = r at *
  generalize st.2.1.length = L at *
  have ws : IntKind.i64.wrap ((r : Int) - (L : Int)) = (r : Int) - (L : Int) := IntWalk.i64_in _ (by omega)
  go_enter Try.func50, Try.ntmps50
  go_upto_region 1 with (fail)
  go_region_held3 (SQ w q s) (first | assumption | exact K0.out | exact KS.out _ _ (by assumption) (by assumption) | exact KS.out _ _ (by assumption) (below_drewN (Below.refl _ _) _) | exact KS.out _ _ K0.out (below_drewN (Below.refl _ _) _)) (first
    | (go_at_call 56; refine (KU.out _ (by assumption)).mono ?_; rintro e w9 ⟨rfl, rfl⟩))
  have HW : Hid (Below w.heap.size w w.drew) := Below.drew (Below.refl _ _)
  clear ws hq1 hq2
  go_wp2
  go_ret
  exact ⟨rfl, HW.out⟩
end Go.Proofs.Ytbnbhhmgfogjeaa
