/- The counts, and the document's list, tell alike. -/
import Derived.Test.YtlnfdcaljmfbjaaP3
import Derived.Test.YtlnfdcaljmfbjaaI
namespace Go.Proofs.Ytlnfdcaljmfbjaa
open Go.ChangeShapes Go.WideShapes Go.ChangeAt Go.RowKit Go.Maps
set_option linter.unusedVariables false
set_option linter.unusedSimpArgs false

theorem getD_rep {n k : Nat} (x : Int) (h : k < n) (r : List Int) : (List.replicate n x ++ r).getD k 0 = x := by
  rw [List.getD_eq_getElem?_getD, List.getElem?_append_left (by simpa using h), List.getElem?_replicate, if_pos h]; rfl
theorem exp_at : ∀ {C : List Ct} {i k : Nat}, (∀ p ∈ C, 1 ≤ p.2) → i < C.length → (k : Int) < (C.getD i c0).2 → (expand C).getD ((sumK C i).toNat + k) 0 = (C.getD i c0).1 ∧ (sumK C i).toNat + k < (expand C).length
  | [], i, k, _, hi, _ => by simp at hi
  | p :: C, 0, k, h, _, hk => by
    have h1 : (k : Int) < p.2 := hk
    show (List.replicate p.2.toNat p.1 ++ expand C).getD (0 + k) 0 = p.1 ∧ 0 + k < (List.replicate p.2.toNat p.1 ++ expand C).length
    rw [Nat.zero_add]
    exact ⟨getD_rep _ (by omega) _, by rw [List.length_append, List.length_replicate]; omega⟩
  | p :: C, i + 1, k, h, hi, hk => by
    have hp := h p (List.mem_cons_self ..)
    have hr : ∀ q ∈ C, 1 ≤ q.2 := fun q hq => h q (List.mem_cons_of_mem p hq)
    have hi' : i < C.length := by simpa using hi
    have h0 := (sumK_le hr i (by omega)).1
    obtain ⟨e1, e2⟩ := exp_at (C := C) (i := i) (k := k) hr hi' (by simpa using hk)
    rw [sumK_cons, show (p.2 + sumK C i).toNat + k = p.2.toNat + ((sumK C i).toNat + k) from by omega]
    show (List.replicate p.2.toNat p.1 ++ expand C).getD _ 0 = (C.getD i c0).1 ∧ _ < (List.replicate p.2.toNat p.1 ++ expand C).length
    constructor
    · rw [List.getD_eq_getElem?_getD, List.getElem?_append_right (by rw [List.length_replicate]; omega), List.length_replicate, Nat.add_sub_cancel_left, ← List.getD_eq_getElem?_getD]
      exact e1
    · rw [List.length_append, List.length_replicate]; omega
theorem up_at {C : List Ct} (h : Ok C) {i : Nat} (hi : i + 1 < C.length) : (C.getD i c0).1 < (C.getD (i + 1) c0).1 := by
  have h1 := (List.pairwise_iff_getElem.1 h.up) i (i + 1) (by omega) hi (by omega)
  rw [List.getD_eq_getElem?_getD, List.getD_eq_getElem?_getD, List.getElem?_eq_getElem (by omega), List.getElem?_eq_getElem hi]
  exact h1
theorem ct_rng {C : List Ct} (h : Ok C) {i : Nat} (hi : i < C.length) : 1 ≤ (C.getD i c0).1 ∧ (C.getD i c0).1 ≤ 1048576 ∧ 1 ≤ (C.getD i c0).2 ∧ (C.getD i c0).2 ≤ 64 := by
  have hm : C.getD i c0 ∈ C := by rw [List.getD_eq_getElem?_getD, List.getElem?_eq_getElem hi]; exact List.getElem_mem hi
  have h1 := h.ts _ hm
  have h2 := h.pos _ hm
  have h3 := sumK_le h.pos (i + 1) hi
  have h4 := (sumK_le h.pos i (by omega)).1
  have h5 := h.sum
  have h6 : sumK C (i + 1) = sumK C i + (C.getD i c0).2 := rfl
  exact ⟨h1.1, h1.2, h2, by omega⟩
set_option maxRecDepth 100000 in
set_option maxHeartbeats 4000000 in
theorem like_of (hS : SortSome) (hN : SortNone) (B p b B2 q : Nat) (C : List Ct) (v : Value) (w : World) (h : DdAt w B p b C) (hr : RfAt w B2 q v (expand C)) : Calls Try.prog 23 #[.pointer (some ⟨p, 0, none⟩), .pointer (some ⟨q, 0, none⟩)] w fun x w' => x = .returned (.bool true) ∧ Below w.heap.size w w' := by
  obtain ⟨A, c, rfl, hs⟩ := hr.row
  have hle := len_expand h.ok.pos
  have hlen := h.len
  have hs64 := h.ok.sum
  have HO := Lib.hid h
  have HR := Lib.hid hr
  have HL := Lib.hid hs
  have HOK := Lib.hid h.ok
  have HX : Hid (∀ i k : Nat, i < C.length → (k : Int) < (C.getD i c0).2 → (expand C).getD ((sumK C i).toNat + k) 0 = (C.getD i c0).1 ∧ (sumK C i).toNat + k < (expand C).length) := fun i k hi hk => exp_at h.ok.pos hi hk
  have HF : Hid (∀ t, (expand C).foldl (stepC t) 0 = ofC C t) := fun t => by rw [foldC, expand_of t h.ok.up h.ok.pos]; omega
  have HA : Hid (∀ W, Below w.heap.size w W → Calls Try.prog 14 #[.pointer (some ⟨p, 0, none⟩)] W fun x w' => x = .returned (.int .i64 ((expand C).length : Nat)) ∧ Below W.heap.size W w') := fun W hb => by rw [hle]; exact all_any B p b C W (h.later hb)
  have HC : Hid (∀ W, Below w.heap.size w W → Calls Try.prog 15 #[.pointer (some ⟨p, 0, none⟩)] W (CountsEnd C W)) := fun W hb => counts_of hS hN B p b C W (h.later hb)
  have HQ1 : Hid (∀ W t, Below w.heap.size w W → (Lit.int .i64 t).wf = true → Calls Try.prog 13 #[.pointer (some ⟨p, 0, none⟩), .int .i64 t] W fun x w' => x = .returned (.int .i64 (ofC C t)) ∧ w' = W) := fun W t hb ht => (of_any B p b C t W (h.later hb) ht).mono (fun _ _ h => ⟨h.1, h.2.symm⟩)
  have hl64 : (expand C).length ≤ 64 := by omega
  have HQ2 : Hid (∀ W t, Below w.heap.size w W → Calls Try.prog 24 #[.pointer (some ⟨q, 0, none⟩), .int .i64 t] W fun x w' => x = .returned (.int .i64 (ofC C t)) ∧ w' = W) := fun W t hb => (rof_any B2 q _ (expand C) t W (hr.later hb) (by omega)).mono (fun _ _ h => ⟨by rw [h.1, HF.out], h.2.symm⟩)
  have HSA : Hid ((expand C).length = (sumK C C.length).toNat) := by show _ = _; rw [sumK_all]; omega
  generalize expand C = L at *
  clear h hr hs hle hS hN HF
  have hnn : (((L.length : Nat) : Int) != ((L.length : Nat) : Int)) = false := by simp
  go_enter Try.func23, Try.ntmps23
  go_upto_region 1 with fail
  go_cut [16] (fun s16 wx => s16 = .bool false ∧ Below w.heap.size w wx)
  case first =>
    have KK : Hid (∀ W, Below w.heap.size w W → W.cell? ⟨q, 0, none⟩ = some (.slice A L.length c)) := fun W hb => by
      have := (HR.out.later hb).blk.cell 0
      simpa using this
    have k0 := KK.out _ (below_drewN (Below.refl _ _) 1)
    have k1 := KK.out _ (Below.refl _ _)
    go_region_with (go_at_call 14; refine (HA.out _ (by first | exact Below.refl _ _ | exact Below.drew (Below.refl _ _) | exact below_drewN (Below.refl _ _) _)).mono ?_; rintro x w1 ⟨rfl, hb⟩; have hb1 : Below w.heap.size w w1 := (by first | exact hb | exact Below.trans (Below.drew (Below.refl _ _)) hb); have k2 := KK.out _ hb1; have HB1 := Lib.hid hb1; clear hb hb1)
    all_goals (
      go_wp2_with fail
      go_meet
      exact ⟨rfl, HB1.out⟩)
  case rest =>
    obtain ⟨rfl, hb⟩ := hcut
    obtain ⟨w1, rfl⟩ : ∃ w1 : World, w1 = wc := ⟨_, rfl⟩
    have HB1 := Lib.hid hb
    clear hb HA
    go_wp2_with fail
    refine (HC.out _ HB1.out).mono ?_
    rintro x w2 ⟨Ac, cc, rfl, hsl, hb⟩
    have HSL := Lib.hid hsl
    have HB2 := Lib.hid (stepB HB1.out hb)
    clear hsl hb HB1 HC
    go_wp2
    go_loopw [6, 7] (fun n i wr => ∃ k : Nat, k ≤ C.length ∧ i = .int .i64 k ∧ n = .int .i64 ((sumK C k).toNat : Nat) ∧ Below w2.heap.size w2 wr) (fun _ i _ => C.length - (intOf i).toNat)
    case atStart => exact ⟨0, Nat.zero_le _, rfl, rfl, Below.refl _ _⟩
    case round =>
      obtain ⟨k, hk, rfl, rfl, hb⟩ := hrel
      have HB := Lib.hid hb
      clear hb
      by_cases hlt : k < C.length
      · obtain ⟨g, rfl, _, _, hcell⟩ := HSL.out (by omega)
        have d2 : decide ((k : Int) < (C.length : Int)) = true := decide_eq_true (by omega)
        have hrg := ct_rng HOK.out hlt
        have hsn := (sumK_le HOK.out.pos k (by omega)).1
        have hsK : sumK C (k + 1) = sumK C k + (C.getD k c0).2 := rfl
        have hs2 := (sumK_le HOK.out.pos (k + 1) hlt).2
        have HXk : Hid (∀ j : Nat, (j : Int) < (C.getD k c0).2 → L.getD ((sumK C k).toNat + j) 0 = (C.getD k c0).1 ∧ (sumK C k).toNat + j < L.length) := fun j hj => HX.out k j hlt hj
        have HSK : Hid ((sumK C (k + 1)).toNat = (sumK C k).toNat + (C.getD k c0).2.toNat) := by show _ = _; omega
        have hkk : (sumK C k).toNat ≤ 64 := by omega
        have HCC : Hid (∀ W, Below w2.heap.size w2 W → W.cell? ⟨g, k * 2, none⟩ = some (.int .i64 (C.getD k c0).1) ∧ W.cell? ⟨g, k * 2 + 1, none⟩ = some (.int .i64 (C.getD k c0).2)) := fun W hb => by
          obtain ⟨g', e', _, _, hc'⟩ := (HSL.out.later hb) (by omega)
          cases e'
          exact ⟨(hc' k hlt).1, (hc' k hlt).2.1⟩
        have HPV : Hid (0 < k → (C.getD (k - 1) c0).1 < (C.getD k c0).1 ∧ ∀ W, Below w2.heap.size w2 W → W.cell? ⟨g, (k - 1) * 2, none⟩ = some (.int .i64 (C.getD (k - 1) c0).1)) := fun h0 => ⟨by
            have := up_at HOK.out (i := k - 1) (by omega)
            rw [show k - 1 + 1 = k from by omega] at this; exact this, fun W hb => by
          obtain ⟨g', e', _, _, hc'⟩ := (HSL.out.later hb) (by omega)
          cases e'
          exact (hc' (k - 1) (by omega)).1⟩
        have i1 := cindex g C.length cc k (k : Int) rfl hlt
        have wk : IntKind.i64.wrap ((k : Int) + 1) = (k : Int) + 1 := IntWalk.i64_in _ (by omega)
        clear hcell hsn hsK hs2
        generalize (sumK C k).toNat = s at *
        obtain ⟨⟨t, m⟩, hz⟩ : ∃ z, C.getD k c0 = z := ⟨_, rfl⟩
        rw [hz] at hrg HXk HSK HCC HPV
        simp only at hrg
        clear hz
        go_wp2_with fail
        go_loopw [6, 8] (fun n j wr => ∃ y : Nat, (y : Int) ≤ m ∧ j = .int .i64 y ∧ n = .int .i64 ((s + y : Nat) : Int) ∧ Below w2.heap.size w2 wr) (fun _ j _ => m.toNat - (intOf j).toNat)
        case atStart => exact ⟨0, by omega, rfl, rfl, HB.out⟩
        case round =>
          obtain ⟨y, hy, rfl, rfl, hb⟩ := hrel
          have HB3 := Lib.hid hb
          clear hb HB
          obtain ⟨x0, x1⟩ := HCC.out _ HB3.out
          try simp only at x0 x1
          by_cases hym : (y : Int) < m
          · have d3 : decide ((y : Int) < m) = true := decide_eq_true hym
            obtain ⟨hget, hltl⟩ := HXk.out y hym
            have k0 := (HR.out.later (HB2.out.trans (HB3.out.mono HB2.out.size))).blk.cell 0
            simp only [List.getElem?_toArray, List.getElem?_cons_zero] at k0
            obtain ⟨g2, off2, rfl, y0, i2⟩ := rindex A L c (s + y) _ (HL.out.later (HB2.out.trans (HB3.out.mono HB2.out.size))) hltl
            rw [hget] at y0
            have d4 : decide ((L.length : Int) ≤ ((s + y : Nat) : Int)) = false := decide_eq_false (by omega)
            have wn : IntKind.i64.wrap (((s + y : Nat) : Int) + 1) = ((s + (y + 1) : Nat) : Int) := (IntWalk.i64_in _ (by omega)).trans (by omega)
            have wy : IntKind.i64.wrap ((y : Int) + 1) = (y : Int) + 1 := IntWalk.i64_in _ (by omega)
            have dn : (t != t) = false := by simp
            generalize hsy : s + y = sy at *
            have HSY := Lib.hid hsy
            clear hget hsy
            go_wp2
            go_quiet (fail)
            clear x0 x1 y0 i2 k0
            go_wp2
            go_roundw
            case rel => exact ⟨y + 1, by omega, by go_num, rfl, below_drewN HB3.out nq⟩
            case measure => simp [intOf]; omega
          · obtain rfl : (y : Int) = m := by omega
            have d3 : decide ((y : Int) < (y : Int)) = false := decide_eq_false (by omega)
            have HSK2 : Hid ((sumK C (k + 1)).toNat = s + y) := by show _ = _; rw [HSK.out]; simp
            have d5 : decide ((y : Int) < 1) = false := decide_eq_false (by omega)
            have hbb : Below w.heap.size w wr := HB2.out.trans (HB3.out.mono HB2.out.size)
            have HBB := Lib.hid hbb
            have HW : Hid ((Lit.int .i64 t).wf = true) := wf64 (by omega)
            have dn : (ofC C t != ofC C t) = false := by simp
            have HQA : Hid (∀ n, Calls Try.prog 13 #[.pointer (some ⟨p, 0, none⟩), .int .i64 t] (wr.drewN n) fun x w' => x = .returned (.int .i64 (ofC C t)) ∧ w' = wr.drewN n) := fun n => HQ1.out _ t (below_drewN hbb n) HW.out
            have HQB : Hid (∀ n, Calls Try.prog 24 #[.pointer (some ⟨q, 0, none⟩), .int .i64 t] (wr.drewN n) fun x w' => x = .returned (.int .i64 (ofC C t)) ∧ w' = wr.drewN n) := fun n => HQ2.out _ t (below_drewN hbb n)
            generalize ofC C t = oc at *
            clear hbb hrg
            by_cases hk0 : 0 < k
            · have d6 : decide ((0 : Int) < (k : Int)) = true := decide_eq_true (by omega)
              obtain ⟨hup, hpc⟩ := HPV.out hk0
              have z0 := hpc _ HB3.out
              try simp only at hup z0
              have i3 := cindex g C.length cc (k - 1) ((k : Int) - 1) (by omega) (by omega)
              have wk1 : IntKind.i64.wrap ((k : Int) - 1) = (k : Int) - 1 := IntWalk.i64_in _ (by omega)
              have d7 : decide (t ≤ (C.getD (k - 1) c0).1) = false := decide_eq_false (by omega)
              generalize (C.getD (k - 1) c0).1 = tp at *
              clear hup hpc
              go_wp2
              go_quiet (first | (go_at_call 13; exact Calls.quiet_of_same (HQA.out _)) | (go_at_call 24; exact Calls.quiet_of_same (HQB.out _)))
              clear x0 x1 z0 i3 HQA HQB
              go_wp2
              go_roundw
              case rel => exact ⟨k + 1, by omega, by go_num, by rw [HSK2.out]; first | rfl | simp, below_drewN HB3.out nq⟩
              case measure => simp [intOf]; omega
            · have d6 : decide ((0 : Int) < (k : Int)) = false := decide_eq_false (by omega)
              go_wp2
              go_quiet (first | (go_at_call 13; exact Calls.quiet_of_same (HQA.out _)) | (go_at_call 24; exact Calls.quiet_of_same (HQB.out _)))
              clear x0 x1 HQA HQB
              go_wp2
              go_roundw
              case rel => exact ⟨k + 1, by omega, by go_num, by rw [HSK2.out]; first | rfl | simp, below_drewN HB3.out nq⟩
              case measure => simp [intOf]; omega
      · obtain rfl : k = C.length := by omega
        have d2 : decide ((C.length : Int) < (C.length : Int)) = false := decide_eq_false (by omega)
        have k0 := (HR.out.later (HB2.out.trans (HB.out.mono HB2.out.size))).blk.cell 0
        simp only [List.getElem?_toArray, List.getElem?_cons_zero] at k0
        have dn : (((L.length : Nat) : Int) == ((L.length : Nat) : Int)) = true := by simp
        rw [← HSA.out]
        go_wp2
        go_ret
        exact ⟨rfl, HB2.out.trans (HB.out.mono HB2.out.size)⟩
end Go.Proofs.Ytlnfdcaljmfbjaa
