/- Used, Pages, Slot. -/
import Derived.Test.YtbnbhhmgfogjeaaGH
namespace Go.Proofs.Ytbnbhhmgfogjeaa
open Go.ChangeShapes Go.WideShapes Go.ChangeAt Go.RowKit Go.Maps
set_option linter.unusedVariables false
set_option linter.unusedSimpArgs false

def sumP (L : List PS) (k : Nat) : Nat := ((L.take k).map (fun P => P.2.1.length)).sum
theorem sumP_succ {L : List PS} {k : Nat} (h : k < L.length) : sumP L (k + 1) = sumP L k + (L[k]).2.1.length := by
  unfold sumP
  rw [List.take_add_one, List.getElem?_eq_getElem h, List.map_append, List.sum_append]
  simp
theorem sumP_le {L : List PS} (h : ∀ P ∈ L, P.2.1.length ≤ 4096) (k : Nat) (hk : k ≤ L.length) : sumP L k ≤ 4096 * k := by
  induction k with
  | zero => simp [sumP]
  | succ k ih =>
    rw [sumP_succ (by omega)]
    have := ih (by omega)
    have := h _ (List.getElem_mem (show k < L.length by omega))
    omega
set_option maxRecDepth 100000 in
set_option maxHeartbeats 4000000 in
theorem arused_any (B a s : Nat) (st : AS) (S : Nat → Prop) (w : World) (h : AR w B a s st S) : Calls Try.prog 16 #[.pointer (some ⟨a, 0, none⟩)] w fun e w' => e = .returned (.int .i64 (usA st : Nat)) ∧ w = w' := by
  obtain ⟨g, v, Ps, ha, hm, _, _, hln⟩ := h
  have hl : st.2.1.length = Ps.length := by rw [← hm, List.length_map]
  have HU : Hid (usA st = sumP st.2.1 Ps.length) := by
    show _ = _
    unfold usA sumP
    rw [← hl, List.take_length]
  rw [HU.out]
  have HM := Lib.hid hm
  have H := Lib.hid ha
  have HL : Hid (st.2.1.length = Ps.length) := hl
  obtain ⟨AV, cV, hv, _⟩ := Ow.sl ha.row
  subst hv
  have c1 := ha.c.2.1
  have hn : Ps.length ≤ 4096 := by omega
  have HB : Hid (∀ P ∈ st.2.1, P.2.1.length ≤ 4096) := fun P hP => by
    rw [← hm] at hP
    obtain ⟨x, hx, rfl⟩ := List.mem_map.1 hP
    exact (Pg.at_ (ha.pgs x hx)).ok.len
  clear ha hm hl hln HU
  generalize st.2.1 = L at *
  go_enter Try.func16, Try.ntmps16
  go_wp2
  go_loop [3, 13] (fun m i => ∃ k : Nat, k ≤ Ps.length ∧ i = .int .i64 k ∧ m = .int .i64 (sumP L k : Nat)) (fun _ i => Ps.length - (intOf i).toNat)
  case atStart => exact ⟨0, Nat.zero_le _, rfl, rfl⟩
  case round =>
    obtain ⟨k, hk, rfl, rfl⟩ := hrel
    by_cases hlt : k < Ps.length
    · have d1 : decide ((k : Int) < (Ps.length : Int)) = true := decide_eq_true (by omega)
      have wk : IntKind.i64.wrap ((k : Int) + 1) = (k : Int) + 1 := IntWalk.i64_in _ (by omega)
      obtain ⟨gr, c, hv, hgr, hc⟩ := H.out.at_ hlt
      cases hv
      have i5 := idx68 gr Ps.length cV k (k : Int) rfl hlt
      have HU := Lib.hid (used_any B (Ps[k]).1 (Ps[k]).2.1 _ _ _ (Ps[k]).2.2.2.1 (Ps[k]).2.2.2.2.1 w (Pg.at_ (H.out.pgs _ (List.getElem_mem hlt))))
      have HS := Lib.hid (sumP_succ (L := L) (k := k) (by rw [HL.out]; exact hlt))
      have HE : Hid ((L[k]'(by rw [HL.out]; exact hlt)) = (Ps[k]).2.2) := by
        have h6 : L = Ps.map (fun x => x.2.2) := HM.out.symm
        subst h6
        show _ = _
        simp
      have hb := sumP_le HB.out k (by rw [HL.out]; exact hk)
      have hb2 := HB.out _ (List.getElem_mem (show k < L.length by rw [HL.out]; exact hlt))
      rw [HE.out] at hb2 HS
      obtain ⟨pp, hpp⟩ : ∃ pp, (Ps[k]).1 = pp := ⟨_, rfl⟩
      rw [hpp] at HU hc
      obtain ⟨m2, hm2⟩ : ∃ m2, (Ps[k]).2.2.2.1.length = m2 := ⟨_, rfl⟩
      rw [hm2] at HU HS hb2
      obtain ⟨m1, hm1⟩ : ∃ m1, sumP L k = m1 := ⟨_, rfl⟩
      rw [hm1] at HS hb
      rw [hm1]
      have wm : IntKind.i64.wrap ((m1 : Int) + (m2 : Int)) = (m1 : Int) + (m2 : Int) := IntWalk.i64_in _ (by omega)
      clear hpp hm1 hm2 HE hgr c1
      go_wp2_with fail
      refine HU.out.mono ?_
      rintro e w2 ⟨rfl, rfl⟩
      clear HU hc i5
      go_wp2
      go_round
      case rel => exact ⟨k + 1, by omega, by go_num, by rw [HS.out]; go_num⟩
      case measure => simp [intOf]; omega
    · obtain rfl : k = Ps.length := by omega
      have d1 : decide ((Ps.length : Int) < (Ps.length : Int)) = false := decide_eq_false (by omega)
      go_wp2
      go_ret
      exact ⟨rfl, rfl⟩
set_option maxRecDepth 100000 in
set_option maxHeartbeats 4000000 in
theorem arpages_any (B a s : Nat) (st : AS) (S : Nat → Prop) (w : World) (h : AR w B a s st S) : Calls Try.prog 17 #[.pointer (some ⟨a, 0, none⟩)] w fun e w' => e = .returned (.int .i64 (st.2.1.length : Nat)) ∧ w = w' := by
  obtain ⟨g, v, Ps, ha, hm, _, _, hln⟩ := h
  have hl : st.2.1.length = Ps.length := by rw [← hm, List.length_map]
  rw [hl]
  obtain ⟨AV, cV, hv, _⟩ := Ow.sl ha.row
  subst hv
  have c1 := ha.c.2.1
  clear ha hm hl hln
  go_enter Try.func17, Try.ntmps17
  go_wp2
  go_ret
  exact ⟨rfl, rfl⟩
set_option maxRecDepth 100000 in
set_option maxHeartbeats 4000000 in
theorem arslot_any (B a s : Nat) (st : AS) (S : Nat → Prop) (w : World) (h : AR w B a s st S) : Calls Try.prog 18 #[.pointer (some ⟨a, 0, none⟩)] w fun e w' => e = .returned (.int .i64 (s : Int)) ∧ w = w' := by
  obtain ⟨g, v, Ps, ha, hm, _, _, hln⟩ := h
  have c0 := ha.c.1
  clear ha hm hln
  go_enter Try.func18, Try.ntmps18
  go_wp2
  go_ret
  exact ⟨rfl, rfl⟩
end Go.Proofs.Ytbnbhhmgfogjeaa
