/- The document's Is, Read, Used, Free, Write; the row of what was given behind an Alloc. -/
import Derived.Test.YtbnbhhmgfogjeaaPD
namespace Go.Proofs.Ytbnbhhmgfogjeaa
open Go.ChangeShapes Go.WideShapes Go.ChangeAt Go.RowKit Go.Maps
set_option linter.unusedVariables false
set_option linter.unusedSimpArgs false

theorem rparts_is {x : Int} (w : World) (h0 : 0 ≤ x) (h1 : x ≤ 18446744073709551615) : Calls Try.prog 47 #[.int .u64 x] w fun e w' => e = .returned (.tuple #[.int .u16 (hP x : Int), .int .u16 (hO x), .int .u32 (hG x)]) ∧ w = w' := by
  have h := rparts_x x w h0 h1
  rw [← (h_parts h0 h1).1] at h
  exact h
theorem idx53u (g m c k : Nat) (i : Int) (hi : i = (k : Int)) (h : k < m) (W : World) : (Instr.indexAt 53 (.slice (some ⟨g, 0, none⟩) m c) (.int .u16 i)).run Try.prog W = .ok (.pointer (some ⟨g, k, none⟩)) W := by
  subst hi
  have h1 : (0 : Int) ≤ (k : Int) ∧ (k : Int) < (m : Int) := by omega
  go_simp
theorem idx53 (g m c k : Nat) (i : Int) (hi : i = (k : Int)) (h : k < m) (W : World) : (Instr.indexAt 53 (.slice (some ⟨g, 0, none⟩) m c) (.int .i64 i)).run Try.prog W = .ok (.pointer (some ⟨g, k, none⟩)) W := by
  subst hi
  have h1 : (0 : Int) ≤ (k : Int) ∧ (k : Int) < (m : Int) := by omega
  go_simp
theorem Da.at_ {W : World} {B q s : Nat} {vP vG : Value} {Ds : List De} {L : List gn.Ct} (h : Da W B q s vP vG Ds L) {i : Nat} (hi : i < Ds.length) : ∃ g c, vP = .slice (some ⟨g, 0, none⟩) Ds.length c ∧ W.cell? ⟨g, i, none⟩ = some (.pointer (some ⟨(Ds[i]).q, 0, none⟩)) := by
  obtain ⟨g, c, e, _, hc, _⟩ := ow_at h.row (k := i) (x := (Ds[i]).q) (by rw [List.getElem?_map, List.getElem?_eq_getElem hi]; rfl)
  exact ⟨g, c, e, hc⟩
theorem De.page {s : Nat} {st : AS} {Ds : List De} (hm : Ds.map (fun d => d.P) = st.2.1) {i : Nat} (hi : i < Ds.length) : st.2.1.getD i newP = (Ds[i]).P := by
  rw [← hm, List.getD_eq_getElem?_getD, List.getElem?_map, List.getElem?_eq_getElem hi]; rfl
set_option maxRecDepth 100000 in
set_option maxHeartbeats 4000000 in
theorem dais_any (K B q s : Nat) (st : AS) (S : Nat → Prop) (w : World) (h : DA K w B q s st S) (hu : Pu s st) (x : Int) (h0 : 0 ≤ x) (h1 : x ≤ 18446744073709551615) : Calls Try.prog 27 #[.pointer (some ⟨q, 0, none⟩), .int .u64 x] w fun e w' => e = .returned (.bool (isA st x)) ∧ w = w' := by
  obtain ⟨vP, vG, Ds, L, ha, hm, hg, hrg, hll, _⟩ := h
  have hl : st.2.1.length = Ds.length := by rw [← hm, List.length_map]
  have hq := h_parts h0 h1
  have hz := h_z h0 h1
  obtain ⟨AV, cV, hv, _⟩ := Ow.sl ha.row
  subst hv
  have c1 := ha.blk.cell 1
  simp only [List.getElem?_toArray, List.getElem?_cons_zero, List.getElem?_cons_succ] at c1
  have HPT := Lib.hid (rparts_is w h0 h1)
  have wp : IntKind.i64.wrap (hP x : Int) = (hP x : Int) := IntWalk.i64_in _ (by have := hq.2.2.2.2.2.2.2.2; omega)
  by_cases hlt : hP x < Ds.length
  · have d1 : decide ((hP x : Int) < (Ds.length : Int)) = true := decide_eq_true (by omega)
    have d1' : decide (hP x < Ds.length) = true := decide_eq_true hlt
    obtain ⟨gr, c, hv, hc⟩ := ha.at_ hlt
    cases hv
    have i5 := idx53u gr Ds.length cV (hP x) (hP x : Int) rfl hlt
    have hpg := De.page (s := s) hm hlt
    have hk := ha.pgs _ (List.getElem_mem hlt)
    have hinv : InvS s (Ds[hP x]).P := by
      rw [← hpg]; exact (hu.1 _ (getD_mem (by rw [hl]; exact hlt))).inv
    have HIS := Lib.hid (dis_any B (Ds[hP x]).q s (Ds[hP x]).P _ _ _ _ _ _ (hO x) w hk.1 hk.2 hinv hq.2.1 hq.2.2.1)
    have HGE := Lib.hid (dgen_any B q s _ vG L w ha.blk ha.giv hrg (Nat.le_trans hll.1 hll.2) (hP x : Int) (hO x) (by omega) (by have := hq.2.2.2.2.2.2.2.2; omega) hq.2.1 hq.2.2.1)
    rw [← hz, hg _ hq.2.2.2.1] at HGE
    have HV : Hid (isA st x = (isC (Ds[hP x]).P.2.1 (hO x) && decide (gn.ofC st.2.2 (hZ x) = hG x))) := by
      show _ = _
      unfold isA
      rw [hpg, decide_eq_true (by rw [hl]; exact hlt), Bool.true_and]
    obtain ⟨b, hb⟩ : ∃ b, isC (Ds[hP x]).P.2.1 (hO x) = b := ⟨_, rfl⟩
    rw [hb] at HIS HV
    obtain ⟨qq, hqq⟩ : ∃ qq, (Ds[hP x]).q = qq := ⟨_, rfl⟩
    rw [hqq] at HIS hc
    obtain ⟨gx, hgx⟩ : ∃ gx, gn.ofC st.2.2 (hZ x) = gx := ⟨_, rfl⟩
    rw [hgx] at HGE HV
    clear hq ha hm hg hrg hll hpg hk hinv hb hqq hgx hl hz
    cases b with
    | false =>
      go_enter Try.func27, Try.ntmps27
      go_wp2_with fail
      refine HPT.out.mono ?_
      rintro e w1 ⟨rfl, rfl⟩
      go_wp2_with fail
      refine HIS.out.mono ?_
      rintro e w1 ⟨rfl, rfl⟩
      go_wp2
      go_ret
      exact ⟨by rw [HV.out]; rfl, rfl⟩
    | true =>
      go_enter Try.func27, Try.ntmps27
      go_wp2_with fail
      refine HPT.out.mono ?_
      rintro e w1 ⟨rfl, rfl⟩
      go_wp2_with fail
      refine HIS.out.mono ?_
      rintro e w1 ⟨rfl, rfl⟩
      go_wp2_with fail
      refine HGE.out.mono ?_
      rintro e w1 ⟨rfl, rfl⟩
      go_wp2
      go_ret
      refine ⟨?_, rfl⟩
      rw [HV.out, Bool.true_and]
      first | rfl | (by_cases e : gx = hG x <;> simp [e])
  · have d1 : decide ((hP x : Int) < (Ds.length : Int)) = false := decide_eq_false (by omega)
    have d1' : decide (hP x < Ds.length) = false := decide_eq_false hlt
    have HV : Hid (isA st x = false) := by
      show _ = _
      unfold isA
      rw [decide_eq_false (by rw [hl]; exact hlt)]; rfl
    clear hq ha hm hg hrg hll hl hz
    go_enter Try.func27, Try.ntmps27
    go_wp2_with fail
    refine HPT.out.mono ?_
    rintro e w1 ⟨rfl, rfl⟩
    go_wp2
    go_ret
    exact ⟨by rw [HV.out]; rfl, rfl⟩
set_option maxRecDepth 100000 in
set_option maxHeartbeats 4000000 in
theorem daread_any (K B q s : Nat) (st : AS) (S : Nat → Prop) (w : World) (h : DA K w B q s st S) (hu : Pu s st) (x : Int) (h0 : 0 ≤ x) (h1 : x ≤ 18446744073709551615) : Calls Try.prog 31 #[.pointer (some ⟨q, 0, none⟩), .int .u64 x] w fun e w' => e = .returned (.tuple #[.string (rdA s x st), .int .i64 (rdAE x st)]) ∧ w = w' := by
  have HIS := Lib.hid (dais_any K B q s st S w h hu x h0 h1)
  obtain ⟨vP, vG, Ds, L, ha, hm, hg, hrg, hll, _⟩ := h
  have hl : st.2.1.length = Ds.length := by rw [← hm, List.length_map]
  have hq := h_parts h0 h1
  have hz := h_z h0 h1
  obtain ⟨AV, cV, hv, _⟩ := Ow.sl ha.row
  subst hv
  have c1 := ha.blk.cell 1
  simp only [List.getElem?_toArray, List.getElem?_cons_zero, List.getElem?_cons_succ] at c1
  have HPT := Lib.hid (rparts_is w h0 h1)
  unfold rdA rdAE
  cases hi : isA st x with
  | false =>
    rw [hi] at HIS
    clear hq ha hm hg hrg hll hl hz
    go_enter Try.func31, Try.ntmps31
    go_wp2_with fail
    refine HIS.out.mono ?_
    rintro e w1 ⟨rfl, rfl⟩
    go_wp2
    go_ret2
    exact ⟨rfl, rfl⟩
  | true =>
    rw [hi] at HIS
    have hip := is_parts hi
    have hlt : hP x < Ds.length := by rw [← hl]; exact hip.1
    obtain ⟨gr, c, hv, hc⟩ := ha.at_ hlt
    cases hv
    have i5 := idx53u gr Ds.length cV (hP x) (hP x : Int) rfl hlt
    have hpg := De.page (s := s) hm hlt
    have hk := ha.pgs _ (List.getElem_mem hlt)
    have hinv : InvS s (Ds[hP x]).P := by
      rw [← hpg]; exact (hu.1 _ (getD_mem (by rw [hl]; exact hlt))).inv
    have HRD := Lib.hid (dread_any B (Ds[hP x]).q s (Ds[hP x]).P _ _ _ _ _ _ (hO x) w hk.1 hk.2 hinv hq.2.1 hq.2.2.1)
    have he : rdE (hO x) (Ds[hP x]).P = 0 := by
      unfold rdE; rw [← hpg, if_pos hip.2.1]
    rw [he] at HRD
    rw [if_pos rfl, if_pos rfl, hpg]
    obtain ⟨tt, htt⟩ : ∃ tt, rdT s (hO x) (Ds[hP x]).P = tt := ⟨_, rfl⟩
    rw [htt] at HRD
    rw [htt]
    obtain ⟨qq, hqq⟩ : ∃ qq, (Ds[hP x]).q = qq := ⟨_, rfl⟩
    rw [hqq] at HRD hc
    clear hq ha hm hg hrg hll hpg hk hinv hqq hl hz htt he hip
    go_enter Try.func31, Try.ntmps31
    go_wp2_with fail
    refine HIS.out.mono ?_
    rintro e w1 ⟨rfl, rfl⟩
    go_wp2_with fail
    refine HPT.out.mono ?_
    rintro e w1 ⟨rfl, rfl⟩
    go_wp2_with fail
    refine HRD.out.mono ?_
    rintro e w1 ⟨rfl, rfl⟩
    go_wp2
    go_ret2
    exact ⟨rfl, rfl⟩

set_option maxRecDepth 100000 in
set_option maxHeartbeats 4000000 in
theorem daused_any (K B q s : Nat) (st : AS) (S : Nat → Prop) (w : World) (h : DA K w B q s st S) (hu : Pu s st) : Calls Try.prog 32 #[.pointer (some ⟨q, 0, none⟩)] w fun e w' => e = .returned (.int .i64 (usA st : Nat)) ∧ w = w' := by
  obtain ⟨vP, vG, Ds, L, ha, hm, _, _, _, _⟩ := h
  have hl : st.2.1.length = Ds.length := by rw [← hm, List.length_map]
  have HU : Hid (usA st = sumP st.2.1 Ds.length) := by
    show _ = _
    unfold usA sumP
    rw [← hl, List.take_length]
  rw [HU.out]
  have HM := Lib.hid hm
  have H := Lib.hid ha
  have HL : Hid (st.2.1.length = Ds.length) := hl
  have HPU := Lib.hid hu.1
  obtain ⟨AV, cV, hv, _⟩ := Ow.sl ha.row
  subst hv
  have c1 := ha.blk.cell 1
  simp only [List.getElem?_toArray, List.getElem?_cons_zero, List.getElem?_cons_succ] at c1
  have hn : Ds.length ≤ 4096 := by have := hu.2.2.2; omega
  have HB : Hid (∀ P ∈ st.2.1, P.2.1.length ≤ 4096) := fun P hP => Nat.le_trans (hu.1 P hP).cap (Nat.div_le_self _ _)
  clear ha hm hl HU hu
  go_enter Try.func32, Try.ntmps32
  go_wp2
  go_loop [3, 4] (fun m i => ∃ k : Nat, k ≤ Ds.length ∧ i = .int .i64 k ∧ m = .int .i64 (sumP st.2.1 k : Nat)) (fun _ i => Ds.length - (intOf i).toNat)
  case atStart => exact ⟨0, Nat.zero_le _, rfl, rfl⟩
  case round =>
    obtain ⟨k, hk, rfl, rfl⟩ := hrel
    by_cases hlt : k < Ds.length
    · have d1 : decide ((k : Int) < (Ds.length : Int)) = true := decide_eq_true (by omega)
      have wk : IntKind.i64.wrap ((k : Int) + 1) = (k : Int) + 1 := IntWalk.i64_in _ (by omega)
      obtain ⟨gr, c, hv, hc⟩ := H.out.at_ hlt
      cases hv
      have i5 := idx53 gr Ds.length cV k (k : Int) rfl hlt
      have hpg := De.page (s := s) HM.out hlt
      have hkk := H.out.pgs _ (List.getElem_mem hlt)
      have hinv : InvS s (Ds[k]).P := by
        rw [← hpg]; exact (HPU.out _ (getD_mem (by rw [HL.out]; exact hlt))).inv
      have HU := Lib.hid (dused_any B (Ds[k]).q s (Ds[k]).P _ _ _ _ _ _ w hkk.1 hkk.2 hinv)
      have HS := Lib.hid (sumP_succ (L := st.2.1) (k := k) (by rw [HL.out]; exact hlt))
      have HE : Hid ((st.2.1[k]'(by rw [HL.out]; exact hlt)) = (Ds[k]).P) := by
        show _ = _
        rw [← hpg, List.getD_eq_getElem?_getD, List.getElem?_eq_getElem (by rw [HL.out]; exact hlt)]; rfl
      have hb := sumP_le HB.out k (by rw [HL.out]; exact hk)
      have hb2 := HB.out _ (List.getElem_mem (show k < st.2.1.length by rw [HL.out]; exact hlt))
      rw [HE.out] at hb2 HS
      obtain ⟨qq, hqq⟩ : ∃ qq, (Ds[k]).q = qq := ⟨_, rfl⟩
      rw [hqq] at HU hc
      obtain ⟨m2, hm2⟩ : ∃ m2, (Ds[k]).P.2.1.length = m2 := ⟨_, rfl⟩
      rw [hm2] at HU HS hb2
      obtain ⟨m1, hm1⟩ : ∃ m1, sumP st.2.1 k = m1 := ⟨_, rfl⟩
      rw [hm1] at HS hb
      rw [hm1]
      have wm : IntKind.i64.wrap ((m1 : Int) + (m2 : Int)) = (m1 : Int) + (m2 : Int) := IntWalk.i64_in _ (by omega)
      clear hqq hm1 hm2 HE hpg hkk hinv
      go_wp2_with fail
      refine HU.out.mono ?_
      rintro e w2 ⟨rfl, rfl⟩
      clear HU hc i5
      go_wp2
      go_round
      case rel => exact ⟨k + 1, by omega, by go_num, by rw [HS.out]; go_num⟩
      case measure => simp [intOf]; omega
    · obtain rfl : k = Ds.length := by omega
      have d1 : decide ((Ds.length : Int) < (Ds.length : Int)) = false := decide_eq_false (by omega)
      go_wp2
      go_ret
      exact ⟨rfl, rfl⟩

theorem Dx.other {W : World} {B q s : Nat} {Bs : List ByteArray} {Us : List Bool} {Bk : List Nat} {vB vU vK : Value} (h : Dx W B q s Bs Us Bk vB vU vK) {k t : Nat} {c : Array Value} (hk : W.heap[k]? = some (.cells c t (0, 0))) (ht : t ≠ 107 ∧ t ≠ 9 ∧ t ≠ 4) : k ≠ q ∧ vB.ownBlock ≠ some k ∧ vU.ownBlock ≠ some k := by
  refine ⟨fun e => ?_, fun e => ?_, fun e => ?_⟩
  · have hb : W.heap[q]? = some (.cells #[.int .i64 (s : Int), vB, vU, vK] 107 (0, 0)) := h.blk
    rw [← e, hk] at hb; cases hb; exact ht.1 rfl
  · obtain ⟨cur, hc⟩ := Ow.tag h.oB k e; rw [hk] at hc; cases hc; exact ht.2.1 rfl
  · obtain ⟨cur, hc⟩ := Ow.tag h.oU k e; rw [hk] at hc; cases hc; exact ht.2.2 rfl
def De.own3 (d : De) (k : Nat) : Prop := k = d.q ∨ d.vB.ownBlock = some k ∨ d.vU.ownBlock = some k
section
variable {W W' : World} {B q s : Nat} {vP vG : Value} {Ds : List De} {L : List gn.Ct}
theorem Da.apart (h : Da W B q s vP vG Ds L) {i j : Nat} (hi : i < Ds.length) (hj : j < Ds.length) (hne : i ≠ j) : ∀ k, (Ds[i]).own3 k → ¬ (Ds[j]).own3 k := fun k a b => by
  rcases Nat.lt_or_gt_of_ne hne with e | e
  · exact List.pairwise_iff_getElem.1 h.ap i j hi hj e k a b
  · exact List.pairwise_iff_getElem.1 h.ap j i hj hi e k b a
theorem Da.lt3 (h : Da W B q s vP vG Ds L) {i : Nat} (hi : i < Ds.length) : ∀ k, (Ds[i]).own3 k → k < W.heap.size := fun k hk => by
  have hl := (h.pgs _ (List.getElem_mem hi)).1.lt
  rcases hk with rfl | e | e
  · exact hl.1
  · exact (hl.2.1 k e).2
  · exact (hl.2.2.1 k e).2
theorem Da.turn (h : Da W B q s vP vG Ds L) {i : Nat} (hi : i < Ds.length) {d' : De} (hq : d'.q = (Ds[i]).q) (hok : d'.ok W' B s) (hf : FrD W W' (Ds[i]).q (Ds[i]).vB (Ds[i]).vU) (nB : Nw W (Ds[i]).vB d'.vB) (nU : Nw W (Ds[i]).vU d'.vU) (nK : Nw W (Ds[i]).vK d'.vK) :
    Da W' B q s vP vG (Ds.set i d') L ∧ FrS W W' (DSet q vP vG Ds) ∧ ∀ k, DSet q vP vG (Ds.set i d') k → DSet q vP vG Ds k ∨ W.heap.size ≤ k := by
  have hd := (h.pgs _ (List.getElem_mem hi)).1
  have hblk : W.heap[q]? = some (.cells #[.int .i64 (s : Int), vP, vG] 56 (0, 0)) := h.blk
  have hmap : (Ds.set i d').map (fun d => d.q) = Ds.map (fun d => d.q) := by
    apply List.ext_getElem?
    intro j
    rw [List.getElem?_map, List.getElem?_map, List.getElem?_set]
    by_cases e : i = j
    · subst e; rw [if_pos rfl, if_pos hi, List.getElem?_eq_getElem hi]; simp [hq]
    · rw [if_neg e]
  have hnew : ∀ k, d'.own3 k → (Ds[i]).own3 k ∨ W.heap.size ≤ k := fun k hk => by
    rcases hk with rfl | e | e
    · exact .inl (.inl hq)
    · exact (nB k e).imp (fun e => .inr (.inl e)) id
    · exact (nU k e).imp (fun e => .inr (.inr e)) id
  have hget : ∀ (a : Nat) (ha : a < (Ds.set i d').length), (Ds.set i d')[a] = if i = a then d' else Ds[a]'(by rw [List.length_set] at ha; exact ha) := fun a ha => List.getElem_set ..
  refine ⟨⟨h.hq, ?_, ?_, ?_, fun d hm => ?_, ?_⟩, ⟨hf.os, hf.tape, hf.output, hf.size, fun k hk hn => ?_⟩, fun k hk => ?_⟩
  · obtain ⟨a, b, c⟩ := hd.other hblk (by decide)
    exact (hf.block q h.blk.lt a b c).trans hblk
  · rw [hmap, List.length_set]
    refine ow_keep h.row (fun k e => ?_)
    obtain ⟨cur, hc⟩ := Ow.tag h.row k e
    obtain ⟨a, b, c⟩ := hd.other hc (by decide)
    exact hf.block k (Ow.lt h.row k e).2 a b c
  · refine h.giv.keepS (fun k e => ?_)
    obtain ⟨cur, hc⟩ := h.giv.tag k e
    obtain ⟨a, b, c⟩ := hd.other hc (by decide)
    exact hf.block k (h.giv.lt k e).2 a b c
  · obtain ⟨j, hj, rfl⟩ := List.getElem_of_mem hm
    rw [hget j hj]
    by_cases e : i = j
    · rw [if_pos e]; exact hok
    · rw [if_neg e]
      have hj' : j < Ds.length := by rw [List.length_set] at hj; exact hj
      have hdj := h.pgs _ (List.getElem_mem hj')
      refine ⟨hdj.1.keepS hf.size (fun k hk => ?_), hdj.2⟩
      have hno : (Ds[j]).own3 k → W'.heap[k]? = W.heap[k]? := fun h3 => by
        have hn := h.apart hj' hi (Ne.symm e) k h3
        exact hf.block k (h.lt3 hj' k h3) (fun x => hn (.inl x)) (fun x => hn (.inr (.inl x))) (fun x => hn (.inr (.inr x)))
      rcases hk with x | x | x | x
      · exact hno (.inl x)
      · exact hno (.inr (.inl x))
      · exact hno (.inr (.inr x))
      · obtain ⟨_, cur, hc⟩ := hdj.1.oK.tg k x
        obtain ⟨a, b, c⟩ := hd.other hc (by decide)
        exact hf.block k (Array.getElem?_eq_some_iff.1 hc).1 a b c
  · refine List.pairwise_iff_getElem.2 (fun a b ha hb hab k x y => ?_)
    have ha' : a < Ds.length := by rw [List.length_set] at ha; exact ha
    have hb' : b < Ds.length := by rw [List.length_set] at hb; exact hb
    rw [hget a ha] at x
    rw [hget b hb] at y
    by_cases ea : i = a
    · rw [if_pos ea] at x
      rw [if_neg (by omega)] at y
      subst ea
      rcases hnew k x with z | z
      · exact h.apart hi hb' (by omega) k z y
      · have := h.lt3 hb' k y; omega
    · rw [if_neg ea] at x
      by_cases eb : i = b
      · rw [if_pos eb] at y
        subst eb
        rcases hnew k y with z | z
        · exact h.apart ha' hi (by omega) k x z
        · have := h.lt3 ha' k x; omega
      · rw [if_neg eb] at y
        exact h.apart ha' hb' (by omega) k x y
  · refine hf.block k hk (fun e => hn (.inr (.inr (.inr ⟨_, List.getElem_mem hi, .inl e⟩)))) (fun e => hn (.inr (.inr (.inr ⟨_, List.getElem_mem hi, .inr (.inl e)⟩)))) (fun e => hn (.inr (.inr (.inr ⟨_, List.getElem_mem hi, .inr (.inr (.inl e))⟩))))
  · rcases hk with e | e | e | ⟨d, hm, e⟩
    · exact .inl (.inl e)
    · exact .inl (.inr (.inl e))
    · exact .inl (.inr (.inr (.inl e)))
    · rcases List.mem_or_eq_of_mem_set hm with hm | rfl
      · exact .inl (.inr (.inr (.inr ⟨d, hm, e⟩)))
      · have hin := List.getElem_mem hi
        rcases e with e | e | e | e
        · exact .inl (.inr (.inr (.inr ⟨_, hin, .inl (e.trans hq)⟩)))
        · exact (nB k e).imp (fun e => .inr (.inr (.inr ⟨_, hin, .inr (.inl e)⟩))) id
        · exact (nU k e).imp (fun e => .inr (.inr (.inr ⟨_, hin, .inr (.inr (.inl e))⟩))) id
        · exact (nK k e).imp (fun e => .inr (.inr (.inr ⟨_, hin, .inr (.inr (.inr e))⟩))) id
end

/-- behind a call that turns it -/
def DAE (K B q s : Nat) (st' : AS) (S : Nat → Prop) (val : Value) (w : World) (e : Ending) (w' : World) : Prop :=
  e = .returned val ∧ ∃ S', DA K w' B q s st' S' ∧ (∀ k, S' k → S k ∨ w.heap.size ≤ k) ∧ FrS w w' S
set_option maxRecDepth 100000 in
set_option maxHeartbeats 4000000 in
theorem dafree_any (K B q s : Nat) (st : AS) (S : Nat → Prop) (w : World) (h : DA K w B q s st S) (hu : Pu s st) (hB : B ≤ w.heap.size) (x : Int) (h0 : 0 ≤ x) (h1 : x ≤ 18446744073709551615) (h4 : s ≤ 4096) : Calls Try.prog 29 #[.pointer (some ⟨q, 0, none⟩), .int .u64 x] w (DAE K B q s (frA x st) S (.int .i64 (frAE x st)) w) := by
  have HIS := Lib.hid (dais_any K B q s st S w h hu x h0 h1)
  have HD0 := Lib.hid h
  obtain ⟨vP, vG, Ds, L, ha, hm, hg, hrg, hll, hS⟩ := h
  have hl : st.2.1.length = Ds.length := by rw [← hm, List.length_map]
  have hq := h_parts h0 h1
  have hz := h_z h0 h1
  obtain ⟨AV, cV, hv, _⟩ := Ow.sl ha.row
  subst hv
  have c1 := ha.blk.cell 1
  simp only [List.getElem?_toArray, List.getElem?_cons_zero, List.getElem?_cons_succ] at c1
  have HPT := Lib.hid (rparts_is w h0 h1)
  cases hi : isA st x with
  | false =>
    rw [hi] at HIS
    have HE : Hid (frAE x st = 5 ∧ frA x st = st) := by
      show _ ∧ _
      unfold frAE frA
      rw [hi]; exact ⟨rfl, rfl⟩
    rw [HE.out.1, HE.out.2]
    clear hq ha hm hg hrg hll hl hz HE
    go_enter Try.func29, Try.ntmps29
    go_wp2_with fail
    refine HIS.out.mono ?_
    rintro e w1 ⟨rfl, rfl⟩
    go_wp2
    go_ret
    exact ⟨rfl, S, HD0.out, fun k hk => .inl hk, FrS.of_below (Below.refl _ _)⟩
  | true =>
    rw [hi] at HIS
    have hip := is_parts hi
    have hlt : hP x < Ds.length := by rw [← hl]; exact hip.1
    obtain ⟨gr, c, hv, hc⟩ := ha.at_ hlt
    cases hv
    have i5 := idx53u gr Ds.length cV (hP x) (hP x : Int) rfl hlt
    have hpg := De.page (s := s) hm hlt
    have hk := ha.pgs _ (List.getElem_mem hlt)
    have hpo := hu.1 _ (getD_mem (show hP x < st.2.1.length by rw [hl]; exact hlt))
    rw [hpg] at hpo
    have HRD := Lib.hid (dfree_any B (Ds[hP x]).q s (Ds[hP x]).P _ _ _ _ _ _ (hO x) w hk.1 hk.2 hpo.inv hpo.up hB hq.2.1 hq.2.2.1)
    have HER : Hid (frE (hO x) (Ds[hP x]).P = frAE x st) := by
      show _ = _
      unfold frE frAE
      rw [hi]
      rw [hpg] at hip
      rw [hip.2.1]
      try rfl
    rw [HER.out] at HRD
    have HNEW : Hid (∀ w', DEnd B (Ds[hP x]).q s (frS (hO x) (Ds[hP x]).P) (Ds[hP x]).vB (Ds[hP x]).vU (Ds[hP x]).vK w w' → ∃ S', DA K w' B q s (frA x st) S' ∧ (∀ k, S' k → S k ∨ w.heap.size ≤ k) ∧ FrS w w' S) := fun w' hD => by
      obtain ⟨Bs2, Us2, Bk2, vB2, vU2, vK2, hx2, hr2, hf, nB, nU, nK⟩ := hD
      obtain ⟨t1, t2, t3⟩ := ha.turn hlt (d' := ⟨(Ds[hP x]).q, Bs2, Us2, Bk2, vB2, vU2, vK2, frS (hO x) (Ds[hP x]).P⟩) rfl ⟨hx2, hr2⟩ hf nB nU nK
      refine ⟨_, ⟨_, _, _, L, t1, ?_, ?_, hrg, hll, rfl⟩, by rw [hS]; exact t3, by rw [hS]; exact t2⟩
      · rw [List.map_set, hm]
        unfold frA
        rw [hi, if_pos rfl, hpg]
      · intro z hz
        rw [hg z hz]
        unfold frA
        rw [hi, if_pos rfl]
    obtain ⟨ee, hee⟩ : ∃ ee, frAE x st = ee := ⟨_, rfl⟩
    rw [hee] at HRD
    rw [hee]
    generalize frA x st = stn at *
    generalize frS (hO x) (Ds[hP x]).P = psn at *
    obtain ⟨qq, hqq⟩ : ∃ qq, (Ds[hP x]).q = qq := ⟨_, rfl⟩
    rw [hqq] at HRD hc HNEW
    generalize (Ds[hP x]).vB = vB at *
    generalize (Ds[hP x]).vU = vU at *
    generalize (Ds[hP x]).vK = vK at *
    clear hq ha hm hg hrg hll hpg hk hqq hl hz hip hpo HER hee
    go_enter Try.func29, Try.ntmps29
    go_wp2_with fail
    refine HIS.out.mono ?_
    rintro e w1 ⟨rfl, rfl⟩
    go_wp2_with fail
    refine HPT.out.mono ?_
    rintro e w1 ⟨rfl, rfl⟩
    go_wp2_with fail
    refine HRD.out.mono ?_
    rintro e w1 ⟨rfl, hD⟩
    have HN := Lib.hid (HNEW.out _ hD)
    clear hD
    go_wp2
    go_ret
    exact ⟨rfl, HN.out⟩
set_option maxRecDepth 100000 in
set_option maxHeartbeats 4000000 in
theorem dawrite_any (K B q s : Nat) (st : AS) (S : Nat → Prop) (w : World) (h : DA K w B q s st S) (hu : Pu s st) (hB : B ≤ w.heap.size) (x : Int) (h0 : 0 ≤ x) (h1 : x ≤ 18446744073709551615) (h4 : s ≤ 4096) (T : ByteArray) : Calls Try.prog 30 #[.pointer (some ⟨q, 0, none⟩), .int .u64 x, .string T] w (DAE K B q s (wrA s x T st) S (.int .i64 (wrAE s x T st)) w) := by
  have HIS := Lib.hid (dais_any K B q s st S w h hu x h0 h1)
  have HD0 := Lib.hid h
  obtain ⟨vP, vG, Ds, L, ha, hm, hg, hrg, hll, hS⟩ := h
  have hl : st.2.1.length = Ds.length := by rw [← hm, List.length_map]
  have hq := h_parts h0 h1
  have hz := h_z h0 h1
  obtain ⟨AV, cV, hv, _⟩ := Ow.sl ha.row
  subst hv
  have c1 := ha.blk.cell 1
  simp only [List.getElem?_toArray, List.getElem?_cons_zero, List.getElem?_cons_succ] at c1
  have HPT := Lib.hid (rparts_is w h0 h1)
  cases hi : isA st x with
  | false =>
    rw [hi] at HIS
    have HE : Hid (wrAE s x T st = 5 ∧ wrA s x T st = st) := by
      show _ ∧ _
      unfold wrAE wrA
      rw [hi]; exact ⟨rfl, rfl⟩
    rw [HE.out.1, HE.out.2]
    clear hq ha hm hg hrg hll hl hz HE
    go_enter Try.func30, Try.ntmps30
    go_wp2_with fail
    refine HIS.out.mono ?_
    rintro e w1 ⟨rfl, rfl⟩
    go_wp2
    go_ret
    exact ⟨rfl, S, HD0.out, fun k hk => .inl hk, FrS.of_below (Below.refl _ _)⟩
  | true =>
    rw [hi] at HIS
    have hip := is_parts hi
    have hlt : hP x < Ds.length := by rw [← hl]; exact hip.1
    obtain ⟨gr, c, hv, hc⟩ := ha.at_ hlt
    cases hv
    have i5 := idx53u gr Ds.length cV (hP x) (hP x : Int) rfl hlt
    have hpg := De.page (s := s) hm hlt
    have hk := ha.pgs _ (List.getElem_mem hlt)
    have hpo := hu.1 _ (getD_mem (show hP x < st.2.1.length by rw [hl]; exact hlt))
    rw [hpg] at hpo
    have HRD := Lib.hid (dwrite_any B (Ds[hP x]).q s (Ds[hP x]).P _ _ _ _ _ _ (hO x) T w hk.1 hk.2 hpo.inv h4 hq.2.1 hq.2.2.1)
    have HER : Hid (wrE s (hO x) T (Ds[hP x]).P = wrAE s x T st) := by
      show _ = _
      unfold wrE wrAE
      rw [hi]
      rw [hpg] at hip
      rw [hip.2.1]
      try rfl
    rw [HER.out] at HRD
    have HNEW : Hid (∀ w', DEnd B (Ds[hP x]).q s (wrS s (hO x) T (Ds[hP x]).P) (Ds[hP x]).vB (Ds[hP x]).vU (Ds[hP x]).vK w w' → ∃ S', DA K w' B q s (wrA s x T st) S' ∧ (∀ k, S' k → S k ∨ w.heap.size ≤ k) ∧ FrS w w' S) := fun w' hD => by
      obtain ⟨Bs2, Us2, Bk2, vB2, vU2, vK2, hx2, hr2, hf, nB, nU, nK⟩ := hD
      obtain ⟨t1, t2, t3⟩ := ha.turn hlt (d' := ⟨(Ds[hP x]).q, Bs2, Us2, Bk2, vB2, vU2, vK2, wrS s (hO x) T (Ds[hP x]).P⟩) rfl ⟨hx2, hr2⟩ hf nB nU nK
      refine ⟨_, ⟨_, _, _, L, t1, ?_, ?_, hrg, hll, rfl⟩, by rw [hS]; exact t3, by rw [hS]; exact t2⟩
      · rw [List.map_set, hm]
        unfold wrA
        rw [hi, if_pos rfl, hpg]
      · intro z hz
        rw [hg z hz]
        unfold wrA
        rw [hi, if_pos rfl]
    obtain ⟨ee, hee⟩ : ∃ ee, wrAE s x T st = ee := ⟨_, rfl⟩
    rw [hee] at HRD
    rw [hee]
    generalize wrA s x T st = stn at *
    generalize wrS s (hO x) T (Ds[hP x]).P = psn at *
    obtain ⟨qq, hqq⟩ : ∃ qq, (Ds[hP x]).q = qq := ⟨_, rfl⟩
    rw [hqq] at HRD hc HNEW
    generalize (Ds[hP x]).vB = vB at *
    generalize (Ds[hP x]).vU = vU at *
    generalize (Ds[hP x]).vK = vK at *
    clear hq ha hm hg hrg hll hpg hk hqq hl hz hip hpo HER hee
    go_enter Try.func30, Try.ntmps30
    go_wp2_with fail
    refine HIS.out.mono ?_
    rintro e w1 ⟨rfl, rfl⟩
    go_wp2_with fail
    refine HPT.out.mono ?_
    rintro e w1 ⟨rfl, rfl⟩
    go_wp2_with fail
    refine HRD.out.mono ?_
    rintro e w1 ⟨rfl, hD⟩
    have HN := Lib.hid (HNEW.out _ hD)
    clear hD
    go_wp2
    go_ret
    exact ⟨rfl, HN.out⟩

theorem elemQ : Elem Try.prog 53 85 pv 8 where
  und := Try.underlying53
  info := by
    have h : (Try.prog.info? 85).map (fun i => (i.zero, i.size, i.bytes)) = some (some (.pointer none), 1, 8) := by kernel_rfl
    cases hi : Try.prog.info? 85 with
    | none => rw [hi] at h; cases h
    | some i => rw [hi] at h; simp only [Option.map_some, Option.some.injEq, Prod.mk.injEq] at h; exact ⟨i, _, rfl, h.1, h.2.1, h.2.2, rfl⟩
  one := fun _ => rfl
/-- the others, then the slot itself -/
def givL (L : List gn.Ct) (z g : Int) : List gn.Ct := L.filter (fun p => decide (p.1 ≠ z)) ++ [(z, g)]
theorem ofC_filter {z z' : Int} (h : z' ≠ z) : ∀ L : List gn.Ct, gn.ofC (L.filter (fun p => decide (p.1 ≠ z))) z' = gn.ofC L z'
  | [] => rfl
  | p :: L => by
    have ih := ofC_filter h L
    by_cases e : p.1 = z
    · rw [List.filter_cons_of_neg (by simp [e]), ih]
      exact (if_neg (show ¬ p.1 = z' from fun q => h (q.symm.trans e))).symm
    · rw [List.filter_cons_of_pos (by simp [e])]
      show (if p.1 = z' then p.2 else gn.ofC _ z') = (if p.1 = z' then p.2 else gn.ofC _ z')
      rw [ih]
theorem ofC_app {z g : Int} : ∀ L : List gn.Ct, (∀ p ∈ L, p.1 ≠ z) → gn.ofC (L ++ [(z, g)]) z = g
  | [], _ => if_pos rfl
  | p :: L, h => (if_neg (h p (List.mem_cons_self ..))).trans (ofC_app L (fun x hx => h x (List.mem_cons_of_mem _ hx)))
theorem ofC_app_ne {z z' g : Int} (h : z' ≠ z) : ∀ L : List gn.Ct, gn.ofC (L ++ [(z, g)]) z' = gn.ofC L z'
  | [] => (if_neg (show ¬ z = z' from fun q => h q.symm))
  | p :: L => by
    show (if p.1 = z' then p.2 else gn.ofC (L ++ [(z, g)]) z') = (if p.1 = z' then p.2 else gn.ofC L z')
    rw [ofC_app_ne h L]
theorem givL_of {L : List gn.Ct} {z g z' : Int} : gn.ofC (givL L z g) z' = if z' = z then g else gn.ofC L z' := by
  unfold givL
  by_cases e : z' = z
  · subst e
    rw [if_pos rfl]
    exact ofC_app _ (fun p hp => of_decide_eq_true (List.mem_filter.1 hp).2)
  · rw [if_neg e, ofC_app_ne e, ofC_filter e]
theorem givL_rg {L : List gn.Ct} {z g : Int} (h : ∀ p ∈ L, gn.rg p.1) (hz : gn.rg z) : ∀ p ∈ givL L z g, gn.rg p.1 := fun p hp => by
  rcases List.mem_append.1 hp with hp | hp
  · exact h p (List.mem_filter.1 hp).1
  · rw [List.mem_singleton.1 hp]; exact hz
theorem givL_len {L : List gn.Ct} {z g : Int} : (givL L z g).length ≤ L.length + 1 := by
  unfold givL
  rw [List.length_append]
  have := List.length_filter_le (fun p : gn.Ct => decide (p.1 ≠ z)) L
  simp only [List.length_cons, List.length_nil]
  omega
/-- and the map of generations tells the same -/
theorem givL_put {L G : List gn.Ct} {z g : Int} (h : ∀ z, gn.rg z → gn.ofC L z = gn.ofC G z) (hG : gn.Ok G) (hz : gn.rg z) (hg : (Lit.int .u32 g).wf = true) : ∀ z', gn.rg z' → gn.ofC (givL L z g) z' = gn.ofC (gn.putC G z g) z' := fun z' hz' => by
  rw [givL_of]
  by_cases e : z' = z
  · rw [if_pos e, e, gn.of_put hG hz hg]
  · rw [if_neg e, gn.of_put_ne hG hz hg e]; exact h z' hz'
end Go.Proofs.Ytbnbhhmgfogjeaa
