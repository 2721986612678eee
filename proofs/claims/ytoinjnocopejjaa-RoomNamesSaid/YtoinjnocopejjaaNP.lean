/- NP, NQ, NR in one. -/
import Derived.Test.YtoinjnocopejjaaNK
import Derived.Test.YtoinjnocopejjaaNB
import Derived.StillTailTactics
import Derived.Deep.AppendLies
/- vacuum. -/
namespace Go.Proofs.Ytoinjnocopejjaa
open Go.ChangeShapes Go.WideShapes Go.ChangeAt Go.RowKit Go.Maps
set_option linter.unusedVariables false
set_option linter.unusedSimpArgs false
theorem run_minI (a b m : Int) (h : m = min a b) (W : World) : (Builtin.min_ #[3, 3] 3 #[.int .i64 a, .int .i64 b]).run Try.prog W = .ok (.int .i64 m) W := by
  by_cases hl : b < a
  · have e : m = b := by omega
    subst e
    clear h
    unfold Builtin.min_
    go_simp
    show Result.ok (Value.int .i64 (if m < a then m else a)) W = _
    rw [if_pos (by omega)]
  · have e : m = a := by omega
    subst e
    clear h
    unfold Builtin.min_
    go_simp
    show Result.ok (Value.int .i64 (if b < m then b else m)) W = _
    rw [if_neg (by omega)]
theorem keptR_le (f : Int) (r : Rw) : retR (keptR f r) ≤ retR r := by
  have h2 : (kept r.1 f).length ≤ r.1.length := by unfold kept; rw [List.length_take]; omega
  unfold retR keptR
  simp only
  split <;> omega
set_option maxRecDepth 100000 in
set_option maxHeartbeats 16000000 in
theorem vacuum_any (B p : Nat) (s : MS) (S : Nat → Prop) (t : Int) (tx li : Int) (ke en va : ByteArray) (kn eg : Nat) (w : World) (h : MR w B p s S) (hkn : kn = 8) (hn : s.txns.length ≤ 100000) : Calls Try.prog 59 #[.pointer (some ⟨p, 0, none⟩), .int .i64 t, .agg #[.int .u8 (kn : Int), .int .i64 tx, .string ke, .string en, .string va, .int .i64 li, .int .u8 (eg : Int)]] w (AnEnd (actM s t (txW s t tx) (kn, tx, ke, en, va, li, eg)).2 (actM s t (txW s t tx) (kn, tx, ke, en, va, li, eg)).1 B p S w) := by
  obtain ⟨x, h, rfl⟩ := h
  have hok := h.ok
  have HA : Hid (actM s t (txW s t tx) (kn, tx, ke, en, va, li, eg) = (vacM s, as0)) := Lib.hid (by rw [hkn]; rfl)
  generalize actM s t (txW s t tx) (kn, tx, ke, en, va, li, eg) = R at *
  obtain ⟨FK, hFK⟩ : ∃ FK : Nat → Int, ∀ k, FK k = (s.txns.take k).foldl (fun m p => if p.1 = 1 then min m p.2 else m) s.clock := ⟨_, fun _ => rfl⟩
  have HF0 : Hid (FK 0 = s.clock) := Lib.hid (hFK 0)
  have HFS : Hid (∀ k q, s.txns[k]? = some q → FK (k + 1) = if q.1 = 1 then min (FK k) q.2 else FK k) := Lib.hid (fun k q hq => by rw [hFK, hFK, List.take_add_one, hq, List.foldl_append]; rfl)
  have HFB : Hid (∀ k, 0 ≤ FK k ∧ FK k ≤ s.clock) := Lib.hid (fun k => by
    rw [hFK]
    exact ⟨floor_nn _ _ hok.clk.1 (fun p hp => (hok.sn p (List.mem_of_mem_take hp)).1), floor_le _ _⟩)
  have HOKK : Hid (∀ k, OkM ⟨s.cf, s.clock, FK k, s.txns, s.tasks, s.rows⟩) := Lib.hid (fun k => hok.times ⟨Int.le_refl _, hok.clk.2⟩ (HFB.out k))
  have HFE : Hid (FK s.txns.length = floorM s) := Lib.hid (by rw [hFK, List.take_length]; rfl)
  clear hFK
  obtain ⟨F, hF⟩ : ∃ F, floorM s = F := ⟨_, rfl⟩
  have hvac : vacM s = ⟨s.cf, s.clock, F, s.txns, s.tasks, mapR (keptR F) s.rows⟩ := by rw [← hF]; rfl
  rw [hvac] at HA
  rw [hF] at HFE
  clear hvac hF
  have HKS : Hid (∀ q ∈ s.rows, q.1.size ≤ maxLen) := Lib.hid (fun q hq => by have := hok.ksz q hq; unfold maxLen; omega)
  obtain ⟨I, hI⟩ : ∃ I, s.rows.map (·.1) = I := ⟨_, rfl⟩
  have hnd : I.Nodup := by rw [← hI]; exact up_nodup hok.up
  have hin : ∀ k ∈ I, hasK s.rows k = true := fun k hk => by
    rw [← hI] at hk
    obtain ⟨q, h1, rfl⟩ := List.mem_map.1 hk
    exact has_iff.2 ⟨q.2, h1⟩
  have HOKJ : Hid (∀ k, OkM ⟨s.cf, s.clock, F, s.txns, s.tasks, foldS (keptR F) s.rows (I.take k)⟩) := Lib.hid (fun k => hok.fold ⟨Int.le_refl _, hok.clk.2⟩ (by have := HFB.out s.txns.length; rw [HFE.out] at this; exact this) rfl (Nat.le_refl _) (fun t ht => hok.sn t ht) (nodup_take hnd k) (fun k' hk' => hin k' (List.mem_of_mem_take hk')) (fun q hq _ => ⟨by have := hok.deep q hq; have := keptR_le F q.2; omega, hok.iw q hq, (hok.dec q hq).kept _⟩))
  have HGET : Hid (∀ k key, I[k]? = some key → getK rw0 (foldS (keptR F) s.rows (I.take k)) key = getK rw0 s.rows key ∧ (key, getK rw0 s.rows key) ∈ s.rows) := Lib.hid (fun k key hk' => ⟨foldS_get hok.up (nodup_take hnd k) (fun k' h' => hin k' (List.mem_of_mem_take h')) (not_mem_take hnd hk'), get_mem (hin key (List.mem_of_getElem? hk'))⟩)
  have HSN : Hid (∀ k key, I[k]? = some key → foldS (keptR F) s.rows (I.take (k + 1)) = setR (foldS (keptR F) s.rows (I.take k)) key (keptR F (getK rw0 (foldS (keptR F) s.rows (I.take k)) key))) := Lib.hid (fun k key hk' => by rw [List.take_add_one, hk']; exact foldS_snoc ..)
  have HAF : Hid (foldS (keptR F) s.rows (I.take I.length) = mapR (keptR F) s.rows) := Lib.hid (by rw [List.take_length, ← hI]; exact foldS_all hok.up)
  have HA0 : Hid (foldS (keptR F) s.rows (I.take 0) = s.rows) := Lib.hid (by rw [List.take_zero]; rfl)
  have hi64 : I.length ≤ 64 := by rw [← hI, List.length_map]; have := hok.keys; have := may_lo hok.may; omega
  obtain ⟨n2_, hnl2⟩ : ∃ n, I.length = n := ⟨_, rfl⟩
  rw [hnl2] at HAF hi64
  have HI := Lib.hid hnl2
  have HI64 := Lib.hid hi64
  have HII := Lib.hid hI
  clear hnd hin hi64 hnl2 hI
  obtain ⟨N, hN⟩ : ∃ N, s.txns.length = N := ⟨_, rfl⟩
  obtain ⟨At, ct, etv, hct, hr⟩ := h.txr
  rw [hN] at hn etv HFE
  have HN := Lib.hid hN
  have ETV := Lib.hid etv
  have hb2 : Below w.heap.size w ((w.alloc (.cells #[.int .u8 (kn : Int), .int .i64 tx, .string ke, .string en, .string va, .int .i64 li, .int .u8 (eg : Int)] 36)).alloc (.cells #[.int .i64 0, .bool false, .string ⟨#[]⟩, .slice none 0 0] 33)) := ((Below.refl _ _).alloc (Nat.le_refl _) _).alloc (by simp) _
  have K6 : Hid (Blk ((w.alloc (.cells #[.int .u8 (kn : Int), .int .i64 tx, .string ke, .string en, .string va, .int .i64 li, .int .u8 (eg : Int)] 36)).alloc (.cells #[.int .i64 0, .bool false, .string ⟨#[]⟩, .slice none 0 0] 33)) (w.heap.size + 1) #[.int .i64 0, .bool false, .string ⟨#[]⟩, .slice none 0 0] 33) := Lib.hid (Blk.new2 _ _ 33 (by simp))
  have HM2 := Lib.hid (h.later hb2)
  have HF2 : Hid (FrS w ((w.alloc (.cells #[.int .u8 (kn : Int), .int .i64 tx, .string ke, .string en, .string va, .int .i64 li, .int .u8 (eg : Int)] 36)).alloc (.cells #[.int .i64 0, .bool false, .string ⟨#[]⟩, .slice none 0 0] 33)) (MxS p x)) := Lib.hid (FrS.of_below hb2)
  have HPL : Hid (∀ k, MxS p x k → k < w.heap.size) := Lib.hid (fun k e => (h.lt k e).2)
  clear h hok hN hct hr etv hb2 hkn
  go_enter Try.func59, Try.ntmps59
  go_upto_region 1 with (fail)
  generalize ((w.alloc (.cells #[.int .u8 (kn : Int), .int .i64 tx, .string ke, .string en, .string va, .int .i64 li, .int .u8 (eg : Int)] 36)).alloc (.cells #[.int .i64 0, .bool false, .string ⟨#[]⟩, .slice none 0 0] 33)) = w2 at *
  have q8 := HM2.out.c0 8
  have q9 := HM2.out.c0 9
  have q10 := HM2.out.c0 10
  have f9 := HM2.out.blk.frozen 9
  simp only [mdC, List.getElem?_cons_succ, List.getElem?_cons_zero] at q8 q9 q10
  rw [ETV.out] at q10
  have HM3 : Hid (MdAt (w2.setCell ⟨p, 9, none⟩ (.int .i64 s.clock)) B p ⟨s.cf, s.clock, (FK 0), s.txns, s.tasks, s.rows⟩ x) := Lib.hid (by have := HM2.out.setFloor (fl := FK 0) (HOKK.out 0); rw [HF0.out] at this ⊢; exact this)
  have HF3 := Lib.hid (HF2.out.trans (FrS.head w2 p 9 x (.int .i64 s.clock)) (fun i hi => .inl hi))
  replace K6 := Lib.hid ((FrS.head w2 p 9 x (.int .i64 s.clock)).blk K6.out (fun e => by have := HPL.out _ e; omega))
  clear HM2 HF2
  go_wp2
  clear q10 q8 q9 f9
  generalize w2.setCell ⟨p, 9, none⟩ (.int .i64 s.clock) = w3 at *
  go_loopw [24] (fun i W => ∃ (k : Nat), k ≤ N ∧ i = .int .i64 k ∧ MdAt W B p ⟨s.cf, s.clock, (FK k), s.txns, s.tasks, s.rows⟩ x ∧ FrS w W (MxS p x) ∧ Blk W (w.heap.size + 1) #[.int .i64 0, .bool false, .string ⟨#[]⟩, .slice none 0 0] 33) (fun i _ => N - (intOf i).toNat)
  case atStart => exact ⟨0, Nat.zero_le _, rfl, HM3.out, HF3.out, K6.out⟩
  case round =>
    obtain ⟨k, hk, rfl, hm, hf, hk6⟩ := hrel
    have HM := Lib.hid hm
    have HF := Lib.hid hf
    have HK6 := Lib.hid hk6
    clear HM3 HF3 K6 hf hk6
    by_cases hlt : k < N
    · have d2 : decide ((k : Int) < (N : Int)) = true := decide_eq_true (by omega)
      have wk : IntKind.i64.wrap ((k : Int) + 1) = (k : Int) + 1 := IntWalk.i64_in _ (by omega)
      obtain ⟨A3, c3, e3, _, hr3⟩ := hm.txr
      rw [ETV.out] at e3
      simp only [Value.slice.injEq] at e3
      obtain ⟨rfl, _, rfl⟩ := e3
      obtain ⟨g, off, rfl, hg, hcc⟩ := hr3.2 (by show 0 < s.txns.length; rw [HN.out]; omega)
      have hrk : s.txns[k]? = some (s.txns[k]'(by rw [HN.out]; exact hlt)) := List.getElem?_eq_getElem _
      generalize s.txns[k]'(by rw [HN.out]; exact hlt) = q at *
      obtain ⟨stt, sn⟩ := q
      have y0 := hcc k _ hrk 0 (by decide)
      have y1 := hcc k _ hrk 1 (by decide)
      simp only [txE, List.getElem?_cons_zero, List.getElem?_cons_succ, Nat.add_zero] at y0 y1
      have i1 := idx106 g off N ct k (k : Int) rfl hlt
      have HNX := Lib.hid (HFS.out k (stt, sn) hrk)
      have hb4 : Below wr.heap.size wr (wr.alloc (.cells #[.int .u8 stt, .int .i64 sn] 112)) := (Below.refl _ _).alloc (Nat.le_refl _) _
      have HB4 := Lib.hid hb4
      have K8 : Hid (Blk (wr.alloc (.cells #[.int .u8 stt, .int .i64 sn] 112)) wr.heap.size #[.int .u8 stt, .int .i64 sn] 112) := Lib.hid (Blk.new _ _ 112)
      clear hcc hrk hg hm hr3 hb4
      go_upto_region 5 with (fail)
      clear y0 y1 i1
      generalize wr.alloc (.cells #[.int .u8 stt, .int .i64 sn] 112) = w4 at *
      have z0 := K8.out.cell 0
      have z1 := K8.out.cell 1
      simp only [List.getElem?_toArray, List.getElem?_cons_zero, List.getElem?_cons_succ] at z0 z1
      have HM4 := Lib.hid (HM.out.later HB4.out)
      have HF4 := Lib.hid (HF.out.trans (FrS.of_below HB4.out (S := fun _ => False)) (fun i hi => hi.elim))
      have HK64 := Lib.hid (HK6.out.later HB4.out)
      clear HM HF HK6
      by_cases hst : stt = 1
      · have e1 : (stt == 1) = true := by rw [hst]; rfl
        have HNY : Hid (FK (k + 1) = min (FK k) sn) := Lib.hid (by rw [HNX.out, if_pos hst])
        have hmin := run_minI (FK k) sn (FK (k + 1)) HNY.out
        have q9 := HM4.out.c0 9
        simp only [mdC, List.getElem?_cons_succ, List.getElem?_cons_zero] at q9
        clear hst HNX HNY
        go_upto_region 6 with (fail)
        go_still_tail 10, (by kernel_rfl)
        change wpList _ _ _ _ _ (World.drew w4)
        have hb5 : Below w4.heap.size w4 (World.drew w4) := Below.drew (Below.refl _ _)
        have HM5 := Lib.hid (HM4.out.later hb5)
        have HF5 := Lib.hid (HF4.out.trans (FrS.of_below hb5 (S := fun _ => False)) (fun i hi => hi.elim))
        have HK65 := Lib.hid (HK64.out.later hb5)
        clear hb5 HM4 HF4 HK64 K8 HB4 z0 z1 q9 hmin
        generalize World.drew w4 = w5 at *
        have f9 := HM5.out.blk.frozen 9
        have q9 := HM5.out.c0 9
        simp only [mdC, List.getElem?_cons_succ, List.getElem?_cons_zero] at q9
        have HM6 := Lib.hid (HM5.out.setFloor (fl := FK (k + 1)) (HOKK.out (k + 1)))
        have HF6 := Lib.hid (HF5.out.trans (FrS.head w5 p 9 x (.int .i64 (FK (k + 1)))) (fun i hi => .inl hi))
        have HK66 := Lib.hid ((FrS.head w5 p 9 x (.int .i64 (FK (k + 1)))).blk HK65.out (fun e => by have := HPL.out _ e; omega))
        go_wp2
        go_roundw
        case rel => exact ⟨k + 1, by omega, rfl, HM6.out, HF6.out, HK66.out⟩
        case measure => simp [intOf]; omega
      · have e1 : (stt == 1) = false := by rw [beq_eq_false_iff_ne]; exact hst
        have HNY : Hid (FK (k + 1) = FK k) := Lib.hid (by rw [HNX.out, if_neg hst])
        rw [← HNY.out] at HM4
        clear hst HNX
        go_wp2
        go_roundw
        case rel => exact ⟨k + 1, by omega, rfl, HM4.out, HF4.out, HK64.out⟩
        case measure => simp [intOf]; omega
    · have d2 : decide ((k : Int) < (N : Int)) = false := decide_eq_false (by omega)
      obtain rfl : k = N := by omega
      clear hm
      rw [HFE.out] at HM
      have HKE := Lib.hid (keys_any B p ⟨s.cf, s.clock, F, s.txns, s.tasks, s.rows⟩ _ wr ⟨x, HM.out, rfl⟩)
      simp only at HKE
      rw [HII.out] at HKE
      clear HFS HOKK HFE HF0
      go_wp2_with fail
      refine HKE.out.mono ?_
      rintro e w4 ⟨vk, rfl, ho, hb⟩
      have hs := ho.sl
      rw [HI.out] at ho
      obtain ⟨A, c, rfl, _⟩ := ho.sl
      have HMV0 : Hid (Mv ⟨s.cf, s.clock, F, s.txns, s.tasks, foldS (keptR F) s.rows (I.take 0)⟩ B p (MxS p x) w w4) := Lib.hid (by rw [HA0.out]; exact ⟨_, ⟨x, HM.out.later hb, rfl⟩, HF.out.trans (FrS.of_below hb (S := fun _ => False)) (fun i hi => hi.elim), fun k e => .inl e⟩)
      have HO0 := Lib.hid ho
      have HK60 := Lib.hid (HK6.out.later hb)
      clear ho hb hs HKE HM HF HK6 d2
      generalize wr.heap.size = B0 at *
      go_wp2
      go_loopw [45] (fun i W => ∃ (k : Nat), k ≤ n2_ ∧ i = .int .i64 k ∧ Mv ⟨s.cf, s.clock, F, s.txns, s.tasks, foldS (keptR F) s.rows (I.take k)⟩ B p (MxS p x) w W ∧ Ow sE W B0 9 (.slice A n2_ c) n2_ I ∧ Blk W (w.heap.size + 1) #[.int .i64 0, .bool false, .string ⟨#[]⟩, .slice none 0 0] 33) (fun i _ => n2_ - (intOf i).toNat)
      case atStart => exact ⟨0, Nat.zero_le _, rfl, HMV0.out, HO0.out, HK60.out⟩
      case round =>
        obtain ⟨k, hk, rfl, hmv, ho, hk6⟩ := hrel
        have HMV := Lib.hid hmv
        have HO := Lib.hid ho
        have HK6 := Lib.hid hk6
        clear HMV0 HO0 HK60 hk6
        by_cases hlt : k < n2_
        · have d2 : decide ((k : Int) < (n2_ : Int)) = true := decide_eq_true (by omega)
          have wk : IntKind.i64.wrap ((k : Int) + 1) = (k : Int) + 1 := IntWalk.i64_in _ (by have := HI64.out; omega)
          have hsl : Sl sE wr A n2_ c I := by
            obtain ⟨A2, c2, e2, hs2⟩ := ho.sl
            cases e2; exact hs2
          obtain ⟨gk, off, rfl, hgk, hcell⟩ := hsl.rd.2 (by omega)
          have hrk : I[k]? = some (I[k]'(by rw [HI.out]; exact hlt)) := List.getElem?_eq_getElem _
          generalize I[k]'(by rw [HI.out]; exact hlt) = key at *
          have y1 := hcell k key hrk
          have i1 := idx40 gk off n2_ c k (k : Int) rfl hlt
          have HGK := Lib.hid (HGET.out k key hrk)
          have HSK := Lib.hid (HSN.out k key hrk)
          have HKZ := Lib.hid (HKS.out _ (HGET.out k key hrk).2)
          obtain ⟨S1, ⟨x1, hm1, rfl⟩, hfr1, hsub1⟩ := hmv
          have k12 := hm1.c0 12
          have k9 := hm1.c0 9
          simp only [mdC, List.getElem?_cons_succ, List.getElem?_cons_zero] at k12 k9
          have C9 := Lib.hid k9
          have hlk := hm1.look0 key HKZ.out
          have hgr := hm1.getR key
          have hat := hm1.hdAt key
          obtain ⟨hd, hq0⟩ : ∃ hd, hdG x1 key = hd := ⟨_, rfl⟩
          rw [hq0] at hlk hgr hat
          have HGR : Hid (hdR hd = getK rw0 (foldS (keptR F) s.rows (I.take k)) key) := Lib.hid hgr.symm
          have HAT := Lib.hid hat
          have HM1 := Lib.hid hm1
          have HFR1 := Lib.hid hfr1
          have HSB1 := Lib.hid hsub1
          clear hcell hrk hm1 hgr hat hfr1 hsub1 hq0 hgk hsl ho k9
          obtain ⟨A2, n2, c2, L2, ⟨iw, its, itm, iv⟩⟩ := hd
          unfold sE at y1
          unfold rowV at hlk
          simp only at hlk
          have HB5 : Hid (Below wr.heap.size wr (wr.alloc (.cells #[.slice A2 n2 c2, .int .i64 iw, .int .i64 its, .bool itm, .string iv] 114))) := Lib.hid ((Below.refl _ _).alloc (Nat.le_refl _) _)
          have K5 : Hid (Blk (wr.alloc (.cells #[.slice A2 n2 c2, .int .i64 iw, .int .i64 its, .bool itm, .string iv] 114)) wr.heap.size #[.slice A2 n2 c2, .int .i64 iw, .int .i64 its, .bool itm, .string iv] 114) := Lib.hid (Blk.new _ _ 114)
          go_upto_region 12 with (fail)
          clear y1 i1 k12 hlk
          generalize wr.alloc (.cells #[.slice A2 n2 c2, .int .i64 iw, .int .i64 its, .bool itm, .string iv] 114) = w5 at *
          obtain ⟨q, hq⟩ : ∃ q, wr.heap.size = q := ⟨_, rfl⟩
          refine wp_region_noPanic ?_
          obtain ⟨W0, rfl⟩ : ∃ W0 : World, W0 = w5 := ⟨_, rfl⟩
          refine wp_region_held_drew (S := fun W => Below wr.heap.size wr W) (by kernel_rfl) (Below.drew HB5.out) (fun hHeld => ?_)
          replace HB5 : Hid (Below wr.heap.size wr (World.drew W0)) := Lib.hid (Below.drew HB5.out)
          replace K5 : Hid (Blk (World.drew W0) wr.heap.size #[.slice A2 n2 c2, .int .i64 iw, .int .i64 its, .bool itm, .string iv] 114) := Lib.hid K5.out
          clear hq
          generalize World.drew W0 = Wd at *
          refine wpAnyH_take (i := 0) (oi := { dst := some 55, op := Op.fieldAddr 114 (Operand.tmp 11) 0, type := 0, pos := "model.go:257", after := #[], guard := none }) (v := ?_) rfl (by kernel_rfl) (by kernel_rfl) (by kernel_rfl) (fun _ _ _ h => h) (Or.inl ⟨by rfl, ?_⟩) (by assumption) ?_
          rotate_left
          · intro W hSw
            clear hSw
            go_simp
            try with_reducible rfl
          simp only [Act.put, List.setIfInBounds_toArray, List.set_cons_zero, List.set_cons_succ]
          refine wpAnyH_take (i := 2) (oi := { dst := some 57, op := Op.move (Operand.tmp 0), type := 22, pos := "model.go:257", after := #[], guard := none }) (v := ?_) rfl (by kernel_rfl) (by kernel_rfl) (by kernel_rfl) (fun _ _ _ h => h) (Or.inl ⟨by rfl, ?_⟩) (by assumption) ?_
          rotate_left
          · intro W hSw
            clear hSw
            go_simp
            try with_reducible rfl
          simp only [Act.put, List.setIfInBounds_toArray, List.set_cons_zero, List.set_cons_succ]
          refine wpAnyH_take (i := 3) (oi := { dst := some 58, op := Op.nilCheck (Operand.tmp 57), type := 0, pos := "model.go:257", after := #[{ on := 2, ground := Ground.data }], guard := none }) (v := ?_) rfl (by kernel_rfl) (by kernel_rfl) (by kernel_rfl) (fun _ _ _ h => h) (Or.inl ⟨by rfl, ?_⟩) (by assumption) ?_
          rotate_left
          · intro W hSw
            clear hSw
            go_simp
            try with_reducible rfl
          simp only [Act.put, List.setIfInBounds_toArray, List.set_cons_zero, List.set_cons_succ]
          refine wpAnyH_take (i := 4) (oi := { dst := some 59, op := Op.fieldAddr 110 (Operand.tmp 58) 2, type := 0, pos := "model.go:257", after := #[{ on := 3, ground := Ground.data }], guard := none }) (v := ?_) rfl (by kernel_rfl) (by kernel_rfl) (by kernel_rfl) (fun _ _ _ h => h) (Or.inl ⟨by rfl, ?_⟩) (by assumption) ?_
          rotate_left
          · intro W hSw
            clear hSw
            go_simp
            try with_reducible rfl
          simp only [Act.put, List.setIfInBounds_toArray, List.set_cons_zero, List.set_cons_succ]
          refine wpAnyH_take (i := 5) (oi := { dst := some 60, op := Op.load 3 (Operand.tmp 59), type := 3, pos := "model.go:257", after := #[{ on := 4, ground := Ground.data }], guard := none }) (v := ?_) rfl (by kernel_rfl) (by kernel_rfl) (by kernel_rfl) (fun _ _ _ h => h) (Or.inl ⟨by rfl, ?_⟩) (by assumption) ?_
          rotate_left
          · intro W hSw
            have q9 := (hSw.cell (p := ⟨p, 9, none⟩) (lt_of_cell C9.out)).trans C9.out
            clear hSw
            go_simp
            try with_reducible rfl
          simp only [Act.put, List.setIfInBounds_toArray, List.set_cons_zero, List.set_cons_succ]
          refine wpAnyH_ready (rs := [1]) (by kernel_rfl) (by simp) (AllReadyH.cons (o := { dst := some 56, op := Op.load 38 (Operand.tmp 55), type := 38, pos := "model.go:257", after := #[{ on := 0, ground := Ground.data }], guard := none }) rfl (fun K hK => ?_) AllReadyH.nil)
          have z0 := K5.out.cell 0
          simp only [List.getElem?_toArray, List.getElem?_cons_zero, List.getElem?_cons_succ] at z0
          go_simp
          clear z0 hHeld
          refine hK.out _ _ (HB5.out) (fun hHeld => ?_)
          clear hK K
          refine wpAnyH_ready (rs := [6]) (by kernel_rfl) (by simp) (AllReadyH.cons (o := { dst := some 61, op := Op.call { callee := Callee.value (Operand.func 87), args := #[Operand.tmp 56, Operand.tmp 60], argTypes := #[38, 3] }, type := 38, pos := "model.go:257", after := #[{ on := 1, ground := Ground.data }, { on := 5, ground := Ground.data }], guard := none }) rfl (fun K hK => ?_) AllReadyH.nil)
          have HCL := Lib.hid (Kept_any A2 n2 c2 F L2 Wd (by have h8 : n2 ≤ 8 := HAT.out.2.2.2; omega) HAT.out.2.1 (vers_of (HAT.out.later HB5.out)))
          go_simp
          refine HCL.out.mono ?_
          rintro e W6 ⟨A7, rfl, hv7, hb7⟩
          have HV7 := Lib.hid hv7
          replace HB5 := Lib.hid (stepB HB5.out hb7)
          replace K5 := Lib.hid (K5.out.later hb7)
          clear hv7 hb7 hHeld HCL
          refine hK.out _ _ (HB5.out) (fun hHeld => ?_)
          clear hK K
          refine wpAnyH_take (i := 7) (oi := { dst := some 62, op := Op.fieldAddr 114 (Operand.tmp 11) 0, type := 0, pos := "model.go:257", after := #[{ on := 0, ground := Ground.phase }, { on := 1, ground := Ground.phase }, { on := 2, ground := Ground.phase }, { on := 3, ground := Ground.phase }, { on := 4, ground := Ground.phase }, { on := 5, ground := Ground.phase }, { on := 6, ground := Ground.phase }], guard := none }) (v := ?_) rfl (by kernel_rfl) (by kernel_rfl) (by kernel_rfl) (fun _ _ _ h => h) (Or.inl ⟨by rfl, ?_⟩) (by assumption) ?_
          rotate_left
          · intro W hSw
            clear hSw
            go_simp
            try with_reducible rfl
          simp only [Act.put, List.setIfInBounds_toArray, List.set_cons_zero, List.set_cons_succ]
          refine wpAnyH_ready (rs := [8]) (by kernel_rfl) (by simp) (AllReadyH.cons (o := { dst := none, op := Op.store 38 (Operand.tmp 62) (Operand.tmp 61), type := 0, pos := "model.go:257", after := #[{ on := 7, ground := Ground.data }, { on := 6, ground := Ground.data }, { on := 6, ground := Ground.chain }, { on := 0, ground := Ground.phase }, { on := 1, ground := Ground.phase }, { on := 2, ground := Ground.phase }, { on := 3, ground := Ground.phase }, { on := 4, ground := Ground.phase }, { on := 5, ground := Ground.phase }, { on := 6, ground := Ground.phase }], guard := none }) rfl (fun K hK => ?_) AllReadyH.nil)
          generalize nkept L2 F = m7 at *
          have f0 := K5.out.frozen 0
          have z0 := K5.out.cell 0
          simp only [List.getElem?_toArray, List.getElem?_cons_zero, List.getElem?_cons_succ] at z0
          go_simp
          clear f0 z0
          have K7 : Hid (Blk (W6.setCell ⟨wr.heap.size, 0, none⟩ (.slice A7 m7 m7)) wr.heap.size #[.slice A7 m7 m7, .int .i64 iw, .int .i64 its, .bool itm, .string iv] 114) := Lib.hid (K5.out.set (j := 0) _)
          have HB7 := Lib.hid (HB5.out.setCell (p := ⟨wr.heap.size, 0, none⟩) (Nat.le_refl _) (.slice A7 m7 m7))
          clear hHeld
          refine hK.out _ _ (HB7.out) (fun hHeld => ?_)
          clear hK K
          refine wpAnyH_done (by kernel_rfl) (NoPanic.normal ?_) _
          clear hHeld
          have HAT7 : Hid (HdAt (W6.setCell ⟨wr.heap.size, 0, none⟩ (.slice A7 m7 m7)) ⟨A7, m7, m7, kept L2 F, ⟨iw, its, itm, iv⟩⟩) := Lib.hid (by
            have hv := HV7.out
            have hl : (kept L2 F).length ≤ 8 := by
              have h1 : L2.length = n2 := HAT.out.1.1
              have h2 : n2 ≤ 8 := HAT.out.2.2.2
              unfold kept; rw [List.length_take]; omega
            have hl2 : (kept L2 F).length = m7 := hv.1
            refine ⟨vrow_keep (hv.mono (Nat.zero_le _)) (fun g cur hg => Below.heap_setCell W6 ⟨wr.heap.size, 0, none⟩ _ g (fun e => by
              subst e
              have hk := K5.out
              unfold Blk at hk
              rw [hk] at hg; simp only [Option.some.injEq, Obj.cells.injEq] at hg; exact absurd hg.2.1 (by decide))), Nat.le_refl _, fun e => ?_, by show m7 ≤ 8; omega⟩
            by_cases h0 : m7 = 0
            · exact ⟨h0, h0⟩
            · obtain ⟨g2, o2, h1, _⟩ := hv.2 (by omega)
              simp only at e
              rw [e] at h1; cases h1)
          generalize W6.setCell ⟨wr.heap.size, 0, none⟩ (.slice A7 m7 m7) = w7 at *
          clear K5 HB5 HV7
          have HM7 := Lib.hid (HM1.out.later HB7.out)
          have HFR7 := Lib.hid (HFR1.out.trans (FrS.of_below HB7.out (S := fun _ => False)) (fun i hi => hi.elim))
          have HO7 := Lib.hid (HO.out.later HB7.out)
          have HK67 := Lib.hid (HK6.out.later HB7.out)
          clear HM1 HFR1 HO HK6 HAT HMV C9
          have HR2 : Hid (hdR ⟨A7, m7, m7, kept L2 F, ⟨iw, its, itm, iv⟩⟩ = keptR F (getK rw0 (foldS (keptR F) s.rows (I.take k)) key)) := Lib.hid (by rw [← HGR.out]; rfl)
          have HOK2 : Hid (OkM { (⟨s.cf, s.clock, F, s.txns, s.tasks, foldS (keptR F) s.rows (I.take k)⟩ : MS) with rows := setR (foldS (keptR F) s.rows (I.take k)) key (hdR ⟨A7, m7, m7, kept L2 F, ⟨iw, its, itm, iv⟩⟩) }) := Lib.hid (by rw [HR2.out, ← HSK.out]; exact HOKJ.out (k + 1))
          have HCS := Lib.hid (set_any B p ⟨s.cf, s.clock, F, s.txns, s.tasks, foldS (keptR F) s.rows (I.take k)⟩ _ key ⟨A7, m7, m7, kept L2 F, ⟨iw, its, itm, iv⟩⟩ w7 ⟨x1, HM7.out, rfl⟩ HKZ.out HAT7.out HOK2.out)
          have HST : Hid (({ (⟨s.cf, s.clock, F, s.txns, s.tasks, foldS (keptR F) s.rows (I.take k)⟩ : MS) with rows := setR (foldS (keptR F) s.rows (I.take k)) key (hdR ⟨A7, m7, m7, kept L2 F, ⟨iw, its, itm, iv⟩⟩) }) = (⟨s.cf, s.clock, F, s.txns, s.tasks, foldS (keptR F) s.rows (I.take (k + 1))⟩ : MS)) := Lib.hid (by rw [HR2.out, ← HSK.out])
          rw [HST.out] at HCS
          clear HOK2 HST HAT7 HR2 HGR HGK HSK
          unfold rowV at HCS
          simp only at HCS
          have z0 := K7.out.cell 0
          have z1 := K7.out.cell 1
          have z2 := K7.out.cell 2
          have z3 := K7.out.cell 3
          have z4 := K7.out.cell 4
          simp only [List.getElem?_toArray, List.getElem?_cons_zero, List.getElem?_cons_succ] at z0 z1 z2 z3 z4
          go_wp2_with fail
          refine HCS.out.mono ?_
          rintro e w8 ⟨rfl, hmv8⟩
          have HTG : Hid (∀ j, MxS p x1 j → j < w7.heap.size → TagM w7 j) := Lib.hid (fun j hj _ => HM7.out.tags j hj)
          have HO8 := Lib.hid (HO7.out.frS hmv8.choose_spec.2.1 HTG.out (by decide) (by decide) (by decide) (by decide))
          have HK68 := Lib.hid (hmv8.choose_spec.2.1.blk HK67.out (fun e => (HM7.out.tags _ e).not HK67.out (by decide) (by decide) (by decide) (by decide)))
          have HMV8 : Hid (Mv ⟨s.cf, s.clock, F, s.txns, s.tasks, foldS (keptR F) s.rows (I.take (k + 1))⟩ B p (MxS p x) w w8) := Lib.hid (by
            obtain ⟨S5, a1, a2, a3⟩ := hmv8
            refine ⟨S5, a1, HFR7.out.trans a2 HSB1.out, fun j hj => ?_⟩
            rcases a3 j hj with e | e
            · exact HSB1.out j e
            · exact .inr (Nat.le_trans HFR7.out.size e))
          clear hmv8 HCS HO7 HM7 HFR7 HSB1 HK67 z0 z1 z2 z3 z4 K7 HB7
          go_wp2
          go_roundw
          case rel => exact ⟨k + 1, by omega, rfl, HMV8.out, HO8.out, HK68.out⟩
          case measure => simp [intOf]; omega
        · have d2 : decide ((k : Int) < (n2_ : Int)) = false := decide_eq_false (by omega)
          obtain rfl : k = n2_ := by omega
          rw [HAF.out] at HMV
          clear hmv ho
          have u0 := HK6.out.cell 0
          have u1 := HK6.out.cell 1
          have u2 := HK6.out.cell 2
          have u3 := HK6.out.cell 3
          simp only [List.getElem?_toArray, List.getElem?_cons_zero, List.getElem?_cons_succ] at u0 u1 u2 u3
          have v0 := HK6.out.frozen 0
          have v1 := HK6.out.frozen 1
          have v2 := HK6.out.frozen 2
          have v3 := HK6.out.frozen 3
          have HS := Lib.hid (setB4 HK6.out rfl (.int .i64 0) (.bool false) (.string ⟨#[]⟩) (.slice none 0 0) (Below.refl (w.heap.size + 1) wr) (Nat.le_refl _))
          go_wp2
          refine bodyPost_ret (results_cell_row rfl _ _ (w.heap.size + 1) 33 _ (0, 0) _ rfl HS.out.1 Try.underlying33 rfl (by kernel_rfl)) rfl ?_
          exact AnEnd.of HA.out (anEnd0 (mv_set4 HMV.out HK6.out))
end Go.Proofs.Ytoinjnocopejjaa

/- A transaction more; a number more in a task's row. -/
namespace Go.Proofs.Ytoinjnocopejjaa
open Go.ChangeShapes Go.WideShapes Go.ChangeAt Go.RowKit Go.Maps
set_option linter.unusedVariables false
set_option linter.unusedSimpArgs false
section
variable {W W' : World} {B p : Nat} {s : MS} {x : MX}
theorem MdAt.newTx (h : MdAt W B p s x) {v' : Value} {tx' : List (Int × Int)}
    (hk : ∀ k, k < W.heap.size → k ≠ p → x.tv.ownBlock ≠ some k → W'.heap[k]? = W.heap[k]?)
    (hb : Blk W' p (mdC s.cf s.clock s.floor v' x.tb s.tasks.length x.b).toArray 110)
    (ht : ROwn txE 2 W' B 112 v' tx'.length tx') (ok : OkM ⟨s.cf, s.clock, s.floor, tx', s.tasks, s.rows⟩) :
    MdAt W' B p ⟨s.cf, s.clock, s.floor, tx', s.tasks, s.rows⟩ { x with tv := v' } := by
  have hp : W.heap[p]? = some (.cells (mdC s.cf s.clock s.floor x.tv x.tb s.tasks.length x.b).toArray 110 (0, 0)) := h.blk
  have hne : ∀ (k : Nat) (c : Array Value) (t : TypeId), W.heap[k]? = some (.cells c t (0, 0)) → t ≠ 110 → t ≠ 112 → W'.heap[k]? = W.heap[k]? := fun k c t hc h1 h2 => by
    refine hk k (Array.getElem?_eq_some_iff.1 hc).1 (fun e => ?_) (fun e => ?_)
    · subst e
      rw [hp] at hc; simp only [Option.some.injEq, Obj.cells.injEq] at hc; exact h1 hc.2.1.symm
    · obtain ⟨cur, hc2⟩ := h.tx.tag k e
      rw [hc] at hc2; simp only [Option.some.injEq, Obj.cells.injEq] at hc2; exact h2 hc2.2.1
  refine ⟨h.hp, hb, ht, h.htb, (hne _ _ _ h.tb (by decide) (by decide)).trans h.tb, h.kl, fun i v l h1 h2 => ow_keep (h.num i v l h1 h2) (fun j hj => by obtain ⟨cur, hc⟩ := (h.num i v l h1 h2).tag j hj; exact hne _ _ _ hc (by decide) (by decide)), h.ap, h.hb, map_keep h.map ?_, h.rows, fun q hq => (h.ver q hq).keep (fun g cur hc => hne _ _ _ hc (by decide) (by decide)), ok⟩
  obtain ⟨es, cl', hb', _⟩ := h.map
  refine hk x.b (Array.getElem?_eq_some_iff.1 hb').1 (fun e => ?_) (fun e => ?_)
  · rw [e, hp] at hb'; cases hb'
  · obtain ⟨cur, hc2⟩ := h.tx.tag _ e
    rw [hb'] at hc2; cases hc2
theorem MdAt.newNum (h : MdAt W B p s x) {i : Nat} {v v' : Value} {l l' : List Int} (hv : x.kv[i]? = some v) (hl : s.tasks[i]? = some l)
    (hk : ∀ k, k < W.heap.size → k ≠ x.tb → v.ownBlock ≠ some k → W'.heap[k]? = W.heap[k]?)
    (hb : Blk W' x.tb (x.kv.set i v').toArray 85) (hn : Ow iE W' B 3 v' l'.length l')
    (hnew : ∀ j, v'.ownBlock = some j → v.ownBlock = some j ∨ W.heap.size ≤ j)
    (ok : OkM ⟨s.cf, s.clock, s.floor, s.txns, s.tasks.set i l', s.rows⟩) :
    MdAt W' B p ⟨s.cf, s.clock, s.floor, s.txns, s.tasks.set i l', s.rows⟩ { x with kv := x.kv.set i v' } := by
  have htb : W.heap[x.tb]? = some (.cells x.kv.toArray 85 (0, 0)) := h.tb
  have hne : ∀ (k : Nat) (c : Array Value) (t : TypeId), W.heap[k]? = some (.cells c t (0, 0)) → t ≠ 85 → t ≠ 3 → W'.heap[k]? = W.heap[k]? := fun k c t hc h1 h2 => by
    refine hk k (Array.getElem?_eq_some_iff.1 hc).1 (fun e => ?_) (fun e => ?_)
    · subst e
      rw [htb] at hc; simp only [Option.some.injEq, Obj.cells.injEq] at hc; exact h1 hc.2.1.symm
    · obtain ⟨cur, hc2⟩ := (h.num i v l hv hl).tag k e
      rw [hc] at hc2; simp only [Option.some.injEq, Obj.cells.injEq] at hc2; exact h2 hc2.2.1
  have hnum : ∀ {v2 : Value}, v2 ∈ x.kv → ∀ k, v2.ownBlock = some k → k < W.heap.size ∧ k ≠ x.tb := fun {v2} hm k hk2 => by
    obtain ⟨l2, n2, ho⟩ := h.num_of hm
    obtain ⟨cur, hc⟩ := ho.tag k hk2
    refine ⟨(Array.getElem?_eq_some_iff.1 hc).1, fun e => ?_⟩
    rw [e, htb] at hc; simp only [Option.some.injEq, Obj.cells.injEq] at hc; exact absurd hc.2.1 (by decide)
  have hdis : ∀ (a b : Nat) (va vb : Value), x.kv[a]? = some va → x.kv[b]? = some vb → a ≠ b → ∀ k : Nat, va.ownBlock = some k → vb.ownBlock ≠ some k := fun a b va vb ha hb' hab k h1 h2 => by
    have hp := List.pairwise_iff_getElem.1 h.ap
    obtain ⟨la, ea⟩ := List.getElem?_eq_some_iff.1 ha
    obtain ⟨lb, eb⟩ := List.getElem?_eq_some_iff.1 hb'
    rcases Nat.lt_or_gt_of_ne hab with hlt | hlt
    · exact hp a b la lb hlt k (by rw [ea]; exact h1) (by rw [eb]; exact h2)
    · exact hp b a lb la hlt k (by rw [eb]; exact h2) (by rw [ea]; exact h1)
  refine ⟨h.hp, ?_, h.tx.keepS (fun k e => by obtain ⟨cur, hc⟩ := h.tx.tag k e; exact hne _ _ _ hc (by decide) (by decide)), h.htb, hb, ?_, fun j v2 l2 h1 h2 => ?_, ?_, h.hb, map_keep h.map ?_, h.rows, fun q hq => (h.ver q hq).keep (fun g cur hc => hne _ _ _ hc (by decide) (by decide)), ok⟩
  · show Blk W' p (mdC s.cf s.clock s.floor x.tv x.tb (s.tasks.set i l').length x.b).toArray 110
    rw [List.length_set]
    exact (hne _ _ _ h.blk (by decide) (by decide)).trans h.blk
  · show (x.kv.set i v').length = (s.tasks.set i l').length
    rw [List.length_set, List.length_set]; exact h.kl
  · simp only at h1 h2
    by_cases e : j = i
    · subst e
      rw [List.getElem?_set_self (List.getElem?_eq_some_iff.1 hv).1] at h1
      rw [List.getElem?_set_self (List.getElem?_eq_some_iff.1 hl).1] at h2
      cases h1; cases h2; exact hn
    · rw [List.getElem?_set_ne (fun e2 => e e2.symm)] at h1 h2
      exact ow_keep (h.num j v2 l2 h1 h2) (fun k hk2 => by
        have := hnum (List.mem_of_getElem? h1) k hk2
        exact hk k this.1 this.2 (hdis j i v2 v h1 hv e k hk2))
  · refine List.pairwise_iff_getElem.2 (fun a b ha hb' hab k h1 h2 => ?_)
    simp only [List.length_set] at ha hb'
    have hi := (List.getElem?_eq_some_iff.1 hv).1
    have one : ∀ (c : Nat) (vc : Value), x.kv[c]? = some vc → c ≠ i → ∀ k : Nat, v'.ownBlock = some k → vc.ownBlock ≠ some k := fun c vc hc hci k e1 e2 => by
      rcases hnew k e1 with e3 | e3
      · exact hdis c i vc v hc hv hci k e2 e3
      · have := (hnum (List.mem_of_getElem? hc) k e2).1; omega
    by_cases ea : a = i
    · have eb : b ≠ i := by omega
      subst ea
      rw [List.getElem_set_self] at h1
      rw [List.getElem_set_ne (fun e => eb e.symm)] at h2
      exact one b _ (List.getElem?_eq_getElem (by omega)) eb k h1 h2
    · rw [List.getElem_set_ne (fun e => ea e.symm)] at h1
      by_cases eb : b = i
      · subst eb
        rw [List.getElem_set_self] at h2
        exact one a _ (List.getElem?_eq_getElem (by omega)) ea k h2 h1
      · rw [List.getElem_set_ne (fun e => eb e.symm)] at h2
        exact hdis a b _ _ (List.getElem?_eq_getElem (by omega)) (List.getElem?_eq_getElem (by omega)) (by omega) k h1 h2
  · obtain ⟨es, cl', hb', _⟩ := h.map
    refine hk x.b (Array.getElem?_eq_some_iff.1 hb').1 (fun e => ?_) (fun e => ?_)
    · rw [e, htb] at hb'; cases hb'
    · obtain ⟨cur, hc2⟩ := (h.num i v l hv hl).tag _ e
      rw [hb'] at hc2; cases hc2
theorem OkM.newTx (h : OkM s) (ha : (actN s.txns : Int) < s.cf.ac) : OkM ⟨s.cf, s.clock, s.floor, s.txns ++ [(1, s.clock)], s.tasks, s.rows⟩ := by
  have hl : (s.txns ++ [((1 : Int), s.clock)]).length = s.txns.length + 1 := by simp
  refine ⟨h.may, h.up, h.ret, h.keys, h.deep, h.ntask, ?_, fun p hp => ?_, ?_, h.clk, h.flo, ?_, h.dec, h.ksz⟩
  · intro l hm
    show _ ≤ (s.txns ++ [((1 : Int), s.clock)]).length ∧ ∀ n ∈ l, _ ∧ n ≤ ((s.txns ++ [((1 : Int), s.clock)]).length : Int)
    rw [hl]
    have := h.nums l hm
    exact ⟨by omega, fun n hn => by have := this.2 n hn; omega⟩
  · have := h.iw p hp
    refine ⟨this.1, ?_, this.2.2⟩
    show _ ≤ ((s.txns ++ [((1 : Int), s.clock)]).length : Int)
    rw [hl]; omega
  · show (actN (s.txns ++ [((1 : Int), s.clock)]) : Int) ≤ s.cf.ac
    unfold actN at ha ⊢
    rw [List.filter_append, List.length_append]
    simp only [List.filter_cons, List.filter_nil, decide_true, if_true, List.length_singleton]
    omega
  · intro p hp
    rcases List.mem_append.1 (show p ∈ s.txns ++ [((1 : Int), s.clock)] from hp) with h1 | h1
    · exact h.sn p h1
    · rw [List.mem_singleton] at h1
      have := h.clk
      show _ ∧ p.2 ≤ s.clock ∧ _
      subst h1; simp only; omega
end
end Go.Proofs.Ytoinjnocopejjaa

/- steps of begin. -/
namespace Go.Proofs.Ytoinjnocopejjaa
open Go.ChangeShapes Go.WideShapes Go.ChangeAt Go.RowKit Go.Maps
set_option linter.unusedVariables false
set_option linter.unusedSimpArgs false
set_option maxRecDepth 100000 in
set_option maxHeartbeats 16000000 in
theorem elemX : RElem txE 2 Try.prog 106 112 16 where
  und := Try.underlying106
  info := by
    have h : (Try.prog.info? 112).map (fun i => (i.zero, i.size, i.bytes)) = some (some (.agg #[.int .u8 0, .int .i64 0]), 2, 16) := by kernel_rfl
    cases hi : Try.prog.info? 112 with
    | none => rw [hi] at h; cases h
    | some i => rw [hi] at h; simp only [Option.map_some, Option.some.injEq, Prod.mk.injEq] at h; exact ⟨i, _, rfl, h.1, h.2.1, h.2.2, rfl⟩
  pos := by decide
  len := fun _ => rfl
  one := fun x u hu => by
    rcases List.mem_cons.1 hu with rfl | hu
    · rfl
    · rw [List.mem_singleton.1 hu]; rfl
set_option maxRecDepth 100000 in
set_option maxHeartbeats 16000000 in
theorem elemI : Elem Try.prog 85 3 iE 8 where
  und := Try.underlying85
  info := by
    have h : (Try.prog.info? 3).map (fun i => (i.zero, i.size, i.bytes)) = some (some (.int .i64 0), 1, 8) := by kernel_rfl
    cases hi : Try.prog.info? 3 with
    | none => rw [hi] at h; cases h
    | some i => rw [hi] at h; simp only [Option.map_some, Option.some.injEq, Prod.mk.injEq] at h; exact ⟨i, _, rfl, h.1, h.2.1, h.2.2, rfl⟩
  one := fun _ => rfl
section
variable {P : Program} {t e : TypeId} {bytes : Nat} {w : World} {o : Oper} {a : Act} {K : Act → World → Prop} {Q : Exit → Act → World → Prop} {α : Type}
theorem wp_append_row1 {enc : α → List Value} {k : Nat} (E : RElem enc k P t e bytes) (s x : Operand)
    (ho : o.op = .call { callee := .builtin .append, args := #[s, x], argTypes := #[t, t] })
    (B : Nat) (v : Value) (n : Nat) (xs : List α) (hs : a.eval s = v) (hown : ROwn enc k w B e v n xs)
    (g0 c : Nat) (y : α) (hx : a.eval x = .slice (some ⟨g0, 0, none⟩) 1 c) (hy : RSl enc k w (some ⟨g0, 0, none⟩) 1 [y]) (hb : n + 1 ≤ 1000000) (hbb : bytes ≤ 1000) (hbase : B ≤ w.heap.size)
    (h : ∀ A' c' w', ROwn enc k w' B e (.slice A' (n + 1) c') (n + 1) (xs ++ [y]) → w.grownBy w' v.ownBlock → (∀ j, (Value.slice A' (n + 1) c').ownBlock = some j → v.ownBlock = some j ∨ w.heap.size ≤ j) → n + 1 ≤ c' → K (a.put o.dst (.slice A' (n + 1) c')) w') : o.wp P a w K Q := by
  obtain ⟨i0, z, hi, hz0, hz1, hz2, hz3⟩ := E.info
  have hbt : (n + 1) * bytes ≤ 1000000 * 1000 := Nat.mul_le_mul hb hbb
  refine wp_append_lies w s x t ho B e i0 z k bytes E.und hi hz0 hz1 hz2 hz3 E.pos v n _ hs hown.2 ⟨g0, 0, none⟩ 1 c (rv enc [y]) hx (by rw [rv_len E.len]; rfl) (rs_cells E.len E.pos hy) (fun u hu => rv_one E.one [y] u hu) (by decide) (by unfold maxLen; omega) (by omega) hbase w.heap.size rfl (fun g cap w' h1 h2 h3 _ => ?_)
  have ho2 : ROwn enc k w' B e (.slice (some ⟨g, 0, none⟩) (n + 1) cap) (n + 1) (xs ++ [y]) := ⟨by rw [List.length_append, hown.1]; rfl, by rw [rv_app]; exact h1⟩
  obtain ⟨_, _, e2, hl, _⟩ := ho2.sl
  cases e2
  refine h _ _ _ ho2 h2 (fun j e => ?_) hl
  have e3 : j = g := by simpa [Value.ownBlock] using e.symm
  subst e3
  rcases h3 with h3 | h3
  · exact .inl h3
  · exact .inr (by omega)
theorem wp_append_sl1 {enc : α → Value} (E : Elem P t e enc bytes) (s x : Operand)
    (ho : o.op = .call { callee := .builtin .append, args := #[s, x], argTypes := #[t, t] })
    (B : Nat) (v : Value) (n : Nat) (xs : List α) (hs : a.eval s = v) (hown : Ow enc w B e v n xs)
    (g0 c : Nat) (y : α) (hx : a.eval x = .slice (some ⟨g0, 0, none⟩) 1 c) (hy : Sl enc w (some ⟨g0, 0, none⟩) 1 c [y]) (hb : n + 1 ≤ 1000000) (hbb : bytes ≤ 1000) (hbase : B ≤ w.heap.size)
    (h : ∀ A' c' w', Ow enc w' B e (.slice A' (n + 1) c') (n + 1) (xs ++ [y]) → w.grownBy w' v.ownBlock → (∀ j, (Value.slice A' (n + 1) c').ownBlock = some j → v.ownBlock = some j ∨ w.heap.size ≤ j) → K (a.put o.dst (.slice A' (n + 1) c')) w') : o.wp P a w K Q := by
  obtain ⟨i0, z, hi, hz0, hz1, hz2, hz3⟩ := E.info
  have hbt : (n + 1) * bytes ≤ 1000000 * 1000 := Nat.mul_le_mul hb hbb
  refine wp_append_lies w s x t ho B e i0 z 1 bytes E.und hi hz0 hz1 hz2 hz3 (by decide) v n _ hs hown ⟨g0, 0, none⟩ 1 c ([y].map enc) hx rfl (hy.rd.cells rfl) (fun u hu => by obtain ⟨y, _, rfl⟩ := List.mem_map.1 hu; exact E.one y) (by decide) (by unfold maxLen; omega) (by omega) hbase w.heap.size rfl (fun g cap w' h1 h2 h3 _ => ?_)
  refine h _ _ _ (by unfold Ow; rw [List.map_append]; exact h1) h2 (fun j e => ?_)
  have e3 : j = g := by simpa [Value.ownBlock] using e.symm
  subst e3
  rcases h3 with h3 | h3
  · exact .inl h3
  · exact .inr (by omega)
end
theorem Blk.rsl1 {W : World} {g : Nat} {st sn : Int} (h : Blk W g #[.int .u8 st, .int .i64 sn] 112) : RSl txE 2 W (some ⟨g, 0, none⟩) 1 [(st, sn)] := by
  refine ⟨rfl, fun _ => ⟨g, 0, rfl, h.lt, fun j x hx i hi => ?_⟩⟩
  match j, hx with
  | 0, hx =>
    simp only [List.getElem?_cons_zero, Option.some.injEq] at hx
    subst hx
    simp only [Nat.zero_mul, Nat.zero_add]
    match i, hi with
    | 0, _ => rw [h.cell]; rfl
    | 1, _ => rw [h.cell]; rfl
  | j + 1, hx => simp at hx
theorem MdAt.begun {W W6 : World} {B p : Nat} {s : MS} {x : MX} (h : MdAt W B p s x) {v : Value} {L : List (Int × Int)} {n1 : Nat} (hL : L.length = n1) (ho : ROwn txE 2 W6 B 112 v n1 L) (hg : W.grownBy W6 x.tv.ownBlock) (ok : OkM ⟨s.cf, s.clock, s.floor, L, s.tasks, s.rows⟩) :
    MdAt (W6.setCell ⟨p, 10, none⟩ v) B p ⟨s.cf, s.clock, s.floor, L, s.tasks, s.rows⟩ { x with tv := v } ∧ FrS W (W6.setCell ⟨p, 10, none⟩ v) (MxS p x) ∧ Blk W6 p (mdC s.cf s.clock s.floor x.tv x.tb s.tasks.length x.b).toArray 110 := by
  have hp6 : Blk W6 p (mdC s.cf s.clock s.floor x.tv x.tb s.tasks.length x.b).toArray 110 := h.blk.grown hg (fun e => by
    obtain ⟨cur, hc⟩ := h.tx.tag p e.symm
    have hp := h.blk
    unfold Blk at hp
    rw [hp] at hc; simp only [Option.some.injEq, Obj.cells.injEq] at hc; exact absurd hc.2.1 (by decide))
  subst hL
  refine ⟨h.newTx (fun k hk h1 h2 => (Below.heap_setCell W6 ⟨p, 10, none⟩ v k h1).trans (hg.block k hk (fun e => h2 e.symm))) (hp6.set (j := 10) v) (ho.keepS (fun j hj => Below.heap_setCell W6 ⟨p, 10, none⟩ v j (fun e => by
    subst e
    obtain ⟨cur, hc⟩ := ho.tag _ hj
    unfold Blk at hp6
    rw [hp6] at hc; simp only [Option.some.injEq, Obj.cells.injEq] at hc; exact absurd hc.2.1 (by decide)))) ok, ?_, hp6⟩
  exact (FrS.of_grown hg (fun k e => .inr (.inl e))).trans (FrS.head W6 p 10 x v) (fun i hi => .inl hi)
theorem MdAt.numbered {W W6 : World} {B p : Nat} {s : MS} {x : MX} (h : MdAt W B p s x) {i : Nat} {v0 v : Value} {l L : List Int} {n1 : Nat} (hv : x.kv[i]? = some v0) (hl : s.tasks[i]? = some l) (hL : L.length = n1) (ho : Ow iE W6 B 3 v n1 L) (hg : W.grownBy W6 v0.ownBlock) (hnew : ∀ j, v.ownBlock = some j → v0.ownBlock = some j ∨ W.heap.size ≤ j) (ok : OkM ⟨s.cf, s.clock, s.floor, s.txns, s.tasks.set i L, s.rows⟩) :
    MdAt (W6.setCell ⟨x.tb, i, none⟩ v) B p ⟨s.cf, s.clock, s.floor, s.txns, s.tasks.set i L, s.rows⟩ { x with kv := x.kv.set i v } ∧ FrS W (W6.setCell ⟨x.tb, i, none⟩ v) (MxS p x) ∧ Blk W6 x.tb x.kv.toArray 85 := by
  have ht6 : Blk W6 x.tb x.kv.toArray 85 := h.tb.grown hg (fun e => by
    obtain ⟨cur, hc⟩ := (h.num i v0 l hv hl).tag x.tb e.symm
    have hp := h.tb
    unfold Blk at hp
    rw [hp] at hc; simp only [Option.some.injEq, Obj.cells.injEq] at hc; exact absurd hc.2.1 (by decide))
  subst hL
  refine ⟨h.newNum hv hl (fun k hk h1 h2 => (Below.heap_setCell W6 ⟨x.tb, i, none⟩ v k h1).trans (hg.block k hk (fun e => h2 e.symm))) (by have := ht6.set (j := i) v; simpa using this) (ow_keep ho (fun j hj => Below.heap_setCell W6 ⟨x.tb, i, none⟩ v j (fun e => by
    subst e
    obtain ⟨cur, hc⟩ := ho.tag _ hj
    unfold Blk at ht6
    rw [ht6] at hc; simp only [Option.some.injEq, Obj.cells.injEq] at hc; exact absurd hc.2.1 (by decide)))) hnew ok, ?_, ht6⟩
  exact (FrS.of_grown hg (fun k e => .inr (.inr (.inr (.inl ⟨v0, List.mem_of_getElem? hv, e⟩))))).trans (FrS.of_grown (grown_set W6 x.tb i v) (fun k e => by cases e; exact .inr (.inr (.inl rfl)))) (fun i hi => .inl hi)
end Go.Proofs.Ytoinjnocopejjaa
