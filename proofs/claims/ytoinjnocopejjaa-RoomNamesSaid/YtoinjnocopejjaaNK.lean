/- NK, NL, NM in one. -/
import Derived.Test.YtoinjnocopejjaaNG
import Derived.Test.YtoinjnocopejjaaNF
import Derived.Test.YtoinjnocopejjaaNA
import Derived.StillTailTactics
/- end with the closure of commit. -/
namespace Go.Proofs.Ytoinjnocopejjaa
open Go.ChangeShapes Go.WideShapes Go.ChangeAt Go.RowKit Go.Maps
set_option linter.unusedVariables false
set_option linter.unusedSimpArgs false
set_option maxRecDepth 100000 in
set_option maxHeartbeats 16000000 in
theorem end_comm (B p : Nat) (s : MS) (S : Nat → Prop) (v st bx : Nat) (B0 : Nat) (vk : Value) (w : World) (h : MR w B p s S) (hv : 1 ≤ v) (hvl : v ≤ s.txns.length) (hn : s.txns.length ≤ 100000) (hst : st = 3 ∨ st = 4) (hk : Ow sE w B0 9 vk (intK (v : Int) s.rows).length (intK (v : Int) s.rows)) (hbx : Blk w bx #[.pointer (some ⟨p, 0, none⟩)] 22)
    (hfs : ∀ q ∈ s.rows, q.2.2.w = (v : Int) → (retR ((fun r : Rw => (({ r.2 with ts := s.clock } :: r.1, ver0) : Rw)) q.2) : Int) ≤ s.cf.de ∧ (0 ≤ ((fun r : Rw => (({ r.2 with ts := s.clock } :: r.1, ver0) : Rw)) q.2).2.w ∧ ((fun r : Rw => (({ r.2 with ts := s.clock } :: r.1, ver0) : Rw)) q.2).2.w ≤ s.txns.length ∧ (((fun r : Rw => (({ r.2 with ts := s.clock } :: r.1, ver0) : Rw)) q.2).2.w = 0 → ((fun r : Rw => (({ r.2 with ts := s.clock } :: r.1, ver0) : Rw)) q.2).2 = ver0) ∧ ((fun r : Rw => (({ r.2 with ts := s.clock } :: r.1, ver0) : Rw)) q.2).2.ts = 0) ∧ Dec s.clock ((fun r : Rw => (({ r.2 with ts := s.clock } :: r.1, ver0) : Rw)) q.2).1) :
    Calls Try.prog 83 #[.pointer (some ⟨p, 0, none⟩), .int .i64 (v : Int), .int .u8 (st : Int), vk, .func (.func 85) #[] #[.pointer (some ⟨bx, 0, none⟩)]] w (NoEnd (endM s (v : Int) (st : Int) (fun r => if r.2.w = (v : Int) then (fun r : Rw => (({ r.2 with ts := s.clock } :: r.1, ver0) : Rw)) r else r)) B p S w) := by
  have hok := h.ok
  obtain ⟨x, h, rfl⟩ := h
  obtain ⟨A, c, rfl, hs⟩ := hk.sl
  have HKS : Hid (∀ q ∈ s.rows, q.1.size ≤ maxLen) := Lib.hid (fun q hq => by have := hok.ksz q hq; unfold maxLen; omega)
  have hnd : (intK (v : Int) s.rows).Nodup := by unfold intK; exact up_nodup (List.Pairwise.filter _ hok.up)
  have hin : ∀ k ∈ intK (v : Int) s.rows, hasK s.rows k = true := fun k hk' => by
    obtain ⟨r, h1, _⟩ := mem_intK.1 hk'
    exact has_iff.2 ⟨r, h1⟩
  have hi64 : (intK (v : Int) s.rows).length ≤ 64 := by have := intK_le (v : Int) s.rows; have := hok.keys; have := may_lo hok.may; omega
  have HF : Hid (foldS (fun r : Rw => (({ r.2 with ts := s.clock } :: r.1, ver0) : Rw)) s.rows (intK (v : Int) s.rows) = mapR (fun r => if r.2.w = (v : Int) then (fun r : Rw => (({ r.2 with ts := s.clock } :: r.1, ver0) : Rw)) r else r) s.rows) := Lib.hid (foldS_int hok.up hok.ret (v : Int))
  obtain ⟨tx, htx⟩ : ∃ tx, s.txns.set ((v : Int) - 1).toNat ((st : Int), snW s (v : Int)) = tx := ⟨_, rfl⟩
  have HTX := Lib.hid htx
  have HOKJ : Hid (∀ k, OkM ⟨s.cf, s.clock, s.floor, tx, s.tasks, foldS (fun r : Rw => (({ r.2 with ts := s.clock } :: r.1, ver0) : Rw)) s.rows ((intK (v : Int) s.rows).take k)⟩) := Lib.hid (fun k => hok.fold ⟨Int.le_refl _, hok.clk.2⟩ hok.flo (by rw [← htx]; exact List.length_set ..) (by rw [← htx]; exact actN_set (by simp only; omega)) (by rw [← htx]; exact hok.endTx (Int.le_refl _) (by omega)) (nodup_take hnd k) (fun k' hk' => hin k' (List.mem_of_mem_take hk')) (fun q hq hqk => by
    obtain ⟨r, h1, h2⟩ := mem_intK.1 (List.mem_of_mem_take hqk)
    have e : r = q.2 := (get_of_mem (d := rw0) hok.up h1).symm.trans (get_of_mem (d := rw0) hok.up hq)
    exact hfs q hq (e ▸ h2)))
  have HGET : Hid (∀ k key, (intK (v : Int) s.rows)[k]? = some key → getK rw0 (foldS (fun r : Rw => (({ r.2 with ts := s.clock } :: r.1, ver0) : Rw)) s.rows ((intK (v : Int) s.rows).take k)) key = getK rw0 s.rows key ∧ (key, getK rw0 s.rows key) ∈ s.rows ∧ (getK rw0 s.rows key).2.w = (v : Int)) := Lib.hid (fun k key hk' => ⟨foldS_get hok.up (nodup_take hnd k) (fun k' h' => hin k' (List.mem_of_mem_take h')) (not_mem_take hnd hk'), get_mem (hin key (List.mem_of_getElem? hk')), by
    obtain ⟨r, h1, h2⟩ := mem_intK.1 (List.mem_of_getElem? hk')
    have e : getK rw0 s.rows key = r := get_of_mem hok.up h1
    rw [e]; exact h2⟩)
  have HSN : Hid (∀ k key, (intK (v : Int) s.rows)[k]? = some key → foldS (fun r : Rw => (({ r.2 with ts := s.clock } :: r.1, ver0) : Rw)) s.rows ((intK (v : Int) s.rows).take (k + 1)) = setR (foldS (fun r : Rw => (({ r.2 with ts := s.clock } :: r.1, ver0) : Rw)) s.rows ((intK (v : Int) s.rows).take k)) key ((fun r : Rw => (({ r.2 with ts := s.clock } :: r.1, ver0) : Rw)) (getK rw0 (foldS (fun r : Rw => (({ r.2 with ts := s.clock } :: r.1, ver0) : Rw)) s.rows ((intK (v : Int) s.rows).take k)) key))) := Lib.hid (fun k key hk' => by rw [List.take_add_one, hk']; exact foldS_snoc ..)
  have HAF : Hid (foldS (fun r : Rw => (({ r.2 with ts := s.clock } :: r.1, ver0) : Rw)) s.rows ((intK (v : Int) s.rows).take (intK (v : Int) s.rows).length) = foldS (fun r : Rw => (({ r.2 with ts := s.clock } :: r.1, ver0) : Rw)) s.rows (intK (v : Int) s.rows)) := Lib.hid (by rw [List.take_length])
  have HA0 : Hid (foldS (fun r : Rw => (({ r.2 with ts := s.clock } :: r.1, ver0) : Rw)) s.rows ((intK (v : Int) s.rows).take 0) = s.rows) := Lib.hid (by rw [List.take_zero]; rfl)
  obtain ⟨n, hnl⟩ : ∃ n, (intK (v : Int) s.rows).length = n := ⟨_, rfl⟩
  rw [hnl] at hs hk hi64 HAF ⊢
  generalize hI : intK (v : Int) s.rows = I at *
  -- the row of transactions
  obtain ⟨N, hN⟩ : ∃ N, s.txns.length = N := ⟨_, rfl⟩
  obtain ⟨At, ct, etv, hct, hr⟩ := h.txr
  have k10 := h.c0 10
  simp only [mdC, List.getElem?_cons_succ, List.getElem?_cons_zero] at k10
  rw [etv, hN] at k10
  rcases h.tx.2.2 with ⟨e0, e1⟩ | ⟨g, cap, cur, e0, hB, hg, hnc, hmx, hsz, htk⟩
  · exfalso; omega
  rw [etv] at e0
  simp only [Value.slice.injEq] at e0
  obtain ⟨rfl, _, rfl⟩ := e0
  have hown : x.tv.ownBlock = some g := by rw [etv]; rfl
  have hvx : s.txns[v - 1]? = some (s.txns[v - 1]'(by omega)) := List.getElem?_eq_getElem _
  obtain ⟨⟨o, sn⟩, hosn⟩ : ∃ q, s.txns[v - 1]'(by omega) = q := ⟨_, rfl⟩
  rw [hosn] at hvx
  have hsn : snW s (v : Int) = sn := snW_at hv hvx
  have q0 : w.cell? ⟨g, (v - 1) * 2, none⟩ = some (.int .u8 o) := by
    obtain ⟨g2, off2, e2, hg2, hc2⟩ := hr.2 (by omega)
    simp only [Option.some.injEq, Addr.mk.injEq] at e2
    obtain ⟨rfl, rfl, _⟩ := e2
    have := hc2 (v - 1) _ hvx 0 (by decide)
    rw [Nat.zero_add, Nat.add_zero] at this
    exact this
  have fq0 : w.frozen? ⟨g, (v - 1) * 2, none⟩ = false := Blk.frozen (t := 112) hg _
  have i3 := idx106 g 0 N ct (v - 1) ((v : Int) - 1) (by omega) (by omega)
  rw [Nat.zero_add] at i3
  have wj : wrap64 ((v : Int) - 1) = (v : Int) - 1 := by unfold wrap64; omega
  have wj2 : IntKind.i64.wrap ((v : Int) - 1) = (v : Int) - 1 := IntWalk.i64_in _ (by omega)
  -- the world behind the store
  obtain ⟨w1, hw1⟩ : ∃ w1, w.setCell ⟨g, (v - 1) * 2, none⟩ (.int .u8 (st : Int)) = w1 := ⟨_, rfl⟩
  have hf1 : FrS w w1 (MxS p x) := by rw [← hw1]; exact FrS.of_grown (grown_set w g _ _) (fun k e => by cases e; exact .inr (.inl hown))
  have htags := h.tags
  have hM1 : MdAt w1 B p ⟨s.cf, s.clock, s.floor, tx, s.tasks, s.rows⟩ x := by
    have hoth : ∀ k, k ≠ g → w1.heap[k]? = w.heap[k]? := fun k hk' => by rw [← hw1]; exact Below.heap_setCell w ⟨g, (v - 1) * 2, none⟩ _ k hk'
    have hgt : ∀ (k : Nat) (c : Array Value) (t : TypeId), Blk w k c t → t ≠ 112 → k ≠ g := fun k c t hk' ht e => by
      subst e
      have hk2 : w.heap[k]? = some (.cells c t (0, 0)) := hk'
      rw [hg] at hk2; simp only [Option.some.injEq, Obj.cells.injEq] at hk2; exact ht hk2.2.1.symm
    have hlen : tx.length = s.txns.length := by rw [← htx]; exact List.length_set ..
    refine ⟨h.hp, ?_, ?_, h.htb, (hoth _ (hgt _ _ _ h.tb (by decide))).trans h.tb, h.kl, fun i v' l h1 h2 => ow_keep (h.num i v' l h1 h2) (fun j hj => hoth j (fun e => by
      obtain ⟨cur', hc'⟩ := (h.num i v' l h1 h2).tag j hj
      exact hgt _ _ _ hc' (by decide) e)), h.ap, h.hb, map_keep h.map (hoth _ (fun e => by
      obtain ⟨es, cl, hb', _⟩ := h.map
      rw [e, hg] at hb'; cases hb')), h.rows, fun q hq => (h.ver q hq).keep (fun g' cur' hc' => hoth g' (hgt _ _ _ hc' (by decide))), by have := HOKJ.out 0; rw [HA0.out] at this; exact this⟩
    · show Blk w1 p (mdC s.cf s.clock s.floor x.tv x.tb s.tasks.length x.b).toArray 110
      exact (hoth _ (hgt _ _ _ h.blk (by decide))).trans h.blk
    · show ROwn txE 2 w1 B 112 x.tv tx.length tx
      rw [hlen, ← htx, show ((v : Int) - 1).toNat = v - 1 from by omega, hsn, ← hw1]
      exact h.tx.set1 hown hvx
  have HMV1 : Hid (Mv ⟨s.cf, s.clock, s.floor, tx, s.tasks, foldS (fun r : Rw => (({ r.2 with ts := s.clock } :: r.1, ver0) : Rw)) s.rows (I.take 0)⟩ B p (MxS p x) w w1) := Lib.hid (by rw [HA0.out]; exact ⟨_, ⟨x, hM1, rfl⟩, hf1, fun k e => .inl e⟩)
  have HO1 := Lib.hid (hk.frS hf1 (fun k e _ => htags k e) (by decide) (by decide) (by decide) (by decide))
  have HLT : Hid (∀ k, MxS p x k → TagM w k ∧ k < w.heap.size) := Lib.hid (fun k e => ⟨htags k e, (h.lt k e).2⟩)
  have HI := Lib.hid hnl
  have HI64 := Lib.hid hi64
  have HSZ1 : Hid (w.heap.size ≤ w1.heap.size) := Lib.hid hf1.size
  have HBX1 : Hid (Blk w1 bx #[.pointer (some ⟨p, 0, none⟩)] 22) := Lib.hid (hf1.blk hbx (fun e => (htags _ e).not hbx (by decide) (by decide) (by decide) (by decide)))
  have HN8 : Hid (∀ q ∈ s.rows, q.2.2.w = (v : Int) → q.2.1.length + 1 ≤ 8) := Lib.hid (fun q hq hw => by
    have h1 := (hfs q hq hw).1
    have h2 := may_lo hok.may
    have e : retR ((fun r : Rw => (({ r.2 with ts := s.clock } :: r.1, ver0) : Rw)) q.2) = q.2.1.length + 1 := by simp [retR, ver0]
    rw [e] at h1
    omega)
  clear hbx
  clear hok h hs hk hnd hin hi64 htx hI hN hct hr etv hB hg hnc hmx hsz htk hown hvx hosn hsn hf1 htags hM1 hnl hv hvl hn hst hfs
  unfold endM
  rw [HTX.out, ← HF.out]
  clear HTX HF
  go_enter Try.func83, Try.ntmps83
  go_wp2

  try rw [hw1]
  clear hw1 q0 fq0 k10 i3 wj wj2
  go_loopw [23] (fun i W => ∃ (k : Nat), k ≤ n ∧ i = .int .i64 k ∧ Mv ⟨s.cf, s.clock, s.floor, tx, s.tasks, foldS (fun r : Rw => (({ r.2 with ts := s.clock } :: r.1, ver0) : Rw)) s.rows (I.take k)⟩ B p (MxS p x) w W ∧ Ow sE W B0 9 (.slice A n c) n I ∧ Blk W bx #[.pointer (some ⟨p, 0, none⟩)] 22) (fun i _ => n - (intOf i).toNat)
  case atStart => exact ⟨0, Nat.zero_le _, rfl, HMV1.out, HO1.out, HBX1.out⟩
  case round =>
    obtain ⟨k, hk, rfl, hmv, ho, hbx⟩ := hrel
    have HMV := Lib.hid hmv
    have HO := Lib.hid ho
    have HBX := Lib.hid hbx
    clear HBX1 hbx
    clear HMV1 HO1
    by_cases hlt : k < n
    · have d2 : decide ((k : Int) < (n : Int)) = true := decide_eq_true (by omega)
      have wk : IntKind.i64.wrap ((k : Int) + 1) = (k : Int) + 1 := IntWalk.i64_in _ (by have := HI64.out; omega)
      have hsl : Sl sE wr A n c I := by
        obtain ⟨A2, c2, e2, hs2⟩ := ho.sl
        cases e2; exact hs2
      obtain ⟨gk, off, rfl, hgk, hcell⟩ := hsl.rd.2 (by omega)
      have hrk : I[k]? = some (I[k]'(by rw [HI.out]; exact hlt)) := List.getElem?_eq_getElem _
      generalize I[k]'(by rw [HI.out]; exact hlt) = key at *
      have y1 := hcell k key hrk
      have i1 := idx40 gk off n c k (k : Int) rfl hlt
      have HGK := Lib.hid (HGET.out k key hrk)
      have HSK := Lib.hid (HSN.out k key hrk)
      have HKZ := Lib.hid (HKS.out _ (HGET.out k key hrk).2.1)
      obtain ⟨S1, ⟨x1, hm1, rfl⟩, hfr1, hsub1⟩ := hmv
      have k12 := hm1.c0 12
      simp only [mdC, List.getElem?_cons_succ, List.getElem?_cons_zero] at k12
      have hlk := hm1.look0 key HKZ.out
      have hgr := hm1.getR key
      have hat := hm1.hdAt key
      obtain ⟨hd, hq0⟩ : ∃ hd, hdG x1 key = hd := ⟨_, rfl⟩
      rw [hq0] at hlk hgr hat
      have HGR : Hid (hdR hd = getK rw0 (foldS (fun r : Rw => (({ r.2 with ts := s.clock } :: r.1, ver0) : Rw)) s.rows (I.take k)) key) := Lib.hid hgr.symm
      have HAT := Lib.hid hat
      have HM1 := Lib.hid hm1
      have HFR1 := Lib.hid hfr1
      have HSB1 := Lib.hid hsub1
      clear hcell hrk hm1 hgr hat hfr1 hsub1 hq0 hgk hsl ho
      obtain ⟨A2, n2, c2, L2, ⟨iw, its, itm, iv⟩⟩ := hd
      unfold sE at y1
      have HCC : Hid (Calls Try.prog 85 #[rowV ⟨A2, n2, c2, L2, ⟨iw, its, itm, iv⟩⟩, .pointer (some ⟨bx, 0, none⟩)] wr (RwEnd ({ (hdR ⟨A2, n2, c2, L2, ⟨iw, its, itm, iv⟩⟩).2 with ts := s.clock } :: (hdR ⟨A2, n2, c2, L2, ⟨iw, its, itm, iv⟩⟩).1, ver0) wr)) := Lib.hid (comm_any B p bx ⟨s.cf, s.clock, s.floor, tx, s.tasks, foldS (fun r : Rw => (({ r.2 with ts := s.clock } :: r.1, ver0) : Rw)) s.rows (I.take k)⟩ _ ⟨A2, n2, c2, L2, ⟨iw, its, itm, iv⟩⟩ wr ⟨x1, HM1.out, rfl⟩ HBX.out HAT.out (by
        have h1 := HN8.out _ HGK.out.2.1 HGK.out.2.2
        have h2 : L2 = (getK rw0 s.rows key).1 := by have := congrArg Prod.fst (HGR.out.trans HGK.out.1); exact this
        have h3 : L2.length = n2 := HAT.out.1.1
        simp only at h1
        rw [← h2, h3] at h1
        exact h1))
      unfold rowV at hlk HCC
      simp only at hlk HCC
      go_wp2_with fail
      refine HCC.out.mono ?_
      rintro e w4 ⟨hd2, rfl, hr2, hat2, hb⟩
      have HR2 : Hid (hdR hd2 = (fun r : Rw => (({ r.2 with ts := s.clock } :: r.1, ver0) : Rw)) (getK rw0 (foldS (fun r : Rw => (({ r.2 with ts := s.clock } :: r.1, ver0) : Rw)) s.rows (I.take k)) key)) := Lib.hid (by rw [hr2, ← HGR.out])
      have HM4 := Lib.hid (HM1.out.later hb)
      have HFR4 := Lib.hid (HFR1.out.trans (FrS.of_below hb (S := fun _ => False)) (fun i hi => hi.elim))
      have HO4 := Lib.hid (HO.out.later hb)
      have HAT2 := Lib.hid hat2
      have HBX4 := Lib.hid (HBX.out.later hb)
      clear HBX
      clear hr2 hat2 hb HCC HM1 HFR1 HO HAT HGR HMV hlk k12 y1
      have HOK2 : Hid (OkM { (⟨s.cf, s.clock, s.floor, tx, s.tasks, foldS (fun r : Rw => (({ r.2 with ts := s.clock } :: r.1, ver0) : Rw)) s.rows (I.take k)⟩ : MS) with rows := setR (foldS (fun r : Rw => (({ r.2 with ts := s.clock } :: r.1, ver0) : Rw)) s.rows (I.take k)) key (hdR hd2) }) := Lib.hid (by rw [HR2.out, ← HSK.out]; exact HOKJ.out (k + 1))
      have HCS := Lib.hid (set_any B p ⟨s.cf, s.clock, s.floor, tx, s.tasks, foldS (fun r : Rw => (({ r.2 with ts := s.clock } :: r.1, ver0) : Rw)) s.rows (I.take k)⟩ _ key hd2 w4 ⟨x1, HM4.out, rfl⟩ HKZ.out HAT2.out HOK2.out)
      have HST : Hid (({ (⟨s.cf, s.clock, s.floor, tx, s.tasks, foldS (fun r : Rw => (({ r.2 with ts := s.clock } :: r.1, ver0) : Rw)) s.rows (I.take k)⟩ : MS) with rows := setR (foldS (fun r : Rw => (({ r.2 with ts := s.clock } :: r.1, ver0) : Rw)) s.rows (I.take k)) key (hdR hd2) }) = (⟨s.cf, s.clock, s.floor, tx, s.tasks, foldS (fun r : Rw => (({ r.2 with ts := s.clock } :: r.1, ver0) : Rw)) s.rows (I.take (k + 1))⟩ : MS)) := Lib.hid (by rw [HR2.out, ← HSK.out])
      rw [HST.out] at HCS
      clear HOK2 HST HAT2 HR2
      obtain ⟨A3, n3, c3, L3, ⟨jw, jts, jtm, jv⟩⟩ := hd2
      unfold rowV at HCS ⊢
      simp only at HCS ⊢
      go_wp2_with fail
      refine HCS.out.mono ?_
      rintro e w5 ⟨rfl, hmv5⟩
      have HMV5 : Hid (Mv ⟨s.cf, s.clock, s.floor, tx, s.tasks, foldS (fun r : Rw => (({ r.2 with ts := s.clock } :: r.1, ver0) : Rw)) s.rows (I.take (k + 1))⟩ B p (MxS p x) w w5) := Lib.hid (by
        obtain ⟨S5, a1, a2, a3⟩ := hmv5
        refine ⟨S5, a1, HFR4.out.trans a2 HSB1.out, fun j hj => ?_⟩
        rcases a3 j hj with e | e
        · exact HSB1.out j e
        · exact .inr (Nat.le_trans HFR4.out.size e))
      have HTG : Hid (∀ j, MxS p x1 j → j < w4.heap.size → TagM w4 j) := Lib.hid (fun j hj _ => HM4.out.tags j hj)
      have HO5 := Lib.hid (HO4.out.frS hmv5.choose_spec.2.1 HTG.out (by decide) (by decide) (by decide) (by decide))
      have HBX5 := Lib.hid (hmv5.choose_spec.2.1.blk HBX4.out (fun e => (HM4.out.tags _ e).not HBX4.out (by decide) (by decide) (by decide) (by decide)))
      clear HBX4
      clear hmv5 HCS HO4 HM4 HFR4 HSB1
      go_wp2
      go_roundw
      case rel => exact ⟨k + 1, by omega, rfl, HMV5.out, HO5.out, HBX5.out⟩
      case measure => simp [intOf]; omega
    · have d2 : decide ((k : Int) < (n : Int)) = false := decide_eq_false (by omega)
      obtain rfl : k = n := by omega
      have HMVE := Lib.hid hmv
      rw [HAF.out] at HMVE
      clear hmv ho
      go_wp2
      exact bodyPost_end (results_none rfl _ _ _) rfl ⟨rfl, HMVE.out⟩
end Go.Proofs.Ytoinjnocopejjaa

/- abort, migrate. -/
namespace Go.Proofs.Ytoinjnocopejjaa
open Go.ChangeShapes Go.WideShapes Go.ChangeAt Go.RowKit Go.Maps
set_option linter.unusedVariables false
set_option linter.unusedSimpArgs false
theorem OkM.dropF {s : MS} (h : OkM s) (v : Int) : ∀ q ∈ s.rows, q.2.2.w = v → (retR ((fun r : Rw => ((r.1, ver0) : Rw)) q.2) : Int) ≤ s.cf.de ∧ (0 ≤ ((fun r : Rw => ((r.1, ver0) : Rw)) q.2).2.w ∧ ((fun r : Rw => ((r.1, ver0) : Rw)) q.2).2.w ≤ s.txns.length ∧ (((fun r : Rw => ((r.1, ver0) : Rw)) q.2).2.w = 0 → ((fun r : Rw => ((r.1, ver0) : Rw)) q.2).2 = ver0) ∧ ((fun r : Rw => ((r.1, ver0) : Rw)) q.2).2.ts = 0) ∧ Dec s.clock ((fun r : Rw => ((r.1, ver0) : Rw)) q.2).1 := fun q hq _ => by
  have hd := h.deep q hq
  have e : retR (q.2.1, ver0) = q.2.1.length := by simp [retR, ver0]
  have e2 : q.2.1.length ≤ retR q.2 := by unfold retR; split <;> omega
  refine ⟨?_, ⟨Int.le_refl _, Int.natCast_nonneg _, fun _ => rfl, rfl⟩, h.dec q hq⟩
  show (retR (q.2.1, ver0) : Int) ≤ _
  rw [e]; omega
set_option maxRecDepth 100000 in
set_option maxHeartbeats 16000000 in
theorem abort_any (B p : Nat) (s : MS) (S : Nat → Prop) (t : Int) (tx li : Int) (ke en va : ByteArray) (kn eg : Nat) (w : World) (h : MR w B p s S) (h0 : refM s t (kn, tx, ke, en, va, li, eg) = 0) (hkn : kn = 7) (hn : s.txns.length ≤ 100000) (hx : COk (kn, tx, ke, en, va, li, eg)) : Calls Try.prog 58 #[.pointer (some ⟨p, 0, none⟩), .int .i64 t, .agg #[.int .u8 (kn : Int), .int .i64 tx, .string ke, .string en, .string va, .int .i64 li, .int .u8 (eg : Int)]] w (AnEnd (actM s t (txW s t tx) (kn, tx, ke, en, va, li, eg)).2 (actM s t (txW s t tx) (kn, tx, ke, en, va, li, eg)).1 B p S w) := by
  obtain ⟨x, h, rfl⟩ := h
  obtain ⟨_, _, hnm, hfit, _⟩ := refM_0 h0
  have hv := (hnm (named_of (by simp only; omega))).1
  simp only at hv
  obtain ⟨i, k, g, off, l, c, v, rfl, htx, hil, hkl, hkb, ct, cv, htv, hv1, hv2⟩ := h.wr hn hv
  have HX := Lib.hid hx
  have HN := Lib.hid hn
  have HV := Lib.hid (And.intro hv1 hv2)
  rw [htv]
  obtain ⟨R, hR⟩ : ∃ R, actM s (i : Int) (v : Int) (kn, tx, ke, en, va, li, eg) = R := ⟨_, rfl⟩
  have HR := Lib.hid hR
  rw [hR]
  clear hR
  have hb2 : Below w.heap.size w ((w.alloc (.cells #[.int .u8 (kn : Int), .int .i64 tx, .string ke, .string en, .string va, .int .i64 li, .int .u8 (eg : Int)] 36)).alloc (.cells #[.int .i64 0, .bool false, .string ⟨#[]⟩, .slice none 0 0] 33)) := ((Below.refl _ _).alloc (Nat.le_refl _) _).alloc (by simp) _
  have HB := Lib.hid hb2
  have K5 : Hid (Blk ((w.alloc (.cells #[.int .u8 (kn : Int), .int .i64 tx, .string ke, .string en, .string va, .int .i64 li, .int .u8 (eg : Int)] 36)).alloc (.cells #[.int .i64 0, .bool false, .string ⟨#[]⟩, .slice none 0 0] 33)) w.heap.size #[.int .u8 (kn : Int), .int .i64 tx, .string ke, .string en, .string va, .int .i64 li, .int .u8 (eg : Int)] 36) := Lib.hid ((Blk.new w _ 36).alloc _)
  have K6 : Hid (Blk ((w.alloc (.cells #[.int .u8 (kn : Int), .int .i64 tx, .string ke, .string en, .string va, .int .i64 li, .int .u8 (eg : Int)] 36)).alloc (.cells #[.int .i64 0, .bool false, .string ⟨#[]⟩, .slice none 0 0] 33)) (w.heap.size + 1) #[.int .i64 0, .bool false, .string ⟨#[]⟩, .slice none 0 0] 33) := Lib.hid (Blk.new2 _ _ 33 (by simp))
  have HM := Lib.hid h
  obtain ⟨m, hm⟩ : ∃ m, s.tasks.length = m := ⟨_, rfl⟩
  have k11 := h.c0 11
  simp only [mdC, List.getElem?_cons_succ, List.getElem?_cons_zero] at k11
  rw [hm] at k11 hil
  have C11 := Lib.hid k11
  have CT := Lib.hid ct
  have CV := Lib.hid cv
  have i1 := idx107 x.tb 0 m m i (i : Int) rfl hil
  simp only [Nat.zero_add] at i1
  have i2 := idx85 g off l c k (k : Int) rfl hkl
  have wj : wrap64 (tx - 1) = (k : Int) := by unfold wrap64; omega
  have wj2 : IntKind.i64.wrap (tx - 1) = (k : Int) := by rw [htx]; exact IntWalk.i64_in _ (by omega)
  clear h h0 hnm hfit hv hx hn htx hil hkl hkb ct cv htv hv1 hv2 hb2 hm k11
  have HKE : Hid (∀ W : World, Below w.heap.size w W → Calls Try.prog 82 #[.pointer (some ⟨p, 0, none⟩), .int .i64 (v : Int)] W (KeysEnd (intK (v : Int) s.rows) W)) := Lib.hid (fun W hW => intents_any B p s _ v W ⟨x, HM.out.later hW, rfl⟩)
  have HEE : Hid (∀ (W : World) (B0 : Nat) (vk : Value), Below w.heap.size w W → Ow sE W B0 9 vk (intK (v : Int) s.rows).length (intK (v : Int) s.rows) → Calls Try.prog 83 #[.pointer (some ⟨p, 0, none⟩), .int .i64 (v : Int), .int .u8 4, vk, .func (.func 84) #[] #[]] W (NoEnd (endM s v 4 (dropR v)) B p (MxS p x) W)) := Lib.hid (fun W B0 vk hW hk => end_drop B p s _ v 4 B0 vk W ⟨x, HM.out.later hW, rfl⟩ HV.out.1 HV.out.2 HN.out (.inr rfl) hk (HM.out.ok.dropF v))
  have HA : Hid (R = (endM s v 4 (dropR v), as0)) := Lib.hid (by rw [← HR.out, hkn]; rfl)
  clear HX HN HV hkn HR
  generalize endM s v 4 (dropR v) = s' at *
  generalize intK (v : Int) s.rows = I at *
  go_enter Try.func58, Try.ntmps58
  go_upto_region 1 with (fail)
  generalize ((w.alloc (.cells #[.int .u8 (kn : Int), .int .i64 tx, .string ke, .string en, .string va, .int .i64 li, .int .u8 (eg : Int)] 36)).alloc (.cells #[.int .i64 0, .bool false, .string ⟨#[]⟩, .slice none 0 0] 33)) = w2 at *
  have q11 := (HB.out.cell (p := ⟨p, 11, none⟩) (lt_of_cell C11.out)).trans C11.out
  have qt := (HB.out.cell (p := ⟨x.tb, i, none⟩) (lt_of_cell CT.out)).trans CT.out
  have qv := (HB.out.cell (p := ⟨g, off + k, none⟩) (lt_of_cell CV.out)).trans CV.out
  have z0 := K5.out.cell 0
  have z1 := K5.out.cell 1
  have z2 := K5.out.cell 2
  have z3 := K5.out.cell 3
  have z4 := K5.out.cell 4
  have z5 := K5.out.cell 5
  have z6 := K5.out.cell 6
  simp only [List.getElem?_toArray, List.getElem?_cons_zero, List.getElem?_cons_succ] at z0 z1 z2 z3 z4 z5 z6
  go_wp2
  go_quiet (fail)
  rename_i nq
  have hb3 : Below w2.heap.size w2 (w2.drewN nq) := below_drewN (Below.refl _ _) nq
  replace HB := Lib.hid (stepB HB.out hb3)
  replace K5 := Lib.hid (K5.out.later hb3)
  replace K6 := Lib.hid (K6.out.later hb3)
  clear hb3 z0 z1 z2 z3 z4 z5 z6 q11 qt qv
  generalize w2.drewN nq = w3 at *
  go_wp2_with fail
  refine (HKE.out _ HB.out).mono ?_
  rintro e w4 ⟨vk, rfl, ho, hb⟩
  replace HB := Lib.hid (stepB HB.out hb)
  replace K5 := Lib.hid (K5.out.later hb)
  replace K6 := Lib.hid (K6.out.later hb)
  clear hb
  have HO := Lib.hid ho
  clear ho HKE
  go_wp2_with fail
  refine (HEE.out _ _ _ HB.out HO.out).mono ?_
  rintro e w5 ⟨rfl, hmv⟩
  have HMV := Lib.hid (hmv.after HB.out)
  have K65 : Hid (Blk w5 (w.heap.size + 1) #[.int .i64 0, .bool false, .string ⟨#[]⟩, .slice none 0 0] 33) := Lib.hid (by
    obtain ⟨S', _, hf, _⟩ := hmv
    exact hf.blk K6.out (fun e => by have := (HM.out.lt _ e).2; omega))
  clear hmv HEE HO
  have u0 := K65.out.cell 0
  have u1 := K65.out.cell 1
  have u2 := K65.out.cell 2
  have u3 := K65.out.cell 3
  simp only [List.getElem?_toArray, List.getElem?_cons_zero, List.getElem?_cons_succ] at u0 u1 u2 u3
  have v0 := K65.out.frozen 0
  have v1 := K65.out.frozen 1
  have v2 := K65.out.frozen 2
  have v3 := K65.out.frozen 3
  have HS := Lib.hid (setB4 K65.out rfl (.int .i64 0) (.bool false) (.string ⟨#[]⟩) (.slice none 0 0) (Below.refl (w.heap.size + 1) w5) (Nat.le_refl _))
  go_wp2
  refine bodyPost_ret (results_cell_row rfl _ _ (w.heap.size + 1) 33 _ (0, 0) _ rfl HS.out.1 Try.underlying33 rfl (by kernel_rfl)) rfl ?_
  exact AnEnd.of HA.out (anEnd0 (mv_set4 HMV.out K65.out))
set_option maxRecDepth 100000 in
set_option maxHeartbeats 16000000 in
theorem migrate_any (B p : Nat) (s : MS) (S : Nat → Prop) (t : Int) (tx li : Int) (ke en va : ByteArray) (kn eg : Nat) (w : World) (h : MR w B p s S) (hkn : kn = 9) : Calls Try.prog 60 #[.pointer (some ⟨p, 0, none⟩), .int .i64 t, .agg #[.int .u8 (kn : Int), .int .i64 tx, .string ke, .string en, .string va, .int .i64 li, .int .u8 (eg : Int)]] w (AnEnd (actM s t (txW s t tx) (kn, tx, ke, en, va, li, eg)).2 (actM s t (txW s t tx) (kn, tx, ke, en, va, li, eg)).1 B p S w) := by
  have HA : Hid (actM s t (txW s t tx) (kn, tx, ke, en, va, li, eg) = (s, as0)) := Lib.hid (by rw [hkn]; rfl)
  generalize actM s t (txW s t tx) (kn, tx, ke, en, va, li, eg) = R at *
  have hb2 : Below w.heap.size w ((w.alloc (.cells #[.int .u8 (kn : Int), .int .i64 tx, .string ke, .string en, .string va, .int .i64 li, .int .u8 (eg : Int)] 36)).alloc (.cells #[.int .i64 0, .bool false, .string ⟨#[]⟩, .slice none 0 0] 33)) := ((Below.refl _ _).alloc (Nat.le_refl _) _).alloc (by simp) _
  have HB := Lib.hid hb2
  have K6 : Hid (Blk ((w.alloc (.cells #[.int .u8 (kn : Int), .int .i64 tx, .string ke, .string en, .string va, .int .i64 li, .int .u8 (eg : Int)] 36)).alloc (.cells #[.int .i64 0, .bool false, .string ⟨#[]⟩, .slice none 0 0] 33)) (w.heap.size + 1) #[.int .i64 0, .bool false, .string ⟨#[]⟩, .slice none 0 0] 33) := Lib.hid (Blk.new2 _ _ 33 (by simp))
  have HM := Lib.hid h
  clear hb2 h hkn
  go_enter Try.func60, Try.ntmps60
  go_upto_region 1 with (fail)
  generalize ((w.alloc (.cells #[.int .u8 (kn : Int), .int .i64 tx, .string ke, .string en, .string va, .int .i64 li, .int .u8 (eg : Int)] 36)).alloc (.cells #[.int .i64 0, .bool false, .string ⟨#[]⟩, .slice none 0 0] 33)) = w2 at *
  have u0 := K6.out.cell 0
  have u1 := K6.out.cell 1
  have u2 := K6.out.cell 2
  have u3 := K6.out.cell 3
  simp only [List.getElem?_toArray, List.getElem?_cons_zero, List.getElem?_cons_succ] at u0 u1 u2 u3
  have v0 := K6.out.frozen 0
  have v1 := K6.out.frozen 1
  have v2 := K6.out.frozen 2
  have v3 := K6.out.frozen 3
  have HS := Lib.hid (setB4 K6.out rfl (.int .i64 0) (.bool false) (.string ⟨#[]⟩) (.slice none 0 0) HB.out (Nat.le_succ _))
  go_wp2
  refine bodyPost_ret (results_cell_row rfl _ _ (w.heap.size + 1) 33 _ (0, 0) _ rfl HS.out.1 Try.underlying33 rfl (by kernel_rfl)) rfl ?_
  exact AnEnd.of HA.out (anEnd0 (Mv.same HM.out HS.out.2))
end Go.Proofs.Ytoinjnocopejjaa

/- clock and floor told anew. -/
namespace Go.Proofs.Ytoinjnocopejjaa
open Go.ChangeShapes Go.WideShapes Go.ChangeAt Go.RowKit Go.Maps
set_option linter.unusedVariables false
set_option linter.unusedSimpArgs false
/-- clock and floor told anew -/
theorem MdAt.head {W W' : World} {B p : Nat} {s : MS} {x : MX} (h : MdAt W B p s x) {cl fl : Int} (hb : Blk W' p (mdC s.cf cl fl x.tv x.tb s.tasks.length x.b).toArray 110) (ho : ∀ k, k ≠ p → W'.heap[k]? = W.heap[k]?) (ok : OkM ⟨s.cf, cl, fl, s.txns, s.tasks, s.rows⟩) : MdAt W' B p ⟨s.cf, cl, fl, s.txns, s.tasks, s.rows⟩ x := by
  have hp : W.heap[p]? = some (.cells (mdC s.cf s.clock s.floor x.tv x.tb s.tasks.length x.b).toArray 110 (0, 0)) := h.blk
  have hgt : ∀ (k : Nat) (c : Array Value) (t : TypeId), W.heap[k]? = some (.cells c t (0, 0)) → t ≠ 110 → k ≠ p := fun k c t hk ht e => by
    subst e
    rw [hp] at hk; simp only [Option.some.injEq, Obj.cells.injEq] at hk; exact ht hk.2.1.symm
  refine ⟨h.hp, hb, h.tx.keepS (fun k e => by obtain ⟨cur, hc⟩ := h.tx.tag k e; exact ho k (hgt _ _ _ hc (by decide))), h.htb, (ho _ (hgt _ _ _ h.tb (by decide))).trans h.tb, h.kl, fun i v l h1 h2 => ow_keep (h.num i v l h1 h2) (fun j hj => by obtain ⟨cur, hc⟩ := (h.num i v l h1 h2).tag j hj; exact ho j (hgt _ _ _ hc (by decide))), h.ap, h.hb, map_keep h.map (ho _ (fun e => by
    obtain ⟨es, cl', hb', _⟩ := h.map
    rw [e, hp] at hb'; cases hb')), h.rows, fun q hq => (h.ver q hq).keep (fun g cur hc => ho g (hgt _ _ _ hc (by decide))), ok⟩
theorem MdAt.setClock {W : World} {B p : Nat} {s : MS} {x : MX} (h : MdAt W B p s x) {cl : Int} (ok : OkM ⟨s.cf, cl, s.floor, s.txns, s.tasks, s.rows⟩) : MdAt (W.setCell ⟨p, 8, none⟩ (.int .i64 cl)) B p ⟨s.cf, cl, s.floor, s.txns, s.tasks, s.rows⟩ x :=
  h.head (h.blk.set (j := 8) _) (fun k hk => Below.heap_setCell W ⟨p, 8, none⟩ _ k hk) ok
theorem MdAt.setFloor {W : World} {B p : Nat} {s : MS} {x : MX} (h : MdAt W B p s x) {fl : Int} (ok : OkM ⟨s.cf, s.clock, fl, s.txns, s.tasks, s.rows⟩) : MdAt (W.setCell ⟨p, 9, none⟩ (.int .i64 fl)) B p ⟨s.cf, s.clock, fl, s.txns, s.tasks, s.rows⟩ x :=
  h.head (h.blk.set (j := 9) _) (fun k hk => Below.heap_setCell W ⟨p, 9, none⟩ _ k hk) ok
theorem FrS.head (W : World) (p j : Nat) (x : MX) (v : Value) : FrS W (W.setCell ⟨p, j, none⟩ v) (MxS p x) := FrS.of_grown (grown_set W p _ _) (fun k e => by cases e; exact .inl rfl)
theorem OkM.times {s : MS} (h : OkM s) {c f : Int} (hc : s.clock ≤ c ∧ c ≤ s.cf.ts) (hf : 0 ≤ f ∧ f ≤ c) : OkM ⟨s.cf, c, f, s.txns, s.tasks, s.rows⟩ :=
  h.with_ hc hf rfl (Nat.le_refl _) (fun t ht => by have := h.sn t ht; omega) h.up (Nat.le_refl _) (fun p hp => ⟨h.ret p hp, h.deep p hp, h.iw p hp, (h.dec p hp).mono hc.1, h.ksz p hp⟩)
theorem Mv.behind {s' : MS} {B p : Nat} {S : Nat → Prop} {w W W' : World} (hf : FrS w W S) (h : Mv s' B p S W W') : Mv s' B p S w W' := by
  obtain ⟨S', a1, a2, a3⟩ := h
  exact ⟨S', a1, hf.trans a2 (fun i hi => .inl hi), fun k hk => (a3 k hk).imp id (fun e => Nat.le_trans hf.size e)⟩
theorem anyI_false {s : MS} {v : Int} (h : (intK v s.rows).length = 0) : anyI s v = false := by
  unfold anyI
  rw [List.any_eq_false]
  intro p hp e
  have := mem_intK.2 ⟨p.2, (show (p.1, p.2) ∈ s.rows from hp), of_decide_eq_true e⟩
  rw [List.eq_nil_of_length_eq_zero h] at this; cases this
theorem anyI_true {s : MS} {v : Int} (h : 0 < (intK v s.rows).length) : anyI s v = true := by
  have hm := List.getElem_mem h
  obtain ⟨r, h1, h2⟩ := mem_intK.1 hm
  unfold anyI
  exact List.any_eq_true.2 ⟨_, h1, decide_eq_true h2⟩
theorem actM_comm (s : MS) (t w tx li : Int) (ke en va : ByteArray) (eg : Nat) : actM s t w (6, tx, ke, en, va, li, eg) = if anyI s w = true ∧ s.cf.ts ≤ s.clock then (endM s w 4 (dropR w), asE_ 35) else if anyI s w = true then (endM { s with clock := s.clock + 1 } w 3 (commR w (s.clock + 1)), as0) else (endM s w 3 (commR w s.clock), as0) := rfl
theorem OkM.commF {s : MS} (h : OkM s) {v : Int} (hv : 1 ≤ v) : ∀ q ∈ s.rows, q.2.2.w = v → (retR ((fun r : Rw => (({ r.2 with ts := s.clock + 1 } :: r.1, ver0) : Rw)) q.2) : Int) ≤ s.cf.de ∧ (0 ≤ ((fun r : Rw => (({ r.2 with ts := s.clock + 1 } :: r.1, ver0) : Rw)) q.2).2.w ∧ ((fun r : Rw => (({ r.2 with ts := s.clock + 1 } :: r.1, ver0) : Rw)) q.2).2.w ≤ s.txns.length ∧ (((fun r : Rw => (({ r.2 with ts := s.clock + 1 } :: r.1, ver0) : Rw)) q.2).2.w = 0 → ((fun r : Rw => (({ r.2 with ts := s.clock + 1 } :: r.1, ver0) : Rw)) q.2).2 = ver0) ∧ ((fun r : Rw => (({ r.2 with ts := s.clock + 1 } :: r.1, ver0) : Rw)) q.2).2.ts = 0) ∧ Dec (s.clock + 1) ((fun r : Rw => (({ r.2 with ts := s.clock + 1 } :: r.1, ver0) : Rw)) q.2).1 := fun q hq hw => by
  have hd := h.deep q hq
  have e : retR (({ q.2.2 with ts := s.clock + 1 } :: q.2.1, ver0) : Rw) = q.2.1.length + 1 := by simp [retR, ver0]
  have e2 : retR q.2 = q.2.1.length + 1 := by unfold retR; rw [if_pos (by omega)]
  refine ⟨?_, ⟨Int.le_refl _, Int.natCast_nonneg _, fun _ => rfl, rfl⟩, (h.dec q hq).cons h.clk.1 rfl⟩
  show (retR (({ q.2.2 with ts := s.clock + 1 } :: q.2.1, ver0) : Rw) : Int) ≤ _
  rw [e]; omega
end Go.Proofs.Ytoinjnocopejjaa
