/- dropped, end with it. -/
import Derived.Test.YtoinjnocopejjaaND
namespace Go.Proofs.Ytoinjnocopejjaa
open Go.ChangeShapes Go.WideShapes Go.ChangeAt Go.RowKit Go.Maps
set_option linter.unusedVariables false
set_option linter.unusedSimpArgs false
/-- a closure on rows ends so -/
def RwEnd (r : Rw) (w : World) (e : Ending) (w' : World) : Prop := ∃ hd, e = .returned (rowV hd) ∧ hdR hd = r ∧ HdAt w' hd ∧ Below w.heap.size w w'
theorem setB5 {W : World} {q : Nat} {c : Array Value} {t : TypeId} (h : Blk W q c t) (hc : c.size = 5) (v0 v1 v2 v3 v4 : Value) {w : World} {B : Nat} (hb : Below B w W) (hq : B ≤ q) :
    Blk (((((W.setCell ⟨q, 0, none⟩ v0).setCell ⟨q, 1, none⟩ v1).setCell ⟨q, 2, none⟩ v2).setCell ⟨q, 3, none⟩ v3).setCell ⟨q, 4, none⟩ v4) q #[v0, v1, v2, v3, v4] t ∧ Below B w (((((W.setCell ⟨q, 0, none⟩ v0).setCell ⟨q, 1, none⟩ v1).setCell ⟨q, 2, none⟩ v2).setCell ⟨q, 3, none⟩ v3).setCell ⟨q, 4, none⟩ v4) := by
  obtain ⟨l⟩ := c
  have hc : l.length = 5 := hc
  match l, hc with
  | [a0, a1, a2, a3, a4], _ => exact ⟨(((((h.set v0).set v1).set v2).set v3).set v4), ((((hb.setCell hq _).setCell hq _).setCell hq _).setCell hq _).setCell hq _⟩
set_option maxRecDepth 100000 in
set_option maxHeartbeats 4000000 in
theorem dropped_any (hd : Hd) (w : World) (hv : HdAt w hd) : Calls Try.prog 84 #[rowV hd] w (RwEnd ((hdR hd).1, ver0) w) := by
  have HD := Lib.hid hv
  clear hv
  obtain ⟨A, n, c, L, ⟨iw, its, itm, iv⟩⟩ := hd
  unfold rowV
  simp only
  have hb2 : Below w.heap.size w ((w.alloc (.cells #[.slice A n c, .int .i64 iw, .int .i64 its, .bool itm, .string iv] 114)).alloc (.cells #[.slice none 0 0, .int .i64 0, .int .i64 0, .bool false, .string ⟨#[]⟩] 114)) := ((Below.refl _ _).alloc (Nat.le_refl _) _).alloc (by simp) _
  have HB := Lib.hid hb2
  have HQ : Hid (Blk (((w.alloc (.cells #[.slice A n c, .int .i64 iw, .int .i64 its, .bool itm, .string iv] 114)).alloc (.cells #[.slice A n c, .int .i64 0, .int .i64 0, .bool false, .string ⟨#[]⟩] 114))) (w.heap.size + 1) #[.slice A n c, .int .i64 0, .int .i64 0, .bool false, .string ⟨#[]⟩] 114) := Lib.hid (Blk.new2 _ _ 114 (by simp))
  have HB3 : Hid (Below w.heap.size w ((w.alloc (.cells #[.slice A n c, .int .i64 iw, .int .i64 its, .bool itm, .string iv] 114)).alloc (.cells #[.slice A n c, .int .i64 0, .int .i64 0, .bool false, .string ⟨#[]⟩] 114))) := Lib.hid (((Below.refl _ _).alloc (Nat.le_refl _) _).alloc (by simp) _)
  clear hb2
  go_enter Try.func84, Try.ntmps84
  go_wp2
  refine bodyPost_ret (results_cell_row rfl _ _ (w.heap.size + 1) 114 _ (0, 0) _ rfl HQ.out Try.underlying114 rfl (by kernel_rfl)) rfl ?_
  exact ⟨⟨A, n, c, L, ver0⟩, rfl, rfl, (show HdAt w ⟨A, n, c, L, ver0⟩ from HD.out).later HB3.out, HB3.out⟩
set_option maxRecDepth 100000 in
set_option maxHeartbeats 16000000 in
theorem end_drop (B p : Nat) (s : MS) (S : Nat → Prop) (v st : Nat) (B0 : Nat) (vk : Value) (w : World) (h : MR w B p s S) (hv : 1 ≤ v) (hvl : v ≤ s.txns.length) (hn : s.txns.length ≤ 100000) (hst : st = 3 ∨ st = 4) (hk : Ow sE w B0 9 vk (intK (v : Int) s.rows).length (intK (v : Int) s.rows)) 
    (hfs : ∀ q ∈ s.rows, q.2.2.w = (v : Int) → (retR ((fun r : Rw => (r.1, ver0)) q.2) : Int) ≤ s.cf.de ∧ (0 ≤ ((fun r : Rw => (r.1, ver0)) q.2).2.w ∧ ((fun r : Rw => (r.1, ver0)) q.2).2.w ≤ s.txns.length ∧ (((fun r : Rw => (r.1, ver0)) q.2).2.w = 0 → ((fun r : Rw => (r.1, ver0)) q.2).2 = ver0) ∧ ((fun r : Rw => (r.1, ver0)) q.2).2.ts = 0) ∧ Dec s.clock ((fun r : Rw => (r.1, ver0)) q.2).1) :
    Calls Try.prog 83 #[.pointer (some ⟨p, 0, none⟩), .int .i64 (v : Int), .int .u8 (st : Int), vk, .func (.func 84) #[] #[]] w (NoEnd (endM s (v : Int) (st : Int) (fun r => if r.2.w = (v : Int) then (fun r : Rw => (r.1, ver0)) r else r)) B p S w) := by
  have hok := h.ok
  obtain ⟨x, h, rfl⟩ := h
  obtain ⟨A, c, rfl, hs⟩ := hk.sl
  have HKS : Hid (∀ q ∈ s.rows, q.1.size ≤ maxLen) := Lib.hid (fun q hq => by have := hok.ksz q hq; unfold maxLen; omega)
  have hnd : (intK (v : Int) s.rows).Nodup := by unfold intK; exact up_nodup (List.Pairwise.filter _ hok.up)
  have hin : ∀ k ∈ intK (v : Int) s.rows, hasK s.rows k = true := fun k hk' => by
    obtain ⟨r, h1, _⟩ := mem_intK.1 hk'
    exact has_iff.2 ⟨r, h1⟩
  have hi64 : (intK (v : Int) s.rows).length ≤ 64 := by have := intK_le (v : Int) s.rows; have := hok.keys; have := may_lo hok.may; omega
  have HF : Hid (foldS (fun r : Rw => (r.1, ver0)) s.rows (intK (v : Int) s.rows) = mapR (fun r => if r.2.w = (v : Int) then (fun r : Rw => (r.1, ver0)) r else r) s.rows) := Lib.hid (foldS_int hok.up hok.ret (v : Int))
  obtain ⟨tx, htx⟩ : ∃ tx, s.txns.set ((v : Int) - 1).toNat ((st : Int), snW s (v : Int)) = tx := ⟨_, rfl⟩
  have HTX := Lib.hid htx
  have HOKJ : Hid (∀ k, OkM ⟨s.cf, s.clock, s.floor, tx, s.tasks, foldS (fun r : Rw => (r.1, ver0)) s.rows ((intK (v : Int) s.rows).take k)⟩) := Lib.hid (fun k => hok.fold ⟨Int.le_refl _, hok.clk.2⟩ hok.flo (by rw [← htx]; exact List.length_set ..) (by rw [← htx]; exact actN_set (by simp only; omega)) (by rw [← htx]; exact hok.endTx (Int.le_refl _) (by omega)) (nodup_take hnd k) (fun k' hk' => hin k' (List.mem_of_mem_take hk')) (fun q hq hqk => by
    obtain ⟨r, h1, h2⟩ := mem_intK.1 (List.mem_of_mem_take hqk)
    have e : r = q.2 := (get_of_mem (d := rw0) hok.up h1).symm.trans (get_of_mem (d := rw0) hok.up hq)
    exact hfs q hq (e ▸ h2)))
  have HGET : Hid (∀ k key, (intK (v : Int) s.rows)[k]? = some key → getK rw0 (foldS (fun r : Rw => (r.1, ver0)) s.rows ((intK (v : Int) s.rows).take k)) key = getK rw0 s.rows key ∧ (key, getK rw0 s.rows key) ∈ s.rows ∧ (getK rw0 s.rows key).2.w = (v : Int)) := Lib.hid (fun k key hk' => ⟨foldS_get hok.up (nodup_take hnd k) (fun k' h' => hin k' (List.mem_of_mem_take h')) (not_mem_take hnd hk'), get_mem (hin key (List.mem_of_getElem? hk')), by
    obtain ⟨r, h1, h2⟩ := mem_intK.1 (List.mem_of_getElem? hk')
    have e : getK rw0 s.rows key = r := get_of_mem hok.up h1
    rw [e]; exact h2⟩)
  have HSN : Hid (∀ k key, (intK (v : Int) s.rows)[k]? = some key → foldS (fun r : Rw => (r.1, ver0)) s.rows ((intK (v : Int) s.rows).take (k + 1)) = setR (foldS (fun r : Rw => (r.1, ver0)) s.rows ((intK (v : Int) s.rows).take k)) key ((fun r : Rw => (r.1, ver0)) (getK rw0 (foldS (fun r : Rw => (r.1, ver0)) s.rows ((intK (v : Int) s.rows).take k)) key))) := Lib.hid (fun k key hk' => by rw [List.take_add_one, hk']; exact foldS_snoc ..)
  have HAF : Hid (foldS (fun r : Rw => (r.1, ver0)) s.rows ((intK (v : Int) s.rows).take (intK (v : Int) s.rows).length) = foldS (fun r : Rw => (r.1, ver0)) s.rows (intK (v : Int) s.rows)) := Lib.hid (by rw [List.take_length])
  have HA0 : Hid (foldS (fun r : Rw => (r.1, ver0)) s.rows ((intK (v : Int) s.rows).take 0) = s.rows) := Lib.hid (by rw [List.take_zero]; rfl)
  obtain ⟨n, hnl⟩ : ∃ n, (intK (v : Int) s.rows).length = n := ⟨_, rfl⟩
  rw [hnl] at hs hk hi64 HAF ⊢
  generalize hI : intK (v : Int) s.rows = I at *
  -- the row of transactions
  obtain ⟨N, hN⟩ : ∃ N, s.txns.length = N := ⟨_, rfl⟩
  obtain ⟨At, ct, etv, hct, hr⟩ := h.txr
  have k10 := h.c0 10
  simp only [mdC, List.getElem?_cons_succ, List.getElem?_cons_zero] at k10
  rw [etv, hN] at k10
  rcases h.tx.2.2 with ⟨e0, e1⟩ | ⟨g, cap, cur, e0, hB, hg, hnc, hmx, hsz, htk⟩
  · exfalso; omega
  rw [etv] at e0
  simp only [Value.slice.injEq] at e0
  obtain ⟨rfl, _, rfl⟩ := e0
  have hown : x.tv.ownBlock = some g := by rw [etv]; rfl
  have hvx : s.txns[v - 1]? = some (s.txns[v - 1]'(by omega)) := List.getElem?_eq_getElem _
  obtain ⟨⟨o, sn⟩, hosn⟩ : ∃ q, s.txns[v - 1]'(by omega) = q := ⟨_, rfl⟩
  rw [hosn] at hvx
  have hsn : snW s (v : Int) = sn := snW_at hv hvx
  have q0 : w.cell? ⟨g, (v - 1) * 2, none⟩ = some (.int .u8 o) := by
    obtain ⟨g2, off2, e2, hg2, hc2⟩ := hr.2 (by omega)
    simp only [Option.some.injEq, Addr.mk.injEq] at e2
    obtain ⟨rfl, rfl, _⟩ := e2
    have := hc2 (v - 1) _ hvx 0 (by decide)
    rw [Nat.zero_add, Nat.add_zero] at this
    exact this
  have fq0 : w.frozen? ⟨g, (v - 1) * 2, none⟩ = false := Blk.frozen (t := 112) hg _
  have i3 := idx106 g 0 N ct (v - 1) ((v : Int) - 1) (by omega) (by omega)
  rw [Nat.zero_add] at i3
  have wj : wrap64 ((v : Int) - 1) = (v : Int) - 1 := by unfold wrap64; omega
  have wj2 : IntKind.i64.wrap ((v : Int) - 1) = (v : Int) - 1 := IntWalk.i64_in _ (by omega)
  -- the world behind the store
  obtain ⟨w1, hw1⟩ : ∃ w1, w.setCell ⟨g, (v - 1) * 2, none⟩ (.int .u8 (st : Int)) = w1 := ⟨_, rfl⟩
  have hf1 : FrS w w1 (MxS p x) := by rw [← hw1]; exact FrS.of_grown (grown_set w g _ _) (fun k e => by cases e; exact .inr (.inl hown))
  have htags := h.tags
  have hM1 : MdAt w1 B p ⟨s.cf, s.clock, s.floor, tx, s.tasks, s.rows⟩ x := by
    have hoth : ∀ k, k ≠ g → w1.heap[k]? = w.heap[k]? := fun k hk' => by rw [← hw1]; exact Below.heap_setCell w ⟨g, (v - 1) * 2, none⟩ _ k hk'
    have hgt : ∀ (k : Nat) (c : Array Value) (t : TypeId), Blk w k c t → t ≠ 112 → k ≠ g := fun k c t hk' ht e => by
      subst e
      have hk2 : w.heap[k]? = some (.cells c t (0, 0)) := hk'
      rw [hg] at hk2; simp only [Option.some.injEq, Obj.cells.injEq] at hk2; exact ht hk2.2.1.symm
    have hlen : tx.length = s.txns.length := by rw [← htx]; exact List.length_set ..
    refine ⟨h.hp, ?_, ?_, h.htb, (hoth _ (hgt _ _ _ h.tb (by decide))).trans h.tb, h.kl, fun i v' l h1 h2 => ow_keep (h.num i v' l h1 h2) (fun j hj => hoth j (fun e => by
      obtain ⟨cur', hc'⟩ := (h.num i v' l h1 h2).tag j hj
      exact hgt _ _ _ hc' (by decide) e)), h.ap, h.hb, map_keep h.map (hoth _ (fun e => by
      obtain ⟨es, cl, hb', _⟩ := h.map
      rw [e, hg] at hb'; cases hb')), h.rows, fun q hq => (h.ver q hq).keep (fun g' cur' hc' => hoth g' (hgt _ _ _ hc' (by decide))), by have := HOKJ.out 0; rw [HA0.out] at this; exact this⟩
    · show Blk w1 p (mdC s.cf s.clock s.floor x.tv x.tb s.tasks.length x.b).toArray 110
      exact (hoth _ (hgt _ _ _ h.blk (by decide))).trans h.blk
    · show ROwn txE 2 w1 B 112 x.tv tx.length tx
      rw [hlen, ← htx, show ((v : Int) - 1).toNat = v - 1 from by omega, hsn, ← hw1]
      exact h.tx.set1 hown hvx
  have HMV1 : Hid (Mv ⟨s.cf, s.clock, s.floor, tx, s.tasks, foldS (fun r : Rw => (r.1, ver0)) s.rows (I.take 0)⟩ B p (MxS p x) w w1) := Lib.hid (by rw [HA0.out]; exact ⟨_, ⟨x, hM1, rfl⟩, hf1, fun k e => .inl e⟩)
  have HO1 := Lib.hid (hk.frS hf1 (fun k e _ => htags k e) (by decide) (by decide) (by decide) (by decide))
  have HLT : Hid (∀ k, MxS p x k → TagM w k ∧ k < w.heap.size) := Lib.hid (fun k e => ⟨htags k e, (h.lt k e).2⟩)
  have HI := Lib.hid hnl
  have HI64 := Lib.hid hi64
  have HSZ1 : Hid (w.heap.size ≤ w1.heap.size) := Lib.hid hf1.size
  clear hok h hs hk hnd hin hi64 htx hI hN hct hr etv hB hg hnc hmx hsz htk hown hvx hosn hsn hf1 htags hM1 hnl hv hvl hn hst hfs
  unfold endM
  rw [HTX.out, ← HF.out]
  clear HTX HF
  go_enter Try.func83, Try.ntmps83
  go_wp2

  try rw [hw1]
  clear hw1 q0 fq0 k10 i3 wj wj2
  go_loopw [23] (fun i W => ∃ (k : Nat), k ≤ n ∧ i = .int .i64 k ∧ Mv ⟨s.cf, s.clock, s.floor, tx, s.tasks, foldS (fun r : Rw => (r.1, ver0)) s.rows (I.take k)⟩ B p (MxS p x) w W ∧ Ow sE W B0 9 (.slice A n c) n I) (fun i _ => n - (intOf i).toNat)
  case atStart => exact ⟨0, Nat.zero_le _, rfl, HMV1.out, HO1.out⟩
  case round =>
    obtain ⟨k, hk, rfl, hmv, ho⟩ := hrel
    have HMV := Lib.hid hmv
    have HO := Lib.hid ho

    clear HMV1 HO1
    by_cases hlt : k < n
    · have d2 : decide ((k : Int) < (n : Int)) = true := decide_eq_true (by omega)
      have wk : IntKind.i64.wrap ((k : Int) + 1) = (k : Int) + 1 := IntWalk.i64_in _ (by have := HI64.out; omega)
      have hsl : Sl sE wr A n c I := by
        obtain ⟨A2, c2, e2, hs2⟩ := ho.sl
        cases e2; exact hs2
      obtain ⟨gk, off, rfl, hgk, hcell⟩ := hsl.rd.2 (by omega)
      have hrk : I[k]? = some (I[k]'(by rw [HI.out]; exact hlt)) := List.getElem?_eq_getElem _
      generalize I[k]'(by rw [HI.out]; exact hlt) = key at *
      have y1 := hcell k key hrk
      have i1 := idx40 gk off n c k (k : Int) rfl hlt
      have HGK := Lib.hid (HGET.out k key hrk)
      have HSK := Lib.hid (HSN.out k key hrk)
      have HKZ := Lib.hid (HKS.out _ (HGET.out k key hrk).2.1)
      obtain ⟨S1, ⟨x1, hm1, rfl⟩, hfr1, hsub1⟩ := hmv
      have k12 := hm1.c0 12
      simp only [mdC, List.getElem?_cons_succ, List.getElem?_cons_zero] at k12
      have hlk := hm1.look0 key HKZ.out
      have hgr := hm1.getR key
      have hat := hm1.hdAt key
      obtain ⟨hd, hq0⟩ : ∃ hd, hdG x1 key = hd := ⟨_, rfl⟩
      rw [hq0] at hlk hgr hat
      have HGR : Hid (hdR hd = getK rw0 (foldS (fun r : Rw => (r.1, ver0)) s.rows (I.take k)) key) := Lib.hid hgr.symm
      have HAT := Lib.hid hat
      have HM1 := Lib.hid hm1
      have HFR1 := Lib.hid hfr1
      have HSB1 := Lib.hid hsub1
      clear hcell hrk hm1 hgr hat hfr1 hsub1 hq0 hgk hsl ho
      obtain ⟨A2, n2, c2, L2, ⟨iw, its, itm, iv⟩⟩ := hd
      unfold sE at y1
      have HCC := Lib.hid (dropped_any ⟨A2, n2, c2, L2, ⟨iw, its, itm, iv⟩⟩ wr HAT.out)
      unfold rowV at hlk HCC
      simp only at hlk HCC
      go_wp2_with fail
      refine HCC.out.mono ?_
      rintro e w4 ⟨hd2, rfl, hr2, hat2, hb⟩
      have HR2 : Hid (hdR hd2 = (fun r : Rw => (r.1, ver0)) (getK rw0 (foldS (fun r : Rw => (r.1, ver0)) s.rows (I.take k)) key)) := Lib.hid (by rw [hr2, ← HGR.out])
      have HM4 := Lib.hid (HM1.out.later hb)
      have HFR4 := Lib.hid (HFR1.out.trans (FrS.of_below hb (S := fun _ => False)) (fun i hi => hi.elim))
      have HO4 := Lib.hid (HO.out.later hb)
      have HAT2 := Lib.hid hat2

      clear hr2 hat2 hb HCC HM1 HFR1 HO HAT HGR HMV hlk k12 y1
      have HOK2 : Hid (OkM { (⟨s.cf, s.clock, s.floor, tx, s.tasks, foldS (fun r : Rw => (r.1, ver0)) s.rows (I.take k)⟩ : MS) with rows := setR (foldS (fun r : Rw => (r.1, ver0)) s.rows (I.take k)) key (hdR hd2) }) := Lib.hid (by rw [HR2.out, ← HSK.out]; exact HOKJ.out (k + 1))
      have HCS := Lib.hid (set_any B p ⟨s.cf, s.clock, s.floor, tx, s.tasks, foldS (fun r : Rw => (r.1, ver0)) s.rows (I.take k)⟩ _ key hd2 w4 ⟨x1, HM4.out, rfl⟩ HKZ.out HAT2.out HOK2.out)
      have HST : Hid (({ (⟨s.cf, s.clock, s.floor, tx, s.tasks, foldS (fun r : Rw => (r.1, ver0)) s.rows (I.take k)⟩ : MS) with rows := setR (foldS (fun r : Rw => (r.1, ver0)) s.rows (I.take k)) key (hdR hd2) }) = (⟨s.cf, s.clock, s.floor, tx, s.tasks, foldS (fun r : Rw => (r.1, ver0)) s.rows (I.take (k + 1))⟩ : MS)) := Lib.hid (by rw [HR2.out, ← HSK.out])
      rw [HST.out] at HCS
      clear HOK2 HST HAT2 HR2
      obtain ⟨A3, n3, c3, L3, ⟨jw, jts, jtm, jv⟩⟩ := hd2
      unfold rowV at HCS ⊢
      simp only at HCS ⊢
      go_wp2_with fail
      refine HCS.out.mono ?_
      rintro e w5 ⟨rfl, hmv5⟩
      have HMV5 : Hid (Mv ⟨s.cf, s.clock, s.floor, tx, s.tasks, foldS (fun r : Rw => (r.1, ver0)) s.rows (I.take (k + 1))⟩ B p (MxS p x) w w5) := Lib.hid (by
        obtain ⟨S5, a1, a2, a3⟩ := hmv5
        refine ⟨S5, a1, HFR4.out.trans a2 HSB1.out, fun j hj => ?_⟩
        rcases a3 j hj with e | e
        · exact HSB1.out j e
        · exact .inr (Nat.le_trans HFR4.out.size e))
      have HTG : Hid (∀ j, MxS p x1 j → j < w4.heap.size → TagM w4 j) := Lib.hid (fun j hj _ => HM4.out.tags j hj)
      have HO5 := Lib.hid (HO4.out.frS hmv5.choose_spec.2.1 HTG.out (by decide) (by decide) (by decide) (by decide))

      clear hmv5 HCS HO4 HM4 HFR4 HSB1
      go_wp2
      go_roundw
      case rel => exact ⟨k + 1, by omega, rfl, HMV5.out, HO5.out⟩
      case measure => simp [intOf]; omega
    · have d2 : decide ((k : Int) < (n : Int)) = false := decide_eq_false (by omega)
      obtain rfl : k = n := by omega
      have HMVE := Lib.hid hmv
      rw [HAF.out] at HMVE
      clear hmv ho
      go_wp2
      exact bodyPost_end (results_none rfl _ _ _) rfl ⟨rfl, HMVE.out⟩
end Go.Proofs.Ytoinjnocopejjaa
