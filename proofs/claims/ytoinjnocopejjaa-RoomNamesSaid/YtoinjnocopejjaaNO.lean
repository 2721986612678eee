/- commit. -/
import Derived.Test.YtoinjnocopejjaaNK
import Derived.StillTailTactics
namespace Go.Proofs.Ytoinjnocopejjaa
open Go.ChangeShapes Go.WideShapes Go.ChangeAt Go.RowKit Go.Maps
set_option linter.unusedVariables false
set_option linter.unusedSimpArgs false
set_option maxRecDepth 100000 in
set_option maxHeartbeats 16000000 in
theorem commit_any (B p : Nat) (s : MS) (S : Nat → Prop) (t : Int) (tx li : Int) (ke en va : ByteArray) (kn eg : Nat) (w : World) (h : MR w B p s S) (h0 : refM s t (kn, tx, ke, en, va, li, eg) = 0) (hkn : kn = 6) (hn : s.txns.length ≤ 100000) (hx : COk (kn, tx, ke, en, va, li, eg)) : Calls Try.prog 57 #[.pointer (some ⟨p, 0, none⟩), .int .i64 t, .agg #[.int .u8 (kn : Int), .int .i64 tx, .string ke, .string en, .string va, .int .i64 li, .int .u8 (eg : Int)]] w (AnEnd (actM s t (txW s t tx) (kn, tx, ke, en, va, li, eg)).2 (actM s t (txW s t tx) (kn, tx, ke, en, va, li, eg)).1 B p S w) := by
  obtain ⟨x, h, rfl⟩ := h
  obtain ⟨_, _, hnm, hfit, _⟩ := refM_0 h0
  have hv := (hnm (named_of (by simp only; omega))).1
  simp only at hv
  obtain ⟨i, k, g, off, l, c, v, rfl, htx, hil, hkl, hkb, ct, cv, htv, hv1, hv2⟩ := h.wr hn hv
  have HX := Lib.hid hx
  have HN := Lib.hid hn
  have HV := Lib.hid (And.intro hv1 hv2)
  rw [htv]
  obtain ⟨R, hR⟩ : ∃ R, actM s (i : Int) (v : Int) (kn, tx, ke, en, va, li, eg) = R := ⟨_, rfl⟩
  have HR := Lib.hid hR
  rw [hR]
  clear hR
  have hb2 : Below w.heap.size w (((w.alloc (.cells #[.pointer (some ⟨p, 0, none⟩)] 22)).alloc (.cells #[.int .u8 (kn : Int), .int .i64 tx, .string ke, .string en, .string va, .int .i64 li, .int .u8 (eg : Int)] 36)).alloc (.cells #[.int .i64 0, .bool false, .string ⟨#[]⟩, .slice none 0 0] 33)) := (((Below.refl _ _).alloc (Nat.le_refl _) _).alloc (by simp) _).alloc (by simp; omega) _
  have HB := Lib.hid hb2
  have KX : Hid (Blk (((w.alloc (.cells #[.pointer (some ⟨p, 0, none⟩)] 22)).alloc (.cells #[.int .u8 (kn : Int), .int .i64 tx, .string ke, .string en, .string va, .int .i64 li, .int .u8 (eg : Int)] 36)).alloc (.cells #[.int .i64 0, .bool false, .string ⟨#[]⟩, .slice none 0 0] 33)) w.heap.size #[.pointer (some ⟨p, 0, none⟩)] 22) := Lib.hid (((Blk.new w _ 22).alloc _).alloc _)
  have K5 : Hid (Blk (((w.alloc (.cells #[.pointer (some ⟨p, 0, none⟩)] 22)).alloc (.cells #[.int .u8 (kn : Int), .int .i64 tx, .string ke, .string en, .string va, .int .i64 li, .int .u8 (eg : Int)] 36)).alloc (.cells #[.int .i64 0, .bool false, .string ⟨#[]⟩, .slice none 0 0] 33)) (w.heap.size + 1) #[.int .u8 (kn : Int), .int .i64 tx, .string ke, .string en, .string va, .int .i64 li, .int .u8 (eg : Int)] 36) := Lib.hid ((Blk.new2 _ _ 36 (by simp)).alloc _)
  have K6 : Hid (Blk (((w.alloc (.cells #[.pointer (some ⟨p, 0, none⟩)] 22)).alloc (.cells #[.int .u8 (kn : Int), .int .i64 tx, .string ke, .string en, .string va, .int .i64 li, .int .u8 (eg : Int)] 36)).alloc (.cells #[.int .i64 0, .bool false, .string ⟨#[]⟩, .slice none 0 0] 33)) (w.heap.size + 1 + 1) #[.int .i64 0, .bool false, .string ⟨#[]⟩, .slice none 0 0] 33) := Lib.hid (Blk.new2 _ _ 33 (by simp))
  have HM := Lib.hid h
  obtain ⟨m, hm⟩ : ∃ m, s.tasks.length = m := ⟨_, rfl⟩
  have k11 := h.c0 11
  simp only [mdC, List.getElem?_cons_succ, List.getElem?_cons_zero] at k11
  rw [hm] at k11 hil
  have C11 := Lib.hid k11
  have CT := Lib.hid ct
  have CV := Lib.hid cv
  have i1 := idx107 x.tb 0 m m i (i : Int) rfl hil
  simp only [Nat.zero_add] at i1
  have i2 := idx85 g off l c k (k : Int) rfl hkl
  have wj : wrap64 (tx - 1) = (k : Int) := by unfold wrap64; omega
  have wj2 : IntKind.i64.wrap (tx - 1) = (k : Int) := by rw [htx]; exact IntWalk.i64_in _ (by omega)
  clear h h0 hnm hfit hv hx hn htx hil hkl hkb ct cv htv hv1 hv2 hb2 hm k11
  have HKE : Hid (∀ W : World, Below w.heap.size w W → Calls Try.prog 82 #[.pointer (some ⟨p, 0, none⟩), .int .i64 (v : Int)] W (KeysEnd (intK (v : Int) s.rows) W)) := Lib.hid (fun W hW => intents_any B p s _ v W ⟨x, HM.out.later hW, rfl⟩)
  have HE1 : Hid (∀ (W : World) (B0 : Nat) (vk : Value), Below w.heap.size w W → Ow sE W B0 9 vk (intK (v : Int) s.rows).length (intK (v : Int) s.rows) → Calls Try.prog 83 #[.pointer (some ⟨p, 0, none⟩), .int .i64 (v : Int), .int .u8 4, vk, .func (.func 84) #[] #[]] W (NoEnd (endM s v 4 (dropR v)) B p (MxS p x) W)) := Lib.hid (fun W B0 vk hW hk => end_drop B p s _ v 4 B0 vk W ⟨x, HM.out.later hW, rfl⟩ HV.out.1 HV.out.2 HN.out (.inr rfl) hk (HM.out.ok.dropF v))
  have HE0 : Hid (∀ (W : World) (B0 : Nat) (vk : Value), Below w.heap.size w W → Blk W w.heap.size #[.pointer (some ⟨p, 0, none⟩)] 22 → (intK (v : Int) s.rows).length = 0 → Ow sE W B0 9 vk (intK (v : Int) s.rows).length (intK (v : Int) s.rows) → Calls Try.prog 83 #[.pointer (some ⟨p, 0, none⟩), .int .i64 (v : Int), .int .u8 3, vk, .func (.func 85) #[] #[.pointer (some ⟨w.heap.size, 0, none⟩)]] W (NoEnd (endM s v 3 (commR v s.clock)) B p (MxS p x) W)) := Lib.hid (fun W B0 vk hW hbx h0 hk => end_comm B p s _ v 3 w.heap.size B0 vk W ⟨x, HM.out.later hW, rfl⟩ HV.out.1 HV.out.2 HN.out (.inl rfl) hk hbx (fun q hq hw => by
    have := mem_intK.2 ⟨q.2, (show (q.1, q.2) ∈ s.rows from hq), hw⟩
    rw [List.eq_nil_of_length_eq_zero h0] at this; cases this))
  have HE2 : Hid (∀ (W : World) (B0 : Nat) (vk : Value), Below w.heap.size w W → s.clock < s.cf.ts → Blk W w.heap.size #[.pointer (some ⟨p, 0, none⟩)] 22 → Ow sE W B0 9 vk (intK (v : Int) s.rows).length (intK (v : Int) s.rows) → Calls Try.prog 83 #[.pointer (some ⟨p, 0, none⟩), .int .i64 (v : Int), .int .u8 3, vk, .func (.func 85) #[] #[.pointer (some ⟨w.heap.size, 0, none⟩)]] (W.setCell ⟨p, 8, none⟩ (.int .i64 (s.clock + 1))) (NoEnd (endM ⟨s.cf, s.clock + 1, s.floor, s.txns, s.tasks, s.rows⟩ v 3 (commR v (s.clock + 1))) B p (MxS p x) (W.setCell ⟨p, 8, none⟩ (.int .i64 (s.clock + 1))))) := Lib.hid (fun W B0 vk hW hlt hbx hk => by
    have hM := HM.out.later hW
    have hc := HM.out.ok.clk
    have hf := HM.out.ok.flo
    have hM1 := hM.setClock (HM.out.ok.times (c := s.clock + 1) (f := s.floor) (by omega) (by omega))
    have hfr := FrS.head W p 8 x (.int .i64 (s.clock + 1))
    exact end_comm B p ⟨s.cf, s.clock + 1, s.floor, s.txns, s.tasks, s.rows⟩ _ v 3 w.heap.size B0 vk (W.setCell ⟨p, 8, none⟩ (.int .i64 (s.clock + 1))) ⟨x, hM1, rfl⟩ HV.out.1 HV.out.2 HN.out (.inl rfl) (hk.frS hfr (fun k e _ => hM.tags k e) (by decide) (by decide) (by decide) (by decide)) (hfr.blk hbx (fun e => (hM.tags _ e).not hbx (by decide) (by decide) (by decide) (by decide))) (HM.out.ok.commF (by have := HV.out.1; omega)))
  have HA0 : Hid ((intK (v : Int) s.rows).length = 0 → R = (endM s v 3 (commR v s.clock), as0)) := Lib.hid (fun h0 => by
    have e := anyI_false h0
    rw [← HR.out, hkn, actM_comm, if_neg (fun h => by rw [e] at h; exact absurd h.1 (by decide)), if_neg (by rw [e]; decide)])
  have HA1 : Hid (0 < (intK (v : Int) s.rows).length → s.cf.ts ≤ s.clock → R = (endM s v 4 (dropR v), asE_ 35)) := Lib.hid (fun h0 h1 => by
    rw [← HR.out, hkn, actM_comm, if_pos ⟨anyI_true h0, h1⟩])
  have HA2 : Hid (0 < (intK (v : Int) s.rows).length → s.clock < s.cf.ts → R = (endM ⟨s.cf, s.clock + 1, s.floor, s.txns, s.tasks, s.rows⟩ v 3 (commR v (s.clock + 1)), as0)) := Lib.hid (fun h0 h1 => by
    rw [← HR.out, hkn, actM_comm, if_neg (fun h => by have := h.2; omega), if_pos (anyI_true h0)])
  have HCK : Hid (0 ≤ s.clock ∧ s.clock ≤ 1048576) := Lib.hid (by have := HM.out.ok.clk; have := may_lo HM.out.ok.may; omega)
  have c8 := HM.out.c0 8
  have c4 := HM.out.c0 4
  simp only [mdC, List.getElem?_cons_succ, List.getElem?_cons_zero] at c8 c4
  have C8 := Lib.hid c8
  have C4 := Lib.hid c4
  clear HX HN HV hkn HR c8 c4
  generalize endM s v 4 (dropR v) = t1 at *
  generalize endM s v 3 (commR v s.clock) = t0 at *
  generalize endM ⟨s.cf, s.clock + 1, s.floor, s.txns, s.tasks, s.rows⟩ v 3 (commR v (s.clock + 1)) = t2 at *
  generalize intK (v : Int) s.rows = I at *
  obtain ⟨n, hnl⟩ : ∃ n, I.length = n := ⟨_, rfl⟩
  rw [hnl] at HE0 HE1 HE2 HA0 HA1 HA2
  have HNL := Lib.hid hnl
  clear hnl
  generalize s.clock = ck at *
  generalize s.cf.ts = cts at *
  have hmf : ∀ (fn : Fn) (first cap : Array Value) (w : World), (Instr.makeFunc fn first cap).run Try.prog w = .ok (.func fn first cap) w := fun _ _ _ _ => rfl
  go_enter Try.func57, Try.ntmps57
  go_upto_region 1 with (fail)
  generalize (((w.alloc (.cells #[.pointer (some ⟨p, 0, none⟩)] 22)).alloc (.cells #[.int .u8 (kn : Int), .int .i64 tx, .string ke, .string en, .string va, .int .i64 li, .int .u8 (eg : Int)] 36)).alloc (.cells #[.int .i64 0, .bool false, .string ⟨#[]⟩, .slice none 0 0] 33)) = w2 at *
  have q11 := (HB.out.cell (p := ⟨p, 11, none⟩) (lt_of_cell C11.out)).trans C11.out
  have qt := (HB.out.cell (p := ⟨x.tb, i, none⟩) (lt_of_cell CT.out)).trans CT.out
  have qv := (HB.out.cell (p := ⟨g, off + k, none⟩) (lt_of_cell CV.out)).trans CV.out
  have z0 := K5.out.cell 0
  have z1 := K5.out.cell 1
  have z2 := K5.out.cell 2
  have z3 := K5.out.cell 3
  have z4 := K5.out.cell 4
  have z5 := K5.out.cell 5
  have z6 := K5.out.cell 6
  simp only [List.getElem?_toArray, List.getElem?_cons_zero, List.getElem?_cons_succ] at z0 z1 z2 z3 z4 z5 z6
  have zx0 := KX.out.cell 0
  simp only [List.getElem?_toArray, List.getElem?_cons_zero, List.getElem?_cons_succ] at zx0
  go_wp2
  go_quiet (fail)
  rename_i nq
  have hb3 : Below w2.heap.size w2 (w2.drewN nq) := below_drewN (Below.refl _ _) nq
  replace HB := Lib.hid (stepB HB.out hb3)
  replace K5 := Lib.hid (K5.out.later hb3)
  replace K6 := Lib.hid (K6.out.later hb3)
  replace KX := Lib.hid (KX.out.later hb3)
  clear hb3 z0 z1 z2 z3 z4 z5 z6 zx0 q11 qt qv
  generalize w2.drewN nq = w3 at *
  have zx0 := KX.out.cell 0
  simp only [List.getElem?_toArray, List.getElem?_cons_zero, List.getElem?_cons_succ] at zx0
  go_wp2_with fail
  refine (HKE.out _ HB.out).mono ?_
  rintro e w4 ⟨vk, rfl, ho, hb⟩
  replace HB := Lib.hid (stepB HB.out hb)
  replace K5 := Lib.hid (K5.out.later hb)
  replace K6 := Lib.hid (K6.out.later hb)
  replace KX := Lib.hid (KX.out.later hb)
  clear hb
  clear HKE zx0
  rw [HNL.out] at ho
  obtain ⟨A, c, rfl, hs⟩ := ho.sl
  have HO := Lib.hid ho
  clear ho hs
  rcases (by omega : n = 0 ∨ (0 < n ∧ cts ≤ ck) ∨ (0 < n ∧ ck < cts)) with h0 | ⟨h0, h1⟩ | ⟨h0, h1⟩
  · have dn : decide ((n : Int) > 0) = false := decide_eq_false (by omega)
    have dn2 : decide (0 < (n : Int)) = false := decide_eq_false (by omega)
    have dn3 : decide (0 < n) = false := decide_eq_false (by omega)
    have H0 := Lib.hid h0

    clear h0
    have q8 := (HB.out.cell (p := ⟨p, 8, none⟩) (lt_of_cell C8.out)).trans C8.out
    have q4 := (HB.out.cell (p := ⟨p, 4, none⟩) (lt_of_cell C4.out)).trans C4.out
    have zx0 := KX.out.cell 0
    simp only [List.getElem?_toArray, List.getElem?_cons_zero, List.getElem?_cons_succ] at zx0
    go_wp2
    go_quiet (fail)
    rename_i nq
    have hb3 : Below w4.heap.size w4 (w4.drewN nq) := below_drewN (Below.refl _ _) nq
    replace HB := Lib.hid (stepB HB.out hb3)
    replace K6 := Lib.hid (K6.out.later hb3)
    replace KX := Lib.hid (KX.out.later hb3)
    replace HO := Lib.hid (HO.out.later hb3)
    clear hb3 zx0 q8 q4
    generalize w4.drewN nq = w5 at *
    have zx0 := KX.out.cell 0
    simp only [List.getElem?_toArray, List.getElem?_cons_zero, List.getElem?_cons_succ] at zx0
    go_upto_region 8 with (fail)
    go_wp2_with fail
    refine (HE0.out _ _ _ HB.out KX.out H0.out HO.out).mono ?_
    rintro e w7 ⟨rfl, hmv⟩
    have HMV := Lib.hid (hmv.after HB.out)
    clear zx0
    have K65 : Hid (Blk w7 (w.heap.size + 1 + 1) #[.int .i64 0, .bool false, .string ⟨#[]⟩, .slice none 0 0] 33) := Lib.hid (by
      obtain ⟨S', _, hf, _⟩ := hmv
      exact hf.blk K6.out (fun e => by have := (HM.out.lt _ e).2; omega))
    clear hmv
    have u0 := K65.out.cell 0
    have u1 := K65.out.cell 1
    have u2 := K65.out.cell 2
    have u3 := K65.out.cell 3
    simp only [List.getElem?_toArray, List.getElem?_cons_zero, List.getElem?_cons_succ] at u0 u1 u2 u3
    have v0 := K65.out.frozen 0
    have v1 := K65.out.frozen 1
    have v2 := K65.out.frozen 2
    have v3 := K65.out.frozen 3
    have HS := Lib.hid (setB4 K65.out rfl (.int .i64 0) (.bool false) (.string ⟨#[]⟩) (.slice none 0 0) (Below.refl (w.heap.size + 1 + 1) w7) (Nat.le_refl _))
    go_wp2
    refine bodyPost_ret (results_cell_row rfl _ _ (w.heap.size + 1 + 1) 33 _ (0, 0) _ rfl HS.out.1 Try.underlying33 rfl (by kernel_rfl)) rfl ?_
    exact AnEnd.of (HA0.out H0.out) (anEnd0 (mv_set4 HMV.out K65.out))
  · have dn : decide ((n : Int) > 0) = true := decide_eq_true (by omega)
    have dn2 : decide (0 < (n : Int)) = true := decide_eq_true (by omega)
    have dn3 : decide (0 < n) = true := decide_eq_true (by omega)
    have dc : decide (ck ≥ cts) = true := decide_eq_true (by omega)
    have dc2 : decide (cts ≤ ck) = true := decide_eq_true (by omega)
    have H0 := Lib.hid h0
    have H1 := Lib.hid h1
    clear h0 h1
    have q8 := (HB.out.cell (p := ⟨p, 8, none⟩) (lt_of_cell C8.out)).trans C8.out
    have q4 := (HB.out.cell (p := ⟨p, 4, none⟩) (lt_of_cell C4.out)).trans C4.out
    have zx0 := KX.out.cell 0
    simp only [List.getElem?_toArray, List.getElem?_cons_zero, List.getElem?_cons_succ] at zx0
    go_wp2
    go_quiet (fail)
    rename_i nq
    have hb3 : Below w4.heap.size w4 (w4.drewN nq) := below_drewN (Below.refl _ _) nq
    replace HB := Lib.hid (stepB HB.out hb3)
    replace K6 := Lib.hid (K6.out.later hb3)
    replace KX := Lib.hid (KX.out.later hb3)
    replace HO := Lib.hid (HO.out.later hb3)
    clear hb3 zx0 q8 q4
    generalize w4.drewN nq = w5 at *
    have zx0 := KX.out.cell 0
    simp only [List.getElem?_toArray, List.getElem?_cons_zero, List.getElem?_cons_succ] at zx0
    go_wp2_with fail
    refine (HE1.out _ _ _ HB.out HO.out).mono ?_
    rintro e w7 ⟨rfl, hmv⟩
    have HMV := Lib.hid (hmv.after HB.out)
    clear zx0
    have K65 : Hid (Blk w7 (w.heap.size + 1 + 1) #[.int .i64 0, .bool false, .string ⟨#[]⟩, .slice none 0 0] 33) := Lib.hid (by
      obtain ⟨S', _, hf, _⟩ := hmv
      exact hf.blk K6.out (fun e => by have := (HM.out.lt _ e).2; omega))
    clear hmv
    have u0 := K65.out.cell 0
    have u1 := K65.out.cell 1
    have u2 := K65.out.cell 2
    have u3 := K65.out.cell 3
    simp only [List.getElem?_toArray, List.getElem?_cons_zero, List.getElem?_cons_succ] at u0 u1 u2 u3
    have v0 := K65.out.frozen 0
    have v1 := K65.out.frozen 1
    have v2 := K65.out.frozen 2
    have v3 := K65.out.frozen 3
    have HS := Lib.hid (setB4 K65.out rfl (.int .i64 35) (.bool false) (.string ⟨#[]⟩) (.slice none 0 0) (Below.refl (w.heap.size + 1 + 1) w7) (Nat.le_refl _))
    go_wp2
    refine bodyPost_ret (results_cell_row rfl _ _ (w.heap.size + 1 + 1) 33 _ (0, 0) _ rfl HS.out.1 Try.underlying33 rfl (by kernel_rfl)) rfl ?_
    exact AnEnd.of (HA1.out H0.out H1.out) (anEnd0 (mv_set4 HMV.out K65.out))
  · have dn : decide ((n : Int) > 0) = true := decide_eq_true (by omega)
    have dn2 : decide (0 < (n : Int)) = true := decide_eq_true (by omega)
    have dn3 : decide (0 < n) = true := decide_eq_true (by omega)
    have dc : decide (ck ≥ cts) = false := decide_eq_false (by omega)
    have dc2 : decide (cts ≤ ck) = false := decide_eq_false (by omega)
    have H0 := Lib.hid h0
    have H1 := Lib.hid h1
    clear h0 h1
    have q8 := (HB.out.cell (p := ⟨p, 8, none⟩) (lt_of_cell C8.out)).trans C8.out
    have q4 := (HB.out.cell (p := ⟨p, 4, none⟩) (lt_of_cell C4.out)).trans C4.out
    have zx0 := KX.out.cell 0
    simp only [List.getElem?_toArray, List.getElem?_cons_zero, List.getElem?_cons_succ] at zx0
    go_wp2
    go_quiet (fail)
    rename_i nq
    have hb3 : Below w4.heap.size w4 (w4.drewN nq) := below_drewN (Below.refl _ _) nq
    replace HB := Lib.hid (stepB HB.out hb3)
    replace K6 := Lib.hid (K6.out.later hb3)
    replace KX := Lib.hid (KX.out.later hb3)
    replace HO := Lib.hid (HO.out.later hb3)
    clear hb3 zx0 q8 q4
    generalize w4.drewN nq = w5 at *
    have zx0 := KX.out.cell 0
    simp only [List.getElem?_toArray, List.getElem?_cons_zero, List.getElem?_cons_succ] at zx0
    have ws : wrap64 (ck + 1) = ck + 1 := by have := HCK.out; unfold wrap64; omega
    have ws2 : IntKind.i64.wrap (ck + 1) = ck + 1 := IntWalk.i64_in _ (by have := HCK.out; omega)
    have HFH := Lib.hid (FrS.head w5 p 8 x (.int .i64 (ck + 1)))
    have HPX : Hid (¬ MxS p x w.heap.size ∧ ¬ MxS p x (w.heap.size + 1 + 1)) := Lib.hid ⟨fun e => by have := (HM.out.lt _ e).2; omega, fun e => by have := (HM.out.lt _ e).2; omega⟩
    have KX6 := Lib.hid (HFH.out.blk KX.out HPX.out.1)
    have K66 := Lib.hid (HFH.out.blk K6.out HPX.out.2)
    have q8 := (HB.out.cell (p := ⟨p, 8, none⟩) (lt_of_cell C8.out)).trans C8.out
    have f8 := (HM.out.later HB.out).blk.frozen 8
    have zy := KX6.out.cell 0
    simp only [List.getElem?_toArray, List.getElem?_cons_zero, List.getElem?_cons_succ] at zy
    go_wp2_with fail
    refine (HE2.out _ _ _ HB.out H1.out KX.out HO.out).mono ?_
    rintro e w7 ⟨rfl, hmv⟩
    have HMV := Lib.hid ((hmv.behind HFH.out).after HB.out)
    replace K6 := K66
    clear zx0 q8 zy f8
    have K65 : Hid (Blk w7 (w.heap.size + 1 + 1) #[.int .i64 0, .bool false, .string ⟨#[]⟩, .slice none 0 0] 33) := Lib.hid (by
      obtain ⟨S', _, hf, _⟩ := hmv
      exact hf.blk K6.out (fun e => by have := (HM.out.lt _ e).2; omega))
    clear hmv
    have u0 := K65.out.cell 0
    have u1 := K65.out.cell 1
    have u2 := K65.out.cell 2
    have u3 := K65.out.cell 3
    simp only [List.getElem?_toArray, List.getElem?_cons_zero, List.getElem?_cons_succ] at u0 u1 u2 u3
    have v0 := K65.out.frozen 0
    have v1 := K65.out.frozen 1
    have v2 := K65.out.frozen 2
    have v3 := K65.out.frozen 3
    have HS := Lib.hid (setB4 K65.out rfl (.int .i64 0) (.bool false) (.string ⟨#[]⟩) (.slice none 0 0) (Below.refl (w.heap.size + 1 + 1) w7) (Nat.le_refl _))
    go_wp2
    refine bodyPost_ret (results_cell_row rfl _ _ (w.heap.size + 1 + 1) 33 _ (0, 0) _ rfl HS.out.1 Try.underlying33 rfl (by kernel_rfl)) rfl ?_
    exact AnEnd.of (HA2.out H0.out H1.out) (anEnd0 (mv_set4 HMV.out K65.out))
end Go.Proofs.Ytoinjnocopejjaa
