/- remove, get. -/
import Derived.Test.YtoinjnocopejjaaMY
import Derived.StillTailTactics
namespace Go.Proofs.Ytoinjnocopejjaa
open Go.ChangeShapes Go.WideShapes Go.ChangeAt Go.RowKit Go.Maps
set_option linter.unusedVariables false
set_option linter.unusedSimpArgs false
theorem actM_del (s : MS) (t w tx li : Int) (ke en va : ByteArray) (eg : Nat) : actM s t w (4, tx, ke, en, va, li, eg) = if clashM s w (getR s ke) = true then (s, asE_ 33) else if readB s w (getR s ke) = false then (s, as0) else ((wrM s ke ⟨w, 0, true, emp⟩).2, ((wrM s ke ⟨w, 0, true, emp⟩).1, (wrM s ke ⟨w, 0, true, emp⟩).1 == 0, emp, [])) := by
  show (if clashM s w (getR s ke) = true then (s, asE_ 33) else if readB s w (getR s ke) = false then (s, as0) else if fullM s ke = true then (s, asE_ 34) else (putM s ke ⟨w, 0, true, emp⟩, (0, true, emp, []))) = _
  split
  · rfl
  split
  · rfl
  · unfold wrM
    split <;> rfl
set_option maxRecDepth 100000 in
set_option maxHeartbeats 16000000 in
theorem remove_any (B p : Nat) (s : MS) (S : Nat → Prop) (t : Int) (tx li : Int) (ke en va : ByteArray) (kn eg : Nat) (w : World) (h : MR w B p s S) (h0 : refM s t (kn, tx, ke, en, va, li, eg) = 0) (hkn : kn = 4) (hn : s.txns.length ≤ 100000) (hx : COk (kn, tx, ke, en, va, li, eg)) : Calls Try.prog 55 #[.pointer (some ⟨p, 0, none⟩), .int .i64 t, .agg #[.int .u8 (kn : Int), .int .i64 tx, .string ke, .string en, .string va, .int .i64 li, .int .u8 (eg : Int)]] w (AnEnd (actM s t (txW s t tx) (kn, tx, ke, en, va, li, eg)).2 (actM s t (txW s t tx) (kn, tx, ke, en, va, li, eg)).1 B p S w) := by
  obtain ⟨x, h, rfl⟩ := h
  obtain ⟨_, _, hnm, hfit, _⟩ := refM_0 h0
  have hv := (hnm (named_of (by simp only; omega))).1
  simp only at hv
  obtain ⟨i, k, g, off, l, c, v, rfl, htx, hil, hkl, hkb, ct, cv, htv, hv1, hv2⟩ := h.wr hn hv
  have HFS : Hid (ke.size ≤ 64) := Lib.hid (fits_sz h.ok.may (x := (kn, tx, ke, en, va, li, eg)) (by simp only; omega) hfit)
  have HX := Lib.hid hx
  have HN := Lib.hid hn
  have HV := Lib.hid (And.intro hv1 hv2)
  rw [htv]
  obtain ⟨R, hR⟩ : ∃ R, actM s (i : Int) (v : Int) (kn, tx, ke, en, va, li, eg) = R := ⟨_, rfl⟩
  have HR := Lib.hid hR
  rw [hR]
  clear hR
  have hb2 : Below w.heap.size w ((w.alloc (.cells #[.int .u8 (kn : Int), .int .i64 tx, .string ke, .string en, .string va, .int .i64 li, .int .u8 (eg : Int)] 36)).alloc (.cells #[.int .i64 0, .bool false, .string ⟨#[]⟩, .slice none 0 0] 33)) := ((Below.refl _ _).alloc (Nat.le_refl _) _).alloc (by simp) _
  have HB := Lib.hid hb2
  have K5 : Hid (Blk ((w.alloc (.cells #[.int .u8 (kn : Int), .int .i64 tx, .string ke, .string en, .string va, .int .i64 li, .int .u8 (eg : Int)] 36)).alloc (.cells #[.int .i64 0, .bool false, .string ⟨#[]⟩, .slice none 0 0] 33)) w.heap.size #[.int .u8 (kn : Int), .int .i64 tx, .string ke, .string en, .string va, .int .i64 li, .int .u8 (eg : Int)] 36) := Lib.hid ((Blk.new w _ 36).alloc _)
  have K6 : Hid (Blk ((w.alloc (.cells #[.int .u8 (kn : Int), .int .i64 tx, .string ke, .string en, .string va, .int .i64 li, .int .u8 (eg : Int)] 36)).alloc (.cells #[.int .i64 0, .bool false, .string ⟨#[]⟩, .slice none 0 0] 33)) (w.heap.size + 1) #[.int .i64 0, .bool false, .string ⟨#[]⟩, .slice none 0 0] 33) := Lib.hid (Blk.new2 _ _ 33 (by simp))
  have HM := Lib.hid h
  obtain ⟨m, hm⟩ : ∃ m, s.tasks.length = m := ⟨_, rfl⟩
  have k11 := h.c0 11
  simp only [mdC, List.getElem?_cons_succ, List.getElem?_cons_zero] at k11
  rw [hm] at k11 hil
  have C11 := Lib.hid k11
  have CT := Lib.hid ct
  have CV := Lib.hid cv
  have i1 := idx107 x.tb 0 m m i (i : Int) rfl hil
  simp only [Nat.zero_add] at i1
  have i2 := idx85 g off l c k (k : Int) rfl hkl
  have wj : wrap64 (tx - 1) = (k : Int) := by unfold wrap64; omega
  have wj2 : IntKind.i64.wrap (tx - 1) = (k : Int) := by rw [htx]; exact IntWalk.i64_in _ (by omega)
  clear h h0 hnm hfit hv hx hn htx hil hkl hkb ct cv htv hv1 hv2 hb2 hm k11
  have HCW : Hid (∀ W : World, Below w.heap.size w W → Calls Try.prog 79 #[.pointer (some ⟨p, 0, none⟩), .int .i64 (v : Int), .string ke] W fun e w' => e = .returned (.bool (clashM s (v : Int) (getR s ke))) ∧ Below W.heap.size W w') := Lib.hid (fun W hW => clashm_any B p s _ v ke W ⟨x, HM.out.later hW, rfl⟩ HV.out.1 HV.out.2 HN.out HX.out.2.2.2.2.1)
  have HRW : Hid (∀ W : World, Below w.heap.size w W → Calls Try.prog 78 #[.pointer (some ⟨p, 0, none⟩), .int .i64 (v : Int), .string ke] W (RdEnd (readV s (v : Int) (getR s ke)) (readB s (v : Int) (getR s ke)) W)) := Lib.hid (fun W hW => read_any B p s _ v ke W ⟨x, HM.out.later hW, rfl⟩ HV.out.1 HV.out.2 HN.out HX.out.2.2.2.2.1)
  have HWW : Hid (∀ W : World, Below w.heap.size w W → Calls Try.prog 80 #[.pointer (some ⟨p, 0, none⟩), .string ke, .agg #[.int .i64 (v : Int), .int .i64 0, .bool true, .string ⟨#[]⟩]] W (ErMv (wrM s ke ⟨v, 0, true, emp⟩).1 (wrM s ke ⟨v, 0, true, emp⟩).2 B p (MxS p x) W)) := Lib.hid (fun W hW => write_any B p s _ ke (v : Int) 0 true ⟨#[]⟩ W ⟨x, HM.out.later hW, rfl⟩ HX.out.2.2.2.2.1 (fun hf => HM.out.ok.put (by have := HV.out; simp only; omega) rfl HFS.out hf))
  have HA : Hid (R = if clashM s v (getR s ke) = true then (s, asE_ 33) else if readB s v (getR s ke) = false then (s, as0) else ((wrM s ke ⟨v, 0, true, emp⟩).2, ((wrM s ke ⟨v, 0, true, emp⟩).1, (wrM s ke ⟨v, 0, true, emp⟩).1 == 0, emp, []))) := Lib.hid (by rw [← HR.out, hkn]; exact actM_del ..)
  clear HX HN HV hkn HR HFS
  generalize clashM s v (getR s ke) = cb at *
  generalize readB s v (getR s ke) = rb at *
  generalize readV s v (getR s ke) = rv at *
  obtain ⟨rw_, rts, rtm, rvv⟩ := rv
  unfold RdEnd at HRW
  rw [Ver.agg_eq] at HRW
  simp only at HRW
  generalize wrM s ke ⟨v, 0, true, emp⟩ = wr at *
  obtain ⟨r, s'⟩ := wr
  simp only at HWW HA
  go_enter Try.func55, Try.ntmps55
  go_upto_region 1 with (fail)
  generalize ((w.alloc (.cells #[.int .u8 (kn : Int), .int .i64 tx, .string ke, .string en, .string va, .int .i64 li, .int .u8 (eg : Int)] 36)).alloc (.cells #[.int .i64 0, .bool false, .string ⟨#[]⟩, .slice none 0 0] 33)) = w2 at *
  have q11 := (HB.out.cell (p := ⟨p, 11, none⟩) (lt_of_cell C11.out)).trans C11.out
  have qt := (HB.out.cell (p := ⟨x.tb, i, none⟩) (lt_of_cell CT.out)).trans CT.out
  have qv := (HB.out.cell (p := ⟨g, off + k, none⟩) (lt_of_cell CV.out)).trans CV.out
  have z0 := K5.out.cell 0
  have z1 := K5.out.cell 1
  have z2 := K5.out.cell 2
  have z3 := K5.out.cell 3
  have z4 := K5.out.cell 4
  have z5 := K5.out.cell 5
  have z6 := K5.out.cell 6
  simp only [List.getElem?_toArray, List.getElem?_cons_zero, List.getElem?_cons_succ] at z0 z1 z2 z3 z4 z5 z6
  go_wp2
  go_quiet (fail)
  rename_i nq
  have hb3 : Below w2.heap.size w2 (w2.drewN nq) := below_drewN (Below.refl _ _) nq
  replace HB := Lib.hid (stepB HB.out hb3)
  replace K5 := Lib.hid (K5.out.later hb3)
  replace K6 := Lib.hid (K6.out.later hb3)
  clear hb3 z0 z1 z2 z3 z4 z5 z6 q11 qt qv
  generalize w2.drewN nq = w3 at *
  have z0 := K5.out.cell 0
  have z1 := K5.out.cell 1
  have z2 := K5.out.cell 2
  have z3 := K5.out.cell 3
  have z4 := K5.out.cell 4
  have z5 := K5.out.cell 5
  have z6 := K5.out.cell 6
  simp only [List.getElem?_toArray, List.getElem?_cons_zero, List.getElem?_cons_succ] at z0 z1 z2 z3 z4 z5 z6
  go_wp2_with fail
  refine (HCW.out _ HB.out).mono ?_
  rintro e w4 ⟨rfl, hb⟩
  replace HB := Lib.hid (stepB HB.out hb)
  replace K5 := Lib.hid (K5.out.later hb)
  replace K6 := Lib.hid (K6.out.later hb)
  clear hb
  clear z0 z1 z2 z3 z4 z5 z6
  cases cb with
  | true =>
    have u0 := K6.out.cell 0
    have u1 := K6.out.cell 1
    have u2 := K6.out.cell 2
    have u3 := K6.out.cell 3
    simp only [List.getElem?_toArray, List.getElem?_cons_zero, List.getElem?_cons_succ] at u0 u1 u2 u3
    have v0 := K6.out.frozen 0
    have v1 := K6.out.frozen 1
    have v2 := K6.out.frozen 2
    have v3 := K6.out.frozen 3
    have HS := Lib.hid (setB4 K6.out rfl (.int .i64 33) (.bool false) (.string ⟨#[]⟩) (.slice none 0 0) HB.out (Nat.le_succ _))
    go_wp2
    refine bodyPost_ret (results_cell_row rfl _ _ (w.heap.size + 1) 33 _ (0, 0) _ rfl HS.out.1 Try.underlying33 rfl (by kernel_rfl)) rfl ?_
    exact AnEnd.of (HA.out) (anEnd0 ((Mv.same ⟨x, HM.out, rfl⟩ HS.out.2)))
  | false =>
    have z0 := K5.out.cell 0
    have z1 := K5.out.cell 1
    have z2 := K5.out.cell 2
    have z3 := K5.out.cell 3
    have z4 := K5.out.cell 4
    have z5 := K5.out.cell 5
    have z6 := K5.out.cell 6
    simp only [List.getElem?_toArray, List.getElem?_cons_zero, List.getElem?_cons_succ] at z0 z1 z2 z3 z4 z5 z6
    go_wp2_with fail
    refine (HRW.out _ HB.out).mono ?_
    rintro e w5 ⟨rfl, hb⟩
    replace HB := Lib.hid (stepB HB.out hb)
    replace K5 := Lib.hid (K5.out.later hb)
    replace K6 := Lib.hid (K6.out.later hb)
    clear hb
    clear z0 z1 z2 z3 z4 z5 z6
    have hb6 : Below w5.heap.size w5 (w5.alloc (.cells #[.int .i64 rw_, .int .i64 rts, .bool rtm, .string rvv] 26)) := (Below.refl _ _).alloc (Nat.le_refl _) _
    replace HB := Lib.hid (stepB HB.out hb6)
    replace K5 := Lib.hid (K5.out.later hb6)
    replace K6 := Lib.hid (K6.out.later hb6)
    clear hb6
    go_upto_region 5 with (fail)
    generalize (w5.alloc (.cells #[.int .i64 rw_, .int .i64 rts, .bool rtm, .string rvv] 26)) = w6 at *
    cases rb with
    | false =>
      have u0 := K6.out.cell 0
      have u1 := K6.out.cell 1
      have u2 := K6.out.cell 2
      have u3 := K6.out.cell 3
      simp only [List.getElem?_toArray, List.getElem?_cons_zero, List.getElem?_cons_succ] at u0 u1 u2 u3
      have v0 := K6.out.frozen 0
      have v1 := K6.out.frozen 1
      have v2 := K6.out.frozen 2
      have v3 := K6.out.frozen 3
      have HS := Lib.hid (setB4 K6.out rfl (.int .i64 0) (.bool false) (.string ⟨#[]⟩) (.slice none 0 0) HB.out (Nat.le_succ _))
      go_wp2
      refine bodyPost_ret (results_cell_row rfl _ _ (w.heap.size + 1) 33 _ (0, 0) _ rfl HS.out.1 Try.underlying33 rfl (by kernel_rfl)) rfl ?_
      exact AnEnd.of (HA.out) (anEnd0 ((Mv.same ⟨x, HM.out, rfl⟩ HS.out.2)))
    | true =>
      have z0 := K5.out.cell 0
      have z1 := K5.out.cell 1
      have z2 := K5.out.cell 2
      have z3 := K5.out.cell 3
      have z4 := K5.out.cell 4
      have z5 := K5.out.cell 5
      have z6 := K5.out.cell 6
      simp only [List.getElem?_toArray, List.getElem?_cons_zero, List.getElem?_cons_succ] at z0 z1 z2 z3 z4 z5 z6
      go_wp2_with fail
      refine (HWW.out _ HB.out).mono ?_
      rintro e w7 ⟨rfl, hmv⟩
      have HMV := Lib.hid (hmv.after HB.out)
      have K65 : Hid (Blk w7 (w.heap.size + 1) #[.int .i64 0, .bool false, .string ⟨#[]⟩, .slice none 0 0] 33) := Lib.hid (by
        obtain ⟨S', _, hf, _⟩ := hmv
        exact hf.blk K6.out (fun e => by have := (HM.out.lt _ e).2; omega))
      clear hmv z0 z1 z2 z3 z4 z5 z6
      have u0 := K65.out.cell 0
      have u1 := K65.out.cell 1
      have u2 := K65.out.cell 2
      have u3 := K65.out.cell 3
      simp only [List.getElem?_toArray, List.getElem?_cons_zero, List.getElem?_cons_succ] at u0 u1 u2 u3
      have v0 := K65.out.frozen 0
      have v1 := K65.out.frozen 1
      have v2 := K65.out.frozen 2
      have v3 := K65.out.frozen 3
      have HS := Lib.hid (setB4 K65.out rfl (.int .i64 r) (.bool (r == 0)) (.string ⟨#[]⟩) (.slice none 0 0) (Below.refl (w.heap.size + 1) w7) (Nat.le_refl _))
      go_wp2
      refine bodyPost_ret (results_cell_row rfl _ _ (w.heap.size + 1) 33 _ (0, 0) _ rfl HS.out.1 Try.underlying33 rfl (by kernel_rfl)) rfl ?_
      exact AnEnd.of HA.out (anEnd0 (mv_set4 HMV.out K65.out))
theorem actM_get (s : MS) (t w tx li : Int) (ke en va : ByteArray) (eg : Nat) : actM s t w (2, tx, ke, en, va, li, eg) = (s, if readB s w (getR s ke) = true then (0, true, (readV s w (getR s ke)).val, []) else as0) := rfl
set_option maxRecDepth 100000 in
set_option maxHeartbeats 16000000 in
theorem get_any (B p : Nat) (s : MS) (S : Nat → Prop) (t : Int) (tx li : Int) (ke en va : ByteArray) (kn eg : Nat) (w : World) (h : MR w B p s S) (h0 : refM s t (kn, tx, ke, en, va, li, eg) = 0) (hkn : kn = 2) (hn : s.txns.length ≤ 100000) (hx : COk (kn, tx, ke, en, va, li, eg)) : Calls Try.prog 53 #[.pointer (some ⟨p, 0, none⟩), .int .i64 t, .agg #[.int .u8 (kn : Int), .int .i64 tx, .string ke, .string en, .string va, .int .i64 li, .int .u8 (eg : Int)]] w (AnEnd (actM s t (txW s t tx) (kn, tx, ke, en, va, li, eg)).2 (actM s t (txW s t tx) (kn, tx, ke, en, va, li, eg)).1 B p S w) := by
  obtain ⟨x, h, rfl⟩ := h
  obtain ⟨_, _, hnm, hfit, _⟩ := refM_0 h0
  have hv := (hnm (named_of (by simp only; omega))).1
  simp only at hv
  obtain ⟨i, k, g, off, l, c, v, rfl, htx, hil, hkl, hkb, ct, cv, htv, hv1, hv2⟩ := h.wr hn hv
  have HFS : Hid (ke.size ≤ 64) := Lib.hid (fits_sz h.ok.may (x := (kn, tx, ke, en, va, li, eg)) (by simp only; omega) hfit)
  have HX := Lib.hid hx
  have HN := Lib.hid hn
  have HV := Lib.hid (And.intro hv1 hv2)
  rw [htv]
  obtain ⟨R, hR⟩ : ∃ R, actM s (i : Int) (v : Int) (kn, tx, ke, en, va, li, eg) = R := ⟨_, rfl⟩
  have HR := Lib.hid hR
  rw [hR]
  clear hR
  have hb2 : Below w.heap.size w ((w.alloc (.cells #[.int .u8 (kn : Int), .int .i64 tx, .string ke, .string en, .string va, .int .i64 li, .int .u8 (eg : Int)] 36)).alloc (.cells #[.int .i64 0, .bool false, .string ⟨#[]⟩, .slice none 0 0] 33)) := ((Below.refl _ _).alloc (Nat.le_refl _) _).alloc (by simp) _
  have HB := Lib.hid hb2
  have K5 : Hid (Blk ((w.alloc (.cells #[.int .u8 (kn : Int), .int .i64 tx, .string ke, .string en, .string va, .int .i64 li, .int .u8 (eg : Int)] 36)).alloc (.cells #[.int .i64 0, .bool false, .string ⟨#[]⟩, .slice none 0 0] 33)) w.heap.size #[.int .u8 (kn : Int), .int .i64 tx, .string ke, .string en, .string va, .int .i64 li, .int .u8 (eg : Int)] 36) := Lib.hid ((Blk.new w _ 36).alloc _)
  have K6 : Hid (Blk ((w.alloc (.cells #[.int .u8 (kn : Int), .int .i64 tx, .string ke, .string en, .string va, .int .i64 li, .int .u8 (eg : Int)] 36)).alloc (.cells #[.int .i64 0, .bool false, .string ⟨#[]⟩, .slice none 0 0] 33)) (w.heap.size + 1) #[.int .i64 0, .bool false, .string ⟨#[]⟩, .slice none 0 0] 33) := Lib.hid (Blk.new2 _ _ 33 (by simp))
  have HM := Lib.hid h
  obtain ⟨m, hm⟩ : ∃ m, s.tasks.length = m := ⟨_, rfl⟩
  have k11 := h.c0 11
  simp only [mdC, List.getElem?_cons_succ, List.getElem?_cons_zero] at k11
  rw [hm] at k11 hil
  have C11 := Lib.hid k11
  have CT := Lib.hid ct
  have CV := Lib.hid cv
  have i1 := idx107 x.tb 0 m m i (i : Int) rfl hil
  simp only [Nat.zero_add] at i1
  have i2 := idx85 g off l c k (k : Int) rfl hkl
  have wj : wrap64 (tx - 1) = (k : Int) := by unfold wrap64; omega
  have wj2 : IntKind.i64.wrap (tx - 1) = (k : Int) := by rw [htx]; exact IntWalk.i64_in _ (by omega)
  clear h h0 hnm hfit hv hx hn htx hil hkl hkb ct cv htv hv1 hv2 hb2 hm k11
  have HRW : Hid (∀ W : World, Below w.heap.size w W → Calls Try.prog 78 #[.pointer (some ⟨p, 0, none⟩), .int .i64 (v : Int), .string ke] W (RdEnd (readV s (v : Int) (getR s ke)) (readB s (v : Int) (getR s ke)) W)) := Lib.hid (fun W hW => read_any B p s _ v ke W ⟨x, HM.out.later hW, rfl⟩ HV.out.1 HV.out.2 HN.out HX.out.2.2.2.2.1)
  have HA : Hid (R = (s, if readB s v (getR s ke) = true then (0, true, (readV s v (getR s ke)).val, []) else as0)) := Lib.hid (by rw [← HR.out, hkn]; exact actM_get ..)
  clear HX HN HV hkn HR HFS
  generalize readB s v (getR s ke) = rb at *
  generalize readV s v (getR s ke) = rv at *
  obtain ⟨rw_, rts, rtm, rvv⟩ := rv
  unfold RdEnd at HRW
  rw [Ver.agg_eq] at HRW
  simp only at HRW HA
  go_enter Try.func53, Try.ntmps53
  go_upto_region 1 with (fail)
  generalize ((w.alloc (.cells #[.int .u8 (kn : Int), .int .i64 tx, .string ke, .string en, .string va, .int .i64 li, .int .u8 (eg : Int)] 36)).alloc (.cells #[.int .i64 0, .bool false, .string ⟨#[]⟩, .slice none 0 0] 33)) = w2 at *
  refine wp_region_noPanic ?_
  obtain ⟨W0, rfl⟩ : ∃ W0 : World, W0 = w2 := ⟨_, rfl⟩
  refine wp_region_held_drew (S := fun W => Below W0.heap.size W0 W) (by kernel_rfl) (Below.drew (Below.refl _ _)) (fun hHeld => ?_)
  have HH : Hid (Below W0.heap.size W0 (World.drew W0)) := Lib.hid (Below.drew (Below.refl _ _))
  generalize World.drew W0 = Wd at *
  refine wpAnyH_take (i := 0) (oi := { dst := some 10, op := Op.move (Operand.tmp 0), type := 22, pos := "model.go:134", after := #[], guard := none }) (v := ?_) rfl (by kernel_rfl) (by kernel_rfl) (by kernel_rfl) (fun _ _ _ h => h) (Or.inl ⟨by rfl, ?_⟩) (by assumption) ?_
  rotate_left
  · intro W hSw
    clear hSw
    go_simp
    try with_reducible rfl
  simp only [Act.put, List.setIfInBounds_toArray, List.set_cons_zero, List.set_cons_succ]
  refine wpAnyH_take (i := 1) (oi := { dst := some 11, op := Op.move (Operand.tmp 0), type := 22, pos := "model.go:134", after := #[], guard := none }) (v := ?_) rfl (by kernel_rfl) (by kernel_rfl) (by kernel_rfl) (fun _ _ _ h => h) (Or.inl ⟨by rfl, ?_⟩) (by assumption) ?_
  rotate_left
  · intro W hSw
    clear hSw
    go_simp
    try with_reducible rfl
  simp only [Act.put, List.setIfInBounds_toArray, List.set_cons_zero, List.set_cons_succ]
  refine wpAnyH_take (i := 2) (oi := { dst := some 12, op := Op.nilCheck (Operand.tmp 11), type := 0, pos := "model.go:134", after := #[{ on := 1, ground := Ground.data }], guard := none }) (v := ?_) rfl (by kernel_rfl) (by kernel_rfl) (by kernel_rfl) (fun _ _ _ h => h) (Or.inl ⟨by rfl, ?_⟩) (by assumption) ?_
  rotate_left
  · intro W hSw
    clear hSw
    go_simp
    try with_reducible rfl
  simp only [Act.put, List.setIfInBounds_toArray, List.set_cons_zero, List.set_cons_succ]
  refine wpAnyH_take (i := 3) (oi := { dst := some 13, op := Op.fieldAddr 110 (Operand.tmp 12) 4, type := 0, pos := "model.go:134", after := #[{ on := 2, ground := Ground.data }], guard := none }) (v := ?_) rfl (by kernel_rfl) (by kernel_rfl) (by kernel_rfl) (fun _ _ _ h => h) (Or.inl ⟨by rfl, ?_⟩) (by assumption) ?_
  rotate_left
  · intro W hSw
    clear hSw
    go_simp
    try with_reducible rfl
  simp only [Act.put, List.setIfInBounds_toArray, List.set_cons_zero, List.set_cons_succ]
  refine wpAnyH_take (i := 4) (oi := { dst := some 14, op := Op.load 107 (Operand.tmp 13), type := 107, pos := "model.go:134", after := #[{ on := 3, ground := Ground.data }], guard := none }) (v := ?_) rfl (by kernel_rfl) (by kernel_rfl) (by kernel_rfl) (fun _ _ _ h => h) (Or.inl ⟨by rfl, ?_⟩) (by assumption) ?_
  rotate_left
  · intro W hSw
    have hq := stepB HB.out hSw
    have q11 := (hq.cell (p := ⟨p, 11, none⟩) (lt_of_cell C11.out)).trans C11.out
    clear hSw hq
    go_simp
    try with_reducible rfl
  simp only [Act.put, List.setIfInBounds_toArray, List.set_cons_zero, List.set_cons_succ]
  refine wpAnyH_take (i := 5) (oi := { dst := some 15, op := Op.move (Operand.tmp 1), type := 3, pos := "model.go:134", after := #[], guard := none }) (v := ?_) rfl (by kernel_rfl) (by kernel_rfl) (by kernel_rfl) (fun _ _ _ h => h) (Or.inl ⟨by rfl, ?_⟩) (by assumption) ?_
  rotate_left
  · intro W hSw
    clear hSw
    go_simp
    try with_reducible rfl
  simp only [Act.put, List.setIfInBounds_toArray, List.set_cons_zero, List.set_cons_succ]
  refine wpAnyH_take (i := 6) (oi := { dst := some 16, op := Op.indexAddr 107 (Operand.tmp 14) (Operand.tmp 15), type := 0, pos := "model.go:134", after := #[{ on := 4, ground := Ground.data }, { on := 5, ground := Ground.data }], guard := none }) (v := ?_) rfl (by kernel_rfl) (by kernel_rfl) (by kernel_rfl) (fun _ _ _ h => h) (Or.inl ⟨by rfl, ?_⟩) (by assumption) ?_
  rotate_left
  · intro W hSw
    clear hSw
    go_simp
    try with_reducible rfl
  simp only [Act.put, List.setIfInBounds_toArray, List.set_cons_zero, List.set_cons_succ]
  refine wpAnyH_take (i := 7) (oi := { dst := some 17, op := Op.load 85 (Operand.tmp 16), type := 85, pos := "model.go:134", after := #[{ on := 6, ground := Ground.data }], guard := none }) (v := ?_) rfl (by kernel_rfl) (by kernel_rfl) (by kernel_rfl) (fun _ _ _ h => h) (Or.inl ⟨by rfl, ?_⟩) (by assumption) ?_
  rotate_left
  · intro W hSw
    have hq := stepB HB.out hSw
    have qt := (hq.cell (p := ⟨x.tb, i, none⟩) (lt_of_cell CT.out)).trans CT.out
    clear hSw hq
    go_simp
    try with_reducible rfl
  simp only [Act.put, List.setIfInBounds_toArray, List.set_cons_zero, List.set_cons_succ]
  refine wpAnyH_take (i := 8) (oi := { dst := some 18, op := Op.fieldAddr 36 (Operand.tmp 5) 1, type := 0, pos := "model.go:134", after := #[], guard := none }) (v := ?_) rfl (by kernel_rfl) (by kernel_rfl) (by kernel_rfl) (fun _ _ _ h => h) (Or.inl ⟨by rfl, ?_⟩) (by assumption) ?_
  rotate_left
  · intro W hSw
    clear hSw
    go_simp
    try with_reducible rfl
  simp only [Act.put, List.setIfInBounds_toArray, List.set_cons_zero, List.set_cons_succ]
  refine wpAnyH_take (i := 9) (oi := { dst := some 19, op := Op.load 3 (Operand.tmp 18), type := 3, pos := "model.go:134", after := #[{ on := 8, ground := Ground.data }], guard := none }) (v := ?_) rfl (by kernel_rfl) (by kernel_rfl) (by kernel_rfl) (fun _ _ _ h => h) (Or.inl ⟨by rfl, ?_⟩) (by assumption) ?_
  rotate_left
  · intro W hSw
    have hk5 := K5.out.later hSw
    have z := hk5.cell 1
    simp only [List.getElem?_toArray, List.getElem?_cons_zero, List.getElem?_cons_succ] at z
    clear hSw hk5
    go_simp
    try with_reducible rfl
  simp only [Act.put, List.setIfInBounds_toArray, List.set_cons_zero, List.set_cons_succ]
  refine wpAnyH_take (i := 10) (oi := { dst := some 20, op := Op.binOp BinOp.sub 3 (Operand.tmp 19) (Operand.const (Value.int IntKind.i64 1)) 3, type := 3, pos := "model.go:134", after := #[{ on := 9, ground := Ground.data }], guard := none }) (v := ?_) rfl (by kernel_rfl) (by kernel_rfl) (by kernel_rfl) (fun _ _ _ h => h) (Or.inl ⟨by rfl, ?_⟩) (by assumption) ?_
  rotate_left
  · intro W hSw
    clear hSw
    go_simp
    try with_reducible rfl
  simp only [Act.put, List.setIfInBounds_toArray, List.set_cons_zero, List.set_cons_succ]
  refine wpAnyH_take (i := 11) (oi := { dst := some 21, op := Op.indexAddr 85 (Operand.tmp 17) (Operand.tmp 20), type := 0, pos := "model.go:134", after := #[{ on := 7, ground := Ground.data }, { on := 10, ground := Ground.data }], guard := none }) (v := ?_) rfl (by kernel_rfl) (by kernel_rfl) (by kernel_rfl) (fun _ _ _ h => h) (Or.inl ⟨by rfl, ?_⟩) (by assumption) ?_
  rotate_left
  · intro W hSw
    clear hSw
    go_simp
    try with_reducible rfl
  simp only [Act.put, List.setIfInBounds_toArray, List.set_cons_zero, List.set_cons_succ]
  refine wpAnyH_take (i := 12) (oi := { dst := some 22, op := Op.load 3 (Operand.tmp 21), type := 3, pos := "model.go:134", after := #[{ on := 11, ground := Ground.data }], guard := none }) (v := ?_) rfl (by kernel_rfl) (by kernel_rfl) (by kernel_rfl) (fun _ _ _ h => h) (Or.inl ⟨by rfl, ?_⟩) (by assumption) ?_
  rotate_left
  · intro W hSw
    have hq := stepB HB.out hSw
    have qv := (hq.cell (p := ⟨g, off + k, none⟩) (lt_of_cell CV.out)).trans CV.out
    clear hSw hq
    go_simp
    try with_reducible rfl
  simp only [Act.put, List.setIfInBounds_toArray, List.set_cons_zero, List.set_cons_succ]
  refine wpAnyH_take (i := 13) (oi := { dst := some 23, op := Op.fieldAddr 36 (Operand.tmp 5) 2, type := 0, pos := "model.go:134", after := #[], guard := none }) (v := ?_) rfl (by kernel_rfl) (by kernel_rfl) (by kernel_rfl) (fun _ _ _ h => h) (Or.inl ⟨by rfl, ?_⟩) (by assumption) ?_
  rotate_left
  · intro W hSw
    clear hSw
    go_simp
    try with_reducible rfl
  simp only [Act.put, List.setIfInBounds_toArray, List.set_cons_zero, List.set_cons_succ]
  refine wpAnyH_take (i := 14) (oi := { dst := some 24, op := Op.load 9 (Operand.tmp 23), type := 9, pos := "model.go:134", after := #[{ on := 13, ground := Ground.data }], guard := none }) (v := ?_) rfl (by kernel_rfl) (by kernel_rfl) (by kernel_rfl) (fun _ _ _ h => h) (Or.inl ⟨by rfl, ?_⟩) (by assumption) ?_
  rotate_left
  · intro W hSw
    have hk5 := K5.out.later hSw
    have z := hk5.cell 2
    simp only [List.getElem?_toArray, List.getElem?_cons_zero, List.getElem?_cons_succ] at z
    clear hSw hk5
    go_simp
    try with_reducible rfl
  simp only [Act.put, List.setIfInBounds_toArray, List.set_cons_zero, List.set_cons_succ]
  refine wpAnyH_ready (rs := [15, 19]) (by kernel_rfl) (by simp) (AllReadyH.cons (o := { dst := some 25, op := Op.call { callee := Callee.value (Operand.func 78), args := #[Operand.tmp 10, Operand.tmp 22, Operand.tmp 24], argTypes := #[22, 3, 9] }, type := 27, pos := "model.go:134", after := #[{ on := 0, ground := Ground.data }, { on := 12, ground := Ground.data }, { on := 14, ground := Ground.data }], guard := none }) rfl (fun K hK => ?_) (AllReadyH.cons (o := { dst := some 7, op := Op.alloc 26, type := 0, pos := "model.go:134", after := #[], guard := none }) rfl (fun K hK => ?_) AllReadyH.nil))
  · have HCL := Lib.hid (HRW.out Wd (stepB HB.out HH.out))
    go_simp
    refine HCL.out.mono ?_
    rintro e W4 ⟨rfl, hb⟩
    replace HH := Lib.hid (stepB HH.out hb)
    clear hb HCL hHeld
    refine hK.out _ _ (HH.out) (fun hHeld => ?_)
    clear hK K
    refine wpAnyH_take (i := 16) (oi := { dst := some 9, op := Op.move (Operand.tmp 25), type := 27, pos := "model.go:134", after := #[{ on := 15, ground := Ground.data }], guard := none }) (v := ?_) rfl (by kernel_rfl) (by kernel_rfl) (by kernel_rfl) (fun _ _ _ h => h) (Or.inl ⟨by rfl, ?_⟩) (by assumption) ?_
    rotate_left
    · intro W hSw
      clear hSw
      go_simp
      try with_reducible rfl
    simp only [Act.put, List.setIfInBounds_toArray, List.set_cons_zero, List.set_cons_succ]
    refine wpAnyH_take (i := 17) (oi := { dst := some 26, op := Op.extract (Operand.tmp 9) 0, type := 26, pos := "model.go:134", after := #[{ on := 16, ground := Ground.data }], guard := none }) (v := ?_) rfl (by kernel_rfl) (by kernel_rfl) (by kernel_rfl) (fun _ _ _ h => h) (Or.inl ⟨by rfl, ?_⟩) (by assumption) ?_
    rotate_left
    · intro W hSw
      clear hSw
      go_simp
      try with_reducible rfl
    simp only [Act.put, List.setIfInBounds_toArray, List.set_cons_zero, List.set_cons_succ]
    refine wpAnyH_take (i := 18) (oi := { dst := some 27, op := Op.extract (Operand.tmp 9) 1, type := 4, pos := "model.go:134", after := #[{ on := 16, ground := Ground.data }, { on := 20, ground := Ground.gcOnly Departure.lateStores }], guard := none }) (v := ?_) rfl (by kernel_rfl) (by kernel_rfl) (by kernel_rfl) (fun _ _ _ h => h) (Or.inl ⟨by rfl, ?_⟩) (by assumption) ?_
    rotate_left
    · intro W hSw
      clear hSw
      go_simp
      try with_reducible rfl
    simp only [Act.put, List.setIfInBounds_toArray, List.set_cons_zero, List.set_cons_succ]
    refine wpAnyH_ready (rs := [19]) (by kernel_rfl) (by simp) (AllReadyH.cons (o := { dst := some 7, op := Op.alloc 26, type := 0, pos := "model.go:134", after := #[], guard := none }) rfl (fun K hK => ?_) AllReadyH.nil)
    go_simp
    have hb : Below W4.heap.size W4 (W4.alloc (.cells #[.int .i64 0, .int .i64 0, .bool false, .string ⟨#[]⟩] 26)) := (Below.refl _ _).alloc (Nat.le_refl _) _
    have KZ : Hid (Blk (W4.alloc (.cells #[.int .i64 0, .int .i64 0, .bool false, .string ⟨#[]⟩] 26)) W4.heap.size #[.int .i64 0, .int .i64 0, .bool false, .string ⟨#[]⟩] 26) := Lib.hid (Blk.new W4 _ 26)
    have HQ : Hid (W0.heap.size ≤ W4.heap.size) := Lib.hid HH.out.size
    replace HH := Lib.hid (stepB HH.out hb)
    clear hb hHeld
    refine hK.out _ _ (HH.out) (fun hHeld => ?_)
    clear hK K
    generalize W4.alloc (.cells #[.int .i64 0, .int .i64 0, .bool false, .string ⟨#[]⟩] 26) = Wf at *
    obtain ⟨q7, hq7⟩ : ∃ x, W4.heap.size = x := ⟨_, rfl⟩
    rw [hq7] at KZ HQ ⊢
    clear hq7
    refine wpAnyH_ready (rs := [20]) (by kernel_rfl) (by simp) (AllReadyH.cons (o := { dst := none, op := Op.store 26 (Operand.tmp 7) (Operand.tmp 26), type := 0, pos := "model.go:134", after := #[{ on := 19, ground := Ground.data }, { on := 17, ground := Ground.data }, { on := 15, ground := Ground.chain }, { on := 0, ground := Ground.phase }, { on := 1, ground := Ground.phase }, { on := 2, ground := Ground.phase }, { on := 3, ground := Ground.phase }, { on := 4, ground := Ground.phase }, { on := 5, ground := Ground.phase }, { on := 6, ground := Ground.phase }, { on := 7, ground := Ground.phase }, { on := 8, ground := Ground.phase }, { on := 9, ground := Ground.phase }, { on := 10, ground := Ground.phase }, { on := 11, ground := Ground.phase }, { on := 12, ground := Ground.phase }, { on := 13, ground := Ground.phase }, { on := 14, ground := Ground.phase }, { on := 15, ground := Ground.phase }, { on := 16, ground := Ground.phase }, { on := 17, ground := Ground.phase }, { on := 18, ground := Ground.textOnly Departure.lateStores }, { on := 19, ground := Ground.phase }], guard := none }) rfl (fun K hK => ?_) AllReadyH.nil)
    refine wp_store_row 26 (.tmp 7) (.tmp 26) rfl q7 #[.int .i64 rw_, .int .i64 rts, .bool rtm, .string rvv] rfl rfl 26 #[.int .i64 0, .int .i64 0, .bool false, .string ⟨#[]⟩] KZ.out (by kernel_rfl) rfl (by first | rfl | (simp [Value.oneCell']; done)) ?_
    have HH7 := Lib.hid (below_setRow HH.out HQ.out #[.int .i64 rw_, .int .i64 rts, .bool rtm, .string rvv])
    have HK7 : Hid (Blk (Wf.setRow q7 #[.int .i64 rw_, .int .i64 rts, .bool rtm, .string rvv]) q7 #[.int .i64 rw_, .int .i64 rts, .bool rtm, .string rvv] 26) := Lib.hid (Blk.setRow_self KZ.out)
    clear hHeld
    refine hK.out _ _ (HH7.out) (fun hHeld => ?_)
    clear hK K
    refine wpAnyH_take (i := 21) (oi := { dst := some 8, op := Op.assign (Operand.tmp 27), type := 4, pos := "model.go:134", after := #[{ on := 18, ground := Ground.data }, { on := 20, ground := Ground.chain }, { on := 0, ground := Ground.phase }, { on := 1, ground := Ground.phase }, { on := 2, ground := Ground.phase }, { on := 3, ground := Ground.phase }, { on := 4, ground := Ground.phase }, { on := 5, ground := Ground.phase }, { on := 6, ground := Ground.phase }, { on := 7, ground := Ground.phase }, { on := 8, ground := Ground.phase }, { on := 9, ground := Ground.phase }, { on := 10, ground := Ground.phase }, { on := 11, ground := Ground.phase }, { on := 12, ground := Ground.phase }, { on := 13, ground := Ground.phase }, { on := 14, ground := Ground.phase }, { on := 15, ground := Ground.phase }, { on := 16, ground := Ground.phase }, { on := 17, ground := Ground.phase }, { on := 18, ground := Ground.phase }, { on := 19, ground := Ground.phase }, { on := 20, ground := Ground.phase }], guard := none }) (v := ?_) rfl (by kernel_rfl) (by kernel_rfl) (by kernel_rfl) (fun _ _ _ h => h) (Or.inl ⟨by rfl, ?_⟩) (by assumption) ?_
    rotate_left
    · intro W hSw
      clear hSw
      go_simp
      try with_reducible rfl
    simp only [Act.put, List.setIfInBounds_toArray, List.set_cons_zero, List.set_cons_succ]
    refine wpAnyH_done (by kernel_rfl) (NoPanic.normal ?_) _
    clear hHeld KZ HQ HRW
    generalize Wf.setRow q7 #[.int .i64 rw_, .int .i64 rts, .bool rtm, .string rvv] = W7 at *
    replace HB := Lib.hid (stepB HB.out HH7.out)
    replace K6 := Lib.hid (K6.out.later HH7.out)
    have c3 := HK7.out.cell 3
    simp only [List.getElem?_toArray, List.getElem?_cons_zero, List.getElem?_cons_succ] at c3
    clear HH7 HH
    cases rb with
    | false =>
      have u0 := K6.out.cell 0
      have u1 := K6.out.cell 1
      have u2 := K6.out.cell 2
      have u3 := K6.out.cell 3
      simp only [List.getElem?_toArray, List.getElem?_cons_zero, List.getElem?_cons_succ] at u0 u1 u2 u3
      have v0 := K6.out.frozen 0
      have v1 := K6.out.frozen 1
      have v2 := K6.out.frozen 2
      have v3 := K6.out.frozen 3
      have HS := Lib.hid (setB4 K6.out rfl (.int .i64 0) (.bool false) (.string ⟨#[]⟩) (.slice none 0 0) HB.out (Nat.le_succ _))
      go_wp2
      refine bodyPost_ret (results_cell_row rfl _ _ (w.heap.size + 1) 33 _ (0, 0) _ rfl HS.out.1 Try.underlying33 rfl (by kernel_rfl)) rfl ?_
      exact AnEnd.of (HA.out) (anEnd0 ((Mv.same ⟨x, HM.out, rfl⟩ HS.out.2)))
    | true =>
      have u0 := K6.out.cell 0
      have u1 := K6.out.cell 1
      have u2 := K6.out.cell 2
      have u3 := K6.out.cell 3
      simp only [List.getElem?_toArray, List.getElem?_cons_zero, List.getElem?_cons_succ] at u0 u1 u2 u3
      have v0 := K6.out.frozen 0
      have v1 := K6.out.frozen 1
      have v2 := K6.out.frozen 2
      have v3 := K6.out.frozen 3
      have HS := Lib.hid (setB4 K6.out rfl (.int .i64 0) (.bool true) (.string rvv) (.slice none 0 0) HB.out (Nat.le_succ _))
      go_wp2
      refine bodyPost_ret (results_cell_row rfl _ _ (w.heap.size + 1) 33 _ (0, 0) _ rfl HS.out.1 Try.underlying33 rfl (by kernel_rfl)) rfl ?_
      exact AnEnd.of (HA.out) (anEnd0 ((Mv.same ⟨x, HM.out, rfl⟩ HS.out.2)))
  · go_simp
    have hb : Below Wd.heap.size Wd (Wd.alloc (.cells #[.int .i64 0, .int .i64 0, .bool false, .string ⟨#[]⟩] 26)) := (Below.refl _ _).alloc (Nat.le_refl _) _
    have KZ : Hid (Blk (Wd.alloc (.cells #[.int .i64 0, .int .i64 0, .bool false, .string ⟨#[]⟩] 26)) Wd.heap.size #[.int .i64 0, .int .i64 0, .bool false, .string ⟨#[]⟩] 26) := Lib.hid (Blk.new Wd _ 26)
    have HQ : Hid (W0.heap.size ≤ Wd.heap.size) := Lib.hid HH.out.size
    replace HH := Lib.hid (stepB HH.out hb)
    clear hb hHeld
    refine hK.out _ _ (HH.out) (fun hHeld => ?_)
    clear hK K
    generalize Wd.alloc (.cells #[.int .i64 0, .int .i64 0, .bool false, .string ⟨#[]⟩] 26) = Wf at *
    obtain ⟨q7, hq7⟩ : ∃ x, Wd.heap.size = x := ⟨_, rfl⟩
    rw [hq7] at KZ HQ ⊢
    clear hq7
    refine wpAnyH_ready (rs := [15]) (by kernel_rfl) (by simp) (AllReadyH.cons (o := { dst := some 25, op := Op.call { callee := Callee.value (Operand.func 78), args := #[Operand.tmp 10, Operand.tmp 22, Operand.tmp 24], argTypes := #[22, 3, 9] }, type := 27, pos := "model.go:134", after := #[{ on := 0, ground := Ground.data }, { on := 12, ground := Ground.data }, { on := 14, ground := Ground.data }], guard := none }) rfl (fun K hK => ?_) AllReadyH.nil)
    have HCL := Lib.hid (HRW.out Wf (stepB HB.out HH.out))
    go_simp
    refine HCL.out.mono ?_
    rintro e W4 ⟨rfl, hb⟩
    replace HH := Lib.hid (stepB HH.out hb)
    replace KZ := Lib.hid (KZ.out.later hb)
    clear hb HCL hHeld
    refine hK.out _ _ (HH.out) (fun hHeld => ?_)
    clear hK K
    refine wpAnyH_take (i := 16) (oi := { dst := some 9, op := Op.move (Operand.tmp 25), type := 27, pos := "model.go:134", after := #[{ on := 15, ground := Ground.data }], guard := none }) (v := ?_) rfl (by kernel_rfl) (by kernel_rfl) (by kernel_rfl) (fun _ _ _ h => h) (Or.inl ⟨by rfl, ?_⟩) (by assumption) ?_
    rotate_left
    · intro W hSw
      clear hSw
      go_simp
      try with_reducible rfl
    simp only [Act.put, List.setIfInBounds_toArray, List.set_cons_zero, List.set_cons_succ]
    refine wpAnyH_take (i := 17) (oi := { dst := some 26, op := Op.extract (Operand.tmp 9) 0, type := 26, pos := "model.go:134", after := #[{ on := 16, ground := Ground.data }], guard := none }) (v := ?_) rfl (by kernel_rfl) (by kernel_rfl) (by kernel_rfl) (fun _ _ _ h => h) (Or.inl ⟨by rfl, ?_⟩) (by assumption) ?_
    rotate_left
    · intro W hSw
      clear hSw
      go_simp
      try with_reducible rfl
    simp only [Act.put, List.setIfInBounds_toArray, List.set_cons_zero, List.set_cons_succ]
    refine wpAnyH_take (i := 18) (oi := { dst := some 27, op := Op.extract (Operand.tmp 9) 1, type := 4, pos := "model.go:134", after := #[{ on := 16, ground := Ground.data }, { on := 20, ground := Ground.gcOnly Departure.lateStores }], guard := none }) (v := ?_) rfl (by kernel_rfl) (by kernel_rfl) (by kernel_rfl) (fun _ _ _ h => h) (Or.inl ⟨by rfl, ?_⟩) (by assumption) ?_
    rotate_left
    · intro W hSw
      clear hSw
      go_simp
      try with_reducible rfl
    simp only [Act.put, List.setIfInBounds_toArray, List.set_cons_zero, List.set_cons_succ]
    refine wpAnyH_ready (rs := [20]) (by kernel_rfl) (by simp) (AllReadyH.cons (o := { dst := none, op := Op.store 26 (Operand.tmp 7) (Operand.tmp 26), type := 0, pos := "model.go:134", after := #[{ on := 19, ground := Ground.data }, { on := 17, ground := Ground.data }, { on := 15, ground := Ground.chain }, { on := 0, ground := Ground.phase }, { on := 1, ground := Ground.phase }, { on := 2, ground := Ground.phase }, { on := 3, ground := Ground.phase }, { on := 4, ground := Ground.phase }, { on := 5, ground := Ground.phase }, { on := 6, ground := Ground.phase }, { on := 7, ground := Ground.phase }, { on := 8, ground := Ground.phase }, { on := 9, ground := Ground.phase }, { on := 10, ground := Ground.phase }, { on := 11, ground := Ground.phase }, { on := 12, ground := Ground.phase }, { on := 13, ground := Ground.phase }, { on := 14, ground := Ground.phase }, { on := 15, ground := Ground.phase }, { on := 16, ground := Ground.phase }, { on := 17, ground := Ground.phase }, { on := 18, ground := Ground.textOnly Departure.lateStores }, { on := 19, ground := Ground.phase }], guard := none }) rfl (fun K hK => ?_) AllReadyH.nil)
    refine wp_store_row 26 (.tmp 7) (.tmp 26) rfl q7 #[.int .i64 rw_, .int .i64 rts, .bool rtm, .string rvv] rfl rfl 26 #[.int .i64 0, .int .i64 0, .bool false, .string ⟨#[]⟩] KZ.out (by kernel_rfl) rfl (by first | rfl | (simp [Value.oneCell']; done)) ?_
    have HH7 := Lib.hid (below_setRow HH.out HQ.out #[.int .i64 rw_, .int .i64 rts, .bool rtm, .string rvv])
    have HK7 : Hid (Blk (W4.setRow q7 #[.int .i64 rw_, .int .i64 rts, .bool rtm, .string rvv]) q7 #[.int .i64 rw_, .int .i64 rts, .bool rtm, .string rvv] 26) := Lib.hid (Blk.setRow_self KZ.out)
    clear hHeld
    refine hK.out _ _ (HH7.out) (fun hHeld => ?_)
    clear hK K
    refine wpAnyH_take (i := 21) (oi := { dst := some 8, op := Op.assign (Operand.tmp 27), type := 4, pos := "model.go:134", after := #[{ on := 18, ground := Ground.data }, { on := 20, ground := Ground.chain }, { on := 0, ground := Ground.phase }, { on := 1, ground := Ground.phase }, { on := 2, ground := Ground.phase }, { on := 3, ground := Ground.phase }, { on := 4, ground := Ground.phase }, { on := 5, ground := Ground.phase }, { on := 6, ground := Ground.phase }, { on := 7, ground := Ground.phase }, { on := 8, ground := Ground.phase }, { on := 9, ground := Ground.phase }, { on := 10, ground := Ground.phase }, { on := 11, ground := Ground.phase }, { on := 12, ground := Ground.phase }, { on := 13, ground := Ground.phase }, { on := 14, ground := Ground.phase }, { on := 15, ground := Ground.phase }, { on := 16, ground := Ground.phase }, { on := 17, ground := Ground.phase }, { on := 18, ground := Ground.phase }, { on := 19, ground := Ground.phase }, { on := 20, ground := Ground.phase }], guard := none }) (v := ?_) rfl (by kernel_rfl) (by kernel_rfl) (by kernel_rfl) (fun _ _ _ h => h) (Or.inl ⟨by rfl, ?_⟩) (by assumption) ?_
    rotate_left
    · intro W hSw
      clear hSw
      go_simp
      try with_reducible rfl
    simp only [Act.put, List.setIfInBounds_toArray, List.set_cons_zero, List.set_cons_succ]
    refine wpAnyH_done (by kernel_rfl) (NoPanic.normal ?_) _
    clear hHeld KZ HQ HRW
    generalize W4.setRow q7 #[.int .i64 rw_, .int .i64 rts, .bool rtm, .string rvv] = W7 at *
    replace HB := Lib.hid (stepB HB.out HH7.out)
    replace K6 := Lib.hid (K6.out.later HH7.out)
    have c3 := HK7.out.cell 3
    simp only [List.getElem?_toArray, List.getElem?_cons_zero, List.getElem?_cons_succ] at c3
    clear HH7 HH
    cases rb with
    | false =>
      have u0 := K6.out.cell 0
      have u1 := K6.out.cell 1
      have u2 := K6.out.cell 2
      have u3 := K6.out.cell 3
      simp only [List.getElem?_toArray, List.getElem?_cons_zero, List.getElem?_cons_succ] at u0 u1 u2 u3
      have v0 := K6.out.frozen 0
      have v1 := K6.out.frozen 1
      have v2 := K6.out.frozen 2
      have v3 := K6.out.frozen 3
      have HS := Lib.hid (setB4 K6.out rfl (.int .i64 0) (.bool false) (.string ⟨#[]⟩) (.slice none 0 0) HB.out (Nat.le_succ _))
      go_wp2
      refine bodyPost_ret (results_cell_row rfl _ _ (w.heap.size + 1) 33 _ (0, 0) _ rfl HS.out.1 Try.underlying33 rfl (by kernel_rfl)) rfl ?_
      exact AnEnd.of (HA.out) (anEnd0 ((Mv.same ⟨x, HM.out, rfl⟩ HS.out.2)))
    | true =>
      have u0 := K6.out.cell 0
      have u1 := K6.out.cell 1
      have u2 := K6.out.cell 2
      have u3 := K6.out.cell 3
      simp only [List.getElem?_toArray, List.getElem?_cons_zero, List.getElem?_cons_succ] at u0 u1 u2 u3
      have v0 := K6.out.frozen 0
      have v1 := K6.out.frozen 1
      have v2 := K6.out.frozen 2
      have v3 := K6.out.frozen 3
      have HS := Lib.hid (setB4 K6.out rfl (.int .i64 0) (.bool true) (.string rvv) (.slice none 0 0) HB.out (Nat.le_succ _))
      go_wp2
      refine bodyPost_ret (results_cell_row rfl _ _ (w.heap.size + 1) 33 _ (0, 0) _ rfl HS.out.1 Try.underlying33 rfl (by kernel_rfl)) rfl ?_
      exact AnEnd.of (HA.out) (anEnd0 ((Mv.same ⟨x, HM.out, rfl⟩ HS.out.2)))
end Go.Proofs.Ytoinjnocopejjaa
