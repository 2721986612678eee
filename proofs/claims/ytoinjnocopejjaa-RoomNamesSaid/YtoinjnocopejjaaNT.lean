/- scan. -/
import Derived.Test.YtoinjnocopejjaaNS
import Derived.StillTailTactics
namespace Go.Proofs.Ytoinjnocopejjaa
open Go.ChangeShapes Go.WideShapes Go.ChangeAt Go.RowKit Go.Maps
set_option linter.unusedVariables false
set_option linter.unusedSimpArgs false
theorem ROwn.set4 {α : Type} {enc : α → List Value} {k e n B q : Nat} {W : World} {v : Value} {L : List α} {c : Array Value} {t : TypeId} (h : ROwn enc k W B e v n L) (hc : Blk W q c t) (ht : t ≠ e) (v0 v1 v2 v3 : Value) :
    ROwn enc k ((((W.setCell ⟨q, 0, none⟩ v0).setCell ⟨q, 1, none⟩ v1).setCell ⟨q, 2, none⟩ v2).setCell ⟨q, 3, none⟩ v3) B e v n L := h.keepS (fun i hi => by
  have hne : i ≠ q := fun e2 => h.nq hc ht (e2 ▸ hi)
  rw [Below.heap_setCell _ _ _ _ hne, Below.heap_setCell _ _ _ _ hne, Below.heap_setCell _ _ _ _ hne, Below.heap_setCell _ _ _ _ hne])
theorem Blk.rslP {W : World} {g : Nat} {a b : ByteArray} (h : Blk W g #[.string a, .string b] 129) : RSl pvc 2 W (some ⟨g, 0, none⟩) 1 [(a, b)] := by
  refine ⟨rfl, fun _ => ⟨g, 0, rfl, h.lt, fun j x hx i hi => ?_⟩⟩
  match j, hx with
  | 0, hx =>
    simp only [List.getElem?_cons_zero, Option.some.injEq] at hx
    subst hx
    simp only [Nat.zero_mul, Nat.zero_add]
    match i, hi with
    | 0, _ => rw [h.cell]; rfl
    | 1, _ => rw [h.cell]; rfl
  | j + 1, hx => simp at hx
set_option maxRecDepth 100000 in
set_option maxHeartbeats 1600000 in
theorem scan_any (B p : Nat) (s : MS) (S : Nat → Prop) (t : Int) (tx li : Int) (ke en va : ByteArray) (kn eg : Nat) (w : World) (h : MR w B p s S) (h0 : refM s t (kn, tx, ke, en, va, li, eg) = 0) (hkn : kn = 5) (hn : s.txns.length ≤ 100000) (hx : COk (kn, tx, ke, en, va, li, eg)) : Calls Try.prog 56 #[.pointer (some ⟨p, 0, none⟩), .int .i64 t, .agg #[.int .u8 (kn : Int), .int .i64 tx, .string ke, .string en, .string va, .int .i64 li, .int .u8 (eg : Int)]] w (AnEnd (actM s t (txW s t tx) (kn, tx, ke, en, va, li, eg)).2 (actM s t (txW s t tx) (kn, tx, ke, en, va, li, eg)).1 B p S w) := by
  obtain ⟨x, h, rfl⟩ := h
  obtain ⟨_, _, hnm, hfit, _⟩ := refM_0 h0
  have hv := (hnm (named_of (by simp only; omega))).1
  simp only at hv
  obtain ⟨i, k, g, off, l, c, v, rfl, htx, hil, hkl, hkb, ct, cv, htv, hv1, hv2⟩ := h.wr hn hv
  have HX := Lib.hid hx
  have HN := Lib.hid hn
  have HV := Lib.hid (And.intro hv1 hv2)
  rw [htv]
  obtain ⟨R, hR⟩ : ∃ R, actM s (i : Int) (v : Int) (kn, tx, ke, en, va, li, eg) = R := ⟨_, rfl⟩
  have HR := Lib.hid hR
  rw [hR]
  clear hR
  have hb2 : Below w.heap.size w (((w.alloc (.cells #[.int .u8 (kn : Int), .int .i64 tx, .string ke, .string en, .string va, .int .i64 li, .int .u8 (eg : Int)] 36)).alloc (.cells #[.int .i64 0, .bool false, .string ⟨#[]⟩, .slice none 0 0] 33)).alloc (.cells #[.int .i64 0, .bool false, .string ⟨#[]⟩, .slice none 0 0] 33)) := (((Below.refl _ _).alloc (Nat.le_refl _) _).alloc (by simp) _).alloc (by simp; omega) _
  have HB := Lib.hid hb2
  have K5 : Hid (Blk (((w.alloc (.cells #[.int .u8 (kn : Int), .int .i64 tx, .string ke, .string en, .string va, .int .i64 li, .int .u8 (eg : Int)] 36)).alloc (.cells #[.int .i64 0, .bool false, .string ⟨#[]⟩, .slice none 0 0] 33)).alloc (.cells #[.int .i64 0, .bool false, .string ⟨#[]⟩, .slice none 0 0] 33)) w.heap.size #[.int .u8 (kn : Int), .int .i64 tx, .string ke, .string en, .string va, .int .i64 li, .int .u8 (eg : Int)] 36) := Lib.hid (((Blk.new w _ 36).alloc _).alloc _)
  have K6 : Hid (Blk (((w.alloc (.cells #[.int .u8 (kn : Int), .int .i64 tx, .string ke, .string en, .string va, .int .i64 li, .int .u8 (eg : Int)] 36)).alloc (.cells #[.int .i64 0, .bool false, .string ⟨#[]⟩, .slice none 0 0] 33)).alloc (.cells #[.int .i64 0, .bool false, .string ⟨#[]⟩, .slice none 0 0] 33)) (w.heap.size + 1) #[.int .i64 0, .bool false, .string ⟨#[]⟩, .slice none 0 0] 33) := Lib.hid ((Blk.new2 _ _ 33 (by simp)).alloc _)
  have K7 : Hid (Blk (((w.alloc (.cells #[.int .u8 (kn : Int), .int .i64 tx, .string ke, .string en, .string va, .int .i64 li, .int .u8 (eg : Int)] 36)).alloc (.cells #[.int .i64 0, .bool false, .string ⟨#[]⟩, .slice none 0 0] 33)).alloc (.cells #[.int .i64 0, .bool false, .string ⟨#[]⟩, .slice none 0 0] 33)) (w.heap.size + 1 + 1) #[.int .i64 0, .bool false, .string ⟨#[]⟩, .slice none 0 0] 33) := Lib.hid (Blk.new2 _ _ 33 (by simp))
  have HM := Lib.hid h
  obtain ⟨m, hm⟩ : ∃ m, s.tasks.length = m := ⟨_, rfl⟩
  have k11 := h.c0 11
  simp only [mdC, List.getElem?_cons_succ, List.getElem?_cons_zero] at k11
  rw [hm] at k11 hil
  have C11 := Lib.hid k11
  have CT := Lib.hid ct
  have CV := Lib.hid cv
  have i1 := idx107 x.tb 0 m m i (i : Int) rfl hil
  simp only [Nat.zero_add] at i1
  have i2 := idx85 g off l c k (k : Int) rfl hkl
  have wj : wrap64 (tx - 1) = (k : Int) := by unfold wrap64; omega
  have wj2 : IntKind.i64.wrap (tx - 1) = (k : Int) := by rw [htx]; exact IntWalk.i64_in _ (by omega)
  clear h h0 hnm hfit hv hx hn htx hil hkl hkb ct cv htv hv1 hv2 hb2 hm k11
  have HKE : Hid (∀ W : World, Below w.heap.size w W → Calls Try.prog 21 #[.pointer (some ⟨p, 0, none⟩)] W (KeysEnd (s.rows.map (·.1)) W)) := Lib.hid (fun W hW => keys_any B p s _ W ⟨x, HM.out.later hW, rfl⟩)
  have HKS : Hid (∀ q ∈ s.rows, q.1.size ≤ maxLen) := Lib.hid (fun q hq => by have := HM.out.ok.ksz q hq; unfold maxLen; omega)
  have HRW : Hid (∀ q ∈ s.rows, ∀ W : World, Below w.heap.size w W → Calls Try.prog 78 #[.pointer (some ⟨p, 0, none⟩), .int .i64 (v : Int), .string q.1] W (RdEnd (readV s (v : Int) q.2) (readB s (v : Int) q.2) W)) := Lib.hid (fun q hq W hW => by
    have h1 := read_any B p s _ v q.1 W ⟨x, HM.out.later hW, rfl⟩ HV.out.1 HV.out.2 HN.out (HKS.out q hq)
    have e : getR s q.1 = q.2 := get_of_mem HM.out.ok.up hq
    rw [e] at h1; exact h1)
  obtain ⟨TOT, hT⟩ : ∃ T, scanP s v ke en li s.rows [] = T := ⟨_, rfl⟩
  have HA : Hid (R = (s, (0, false, emp, TOT))) := Lib.hid (by rw [← HR.out, hkn, ← hT]; rfl)
  have HT := Lib.hid hT
  have HR64 : Hid (s.rows.length ≤ 64) := Lib.hid (by have := HM.out.ok.keys; have := may_lo HM.out.ok.may; omega)
  obtain ⟨I, hI⟩ : ∃ I, s.rows.map (·.1) = I := ⟨_, rfl⟩
  rw [hI] at HKE
  obtain ⟨n, hn⟩ : ∃ n, I.length = n := ⟨_, rfl⟩
  have hnI : s.rows.length = n := by rw [← hn, ← hI, List.length_map]
  have HNI : Hid (s.rows.length = n ∧ n ≤ 64) := Lib.hid ⟨hnI, by have := HR64.out; omega⟩
  clear hnI
  have HII := Lib.hid hI
  have HI := Lib.hid hn
  clear HX HN HV hkn HR hT hI hn HR64
  go_enter Try.func56, Try.ntmps56
  go_upto_region 2 with (fail)
  generalize (((w.alloc (.cells #[.int .u8 (kn : Int), .int .i64 tx, .string ke, .string en, .string va, .int .i64 li, .int .u8 (eg : Int)] 36)).alloc (.cells #[.int .i64 0, .bool false, .string ⟨#[]⟩, .slice none 0 0] 33)).alloc (.cells #[.int .i64 0, .bool false, .string ⟨#[]⟩, .slice none 0 0] 33)) = w2 at *
  go_wp2_with fail
  refine (HKE.out _ HB.out).mono ?_
  rintro e w3 ⟨vk, rfl, ho, hb⟩
  have hs := ho.sl
  rw [HI.out] at ho
  obtain ⟨A, c1, rfl, _⟩ := ho.sl
  replace HB := Lib.hid (stepB HB.out hb)
  replace K5 := Lib.hid (K5.out.later hb)
  replace K6 := Lib.hid (K6.out.later hb)
  replace K7 := Lib.hid (K7.out.later hb)
  have HO := Lib.hid ho
  clear ho hb hs HKE
  generalize w2.heap.size = B0 at *
  go_wp2
  go_loopw [15] (fun i W => ∃ (k : Nat) (a : List Pr) (v7 : Value), k ≤ n ∧ i = .int .i64 k ∧ scanP s v ke en li (s.rows.drop k) a = TOT ∧ a.length ≤ k ∧ Below w.heap.size w W ∧ Ow sE W B0 9 (.slice A n c1) n I ∧ Blk W w.heap.size #[.int .u8 (kn : Int), .int .i64 tx, .string ke, .string en, .string va, .int .i64 li, .int .u8 (eg : Int)] 36 ∧ Blk W (w.heap.size + 1) #[.int .i64 0, .bool false, .string ⟨#[]⟩, .slice none 0 0] 33 ∧ Blk W (w.heap.size + 1 + 1) #[.int .i64 0, .bool false, .string ⟨#[]⟩, v7] 33 ∧ ROwn pvc 2 W w.heap.size 129 v7 a.length a) (fun i _ => n - (intOf i).toNat)
  case atStart => exact ⟨0, [], _, Nat.zero_le _, rfl, HT.out, Nat.le_refl _, HB.out, HO.out, K5.out, K6.out, K7.out, ROwn.nil0 _ _ _⟩
  case round =>
    obtain ⟨kk, a, v7, hk, rfl, hsc, hal, hb, ho, h5, h6, h7, hp⟩ := hrel
    have HSC := Lib.hid hsc
    replace HB := Lib.hid hb
    replace HO := Lib.hid ho
    replace K5 := Lib.hid h5
    replace K6 := Lib.hid h6
    replace K7 := Lib.hid h7
    obtain ⟨m, hm⟩ : ∃ m, a.length = m := ⟨_, rfl⟩
    rw [hm] at hal hp
    have HML := Lib.hid hm
    obtain ⟨A7, c7, rfl, _, _⟩ := hp.sl
    have HP := Lib.hid hp
    clear hsc hb h5 h6 h7 hp hm HT
    by_cases hlt : kk < n
    · have d2 : decide ((kk : Int) < (n : Int)) = true := decide_eq_true (by omega)
      have wk : IntKind.i64.wrap ((kk : Int) + 1) = (kk : Int) + 1 := IntWalk.i64_in _ (by have := HNI.out; omega)
      have hsl : Sl sE wr A n c1 I := by
        obtain ⟨A2, c2, e2, hs2⟩ := ho.sl
        cases e2; exact hs2
      obtain ⟨gk, off2, rfl, hgk, hcell⟩ := hsl.rd.2 (by omega)
      have hr : kk < s.rows.length := by rw [HNI.out.1]; exact hlt
      have hrk : I[kk]? = some (s.rows[kk]).1 := by rw [← HII.out, List.getElem?_map, List.getElem?_eq_getElem hr]; rfl
      have y1 := hcell kk _ hrk
      have i0 := idx40 gk off2 n c1 kk (kk : Int) rfl hlt
      have hmem := List.getElem_mem hr
      have HRK := Lib.hid (HRW.out _ hmem)
      have HKZ := Lib.hid (HKS.out _ hmem)
      have hsc2 := HSC.out
      rw [List.drop_eq_getElem_cons hr] at hsc2
      clear HSC hmem hrk hcell hgk hsl ho
      generalize s.rows[kk] = q at *
      obtain ⟨key, r⟩ := q
      simp only at y1 HRK HKZ
      unfold sE at y1
      have HS1 : Hid ((m : Int) = li → TOT = a) := Lib.hid (fun e => by rw [← hsc2]; unfold scanP; rw [if_pos (by rw [HML.out]; exact e)])
      have HS2 : Hid (¬ (m : Int) = li → wi key ke en = true → readB s v r = true → scanP s v ke en li (s.rows.drop (kk + 1)) (a ++ [(key, (readV s v r).val)]) = TOT) := Lib.hid (fun e e2 e3 => by
        rw [← hsc2]; conv => rhs; unfold scanP
        rw [if_neg (by rw [HML.out]; exact e), if_pos ⟨e2, e3⟩])
      have HS3 : Hid (¬ (m : Int) = li → wi key ke en = false ∨ readB s v r = false → scanP s v ke en li (s.rows.drop (kk + 1)) a = TOT) := Lib.hid (fun e e2 => by
        rw [← hsc2]; conv => rhs; unfold scanP
        rw [if_neg (by rw [HML.out]; exact e), if_neg (fun h => by
          rcases e2 with e2 | e2
          · rw [e2] at h; exact Bool.noConfusion h.1
          · rw [e2] at h; exact Bool.noConfusion h.2)])
      clear hsc2
      generalize readB s v r = rb at *
      generalize readV s v r = rv at *
      obtain ⟨rw_, rts, rtm, rvv⟩ := rv
      unfold RdEnd at HRK
      rw [Ver.agg_eq] at HRK
      simp only at HRK HS2
      have HWI := Lib.hid (fun W => within_any key ke en W)
      generalize wi key ke en = wb at *
      have z0 := K5.out.cell 0
      have z1 := K5.out.cell 1
      have z2 := K5.out.cell 2
      have z3 := K5.out.cell 3
      have z4 := K5.out.cell 4
      have z5 := K5.out.cell 5
      have z6 := K5.out.cell 6
      simp only [List.getElem?_toArray, List.getElem?_cons_zero, List.getElem?_cons_succ] at z0 z1 z2 z3 z4 z5 z6
      have y70 := K7.out.cell 0
      have y71 := K7.out.cell 1
      have y72 := K7.out.cell 2
      have y73 := K7.out.cell 3
      simp only [List.getElem?_toArray, List.getElem?_cons_zero, List.getElem?_cons_succ] at y70 y71 y72 y73
      by_cases hli : (m : Int) = li
      · have e1 : ((m : Int) == li) = true := by rw [hli]; exact beq_self_eq_true _
        have HLI := Lib.hid hli
        clear hli y70 y71 y72 y73
        have u0 := K6.out.cell 0
        have u1 := K6.out.cell 1
        have u2 := K6.out.cell 2
        have u3 := K6.out.cell 3
        simp only [List.getElem?_toArray, List.getElem?_cons_zero, List.getElem?_cons_succ] at u0 u1 u2 u3
        have v0 := K6.out.frozen 0
        have v1 := K6.out.frozen 1
        have v2 := K6.out.frozen 2
        have v3 := K6.out.frozen 3
        have y70 := K7.out.cell 0
        have y71 := K7.out.cell 1
        have y72 := K7.out.cell 2
        have y73 := K7.out.cell 3
        simp only [List.getElem?_toArray, List.getElem?_cons_zero, List.getElem?_cons_succ] at y70 y71 y72 y73
        have HS := Lib.hid (setB4 K6.out rfl (.int .i64 0) (.bool false) (.string ⟨#[]⟩) (.slice A7 m c7) HB.out (Nat.le_succ _))
        have HPS := Lib.hid (HP.out.set4 K6.out (by decide) (.int .i64 0) (.bool false) (.string ⟨#[]⟩) (.slice A7 m c7))
        go_wp2
        refine bodyPost_ret (results_cell_row rfl _ _ (w.heap.size + 1) 33 _ (0, 0) _ rfl HS.out.1 Try.underlying33 rfl (by kernel_rfl)) rfl ?_
        refine AnEnd.of (by rw [HA.out]) ⟨_, rfl, ?_, Mv.same ⟨x, HM.out, rfl⟩ HS.out.2⟩
        show ROwn pvc 2 _ w.heap.size 129 (.slice A7 m c7) TOT.length TOT
        rw [HS1.out HLI.out, HML.out]
        exact HPS.out
      · have e1 : ((m : Int) == li) = false := by rw [beq_eq_false_iff_ne]; exact hli
        have HLI := Lib.hid hli
        clear hli
        go_wp2_with fail
        refine (HWI.out _).mono ?_
        rintro e w4 ⟨rfl, rfl⟩
        cases wb with
        | false =>
          go_wp2
          go_roundw
          case rel => exact ⟨kk + 1, a, _, by omega, rfl, HS3.out HLI.out (by simp), by rw [HML.out]; omega, HB.out, HO.out, K5.out, K6.out, K7.out, by rw [HML.out]; exact HP.out⟩
          case measure => simp [intOf]; omega
        | true =>
          go_upto_region 7 with (fail)
          clear z0 z1 z2 z3 z4 z5 z6 y70 y71 y72 y73 y1 i0 e1
          refine wp_region_noPanic ?_
          obtain ⟨W0, rfl⟩ : ∃ W0 : World, W0 = wr := ⟨_, rfl⟩
          refine wp_region_held_drew (S := fun W => Below W0.heap.size W0 W) (by kernel_rfl) (Below.drew (Below.refl _ _)) (fun hHeld => ?_)
          have HH : Hid (Below W0.heap.size W0 (World.drew W0)) := Lib.hid (Below.drew (Below.refl _ _))
          generalize World.drew W0 = Wd at *
          refine wpAnyH_take (i := 0) (oi := { dst := some 33, op := Op.move (Operand.tmp 0), type := 22, pos := "model.go:187", after := #[], guard := none }) (v := ?_) rfl (by kernel_rfl) (by kernel_rfl) (by kernel_rfl) (fun _ _ _ h => h) (Or.inl ⟨by rfl, ?_⟩) (by assumption) ?_
          rotate_left
          · intro W hSw
            clear hSw
            go_simp
            try with_reducible rfl
          simp only [Act.put, List.setIfInBounds_toArray, List.set_cons_zero, List.set_cons_succ]
          refine wpAnyH_take (i := 1) (oi := { dst := some 34, op := Op.move (Operand.tmp 0), type := 22, pos := "model.go:187", after := #[], guard := none }) (v := ?_) rfl (by kernel_rfl) (by kernel_rfl) (by kernel_rfl) (fun _ _ _ h => h) (Or.inl ⟨by rfl, ?_⟩) (by assumption) ?_
          rotate_left
          · intro W hSw
            clear hSw
            go_simp
            try with_reducible rfl
          simp only [Act.put, List.setIfInBounds_toArray, List.set_cons_zero, List.set_cons_succ]
          refine wpAnyH_take (i := 2) (oi := { dst := some 35, op := Op.nilCheck (Operand.tmp 34), type := 0, pos := "model.go:187", after := #[{ on := 1, ground := Ground.data }], guard := none }) (v := ?_) rfl (by kernel_rfl) (by kernel_rfl) (by kernel_rfl) (fun _ _ _ h => h) (Or.inl ⟨by rfl, ?_⟩) (by assumption) ?_
          rotate_left
          · intro W hSw
            clear hSw
            go_simp
            try with_reducible rfl
          simp only [Act.put, List.setIfInBounds_toArray, List.set_cons_zero, List.set_cons_succ]
          refine wpAnyH_take (i := 3) (oi := { dst := some 36, op := Op.fieldAddr 110 (Operand.tmp 35) 4, type := 0, pos := "model.go:187", after := #[{ on := 2, ground := Ground.data }], guard := none }) (v := ?_) rfl (by kernel_rfl) (by kernel_rfl) (by kernel_rfl) (fun _ _ _ h => h) (Or.inl ⟨by rfl, ?_⟩) (by assumption) ?_
          rotate_left
          · intro W hSw
            clear hSw
            go_simp
            try with_reducible rfl
          simp only [Act.put, List.setIfInBounds_toArray, List.set_cons_zero, List.set_cons_succ]
          refine wpAnyH_take (i := 4) (oi := { dst := some 37, op := Op.load 107 (Operand.tmp 36), type := 107, pos := "model.go:187", after := #[{ on := 3, ground := Ground.data }], guard := none }) (v := ?_) rfl (by kernel_rfl) (by kernel_rfl) (by kernel_rfl) (fun _ _ _ h => h) (Or.inl ⟨by rfl, ?_⟩) (by assumption) ?_
          rotate_left
          · intro W hSw
            have hq := stepB HB.out hSw
            have q11 := (hq.cell (p := ⟨p, 11, none⟩) (lt_of_cell C11.out)).trans C11.out
            clear hSw hq
            go_simp
            try with_reducible rfl
          simp only [Act.put, List.setIfInBounds_toArray, List.set_cons_zero, List.set_cons_succ]
          refine wpAnyH_take (i := 5) (oi := { dst := some 38, op := Op.move (Operand.tmp 1), type := 3, pos := "model.go:187", after := #[], guard := none }) (v := ?_) rfl (by kernel_rfl) (by kernel_rfl) (by kernel_rfl) (fun _ _ _ h => h) (Or.inl ⟨by rfl, ?_⟩) (by assumption) ?_
          rotate_left
          · intro W hSw
            clear hSw
            go_simp
            try with_reducible rfl
          simp only [Act.put, List.setIfInBounds_toArray, List.set_cons_zero, List.set_cons_succ]
          refine wpAnyH_take (i := 6) (oi := { dst := some 39, op := Op.indexAddr 107 (Operand.tmp 37) (Operand.tmp 38), type := 0, pos := "model.go:187", after := #[{ on := 4, ground := Ground.data }, { on := 5, ground := Ground.data }], guard := none }) (v := ?_) rfl (by kernel_rfl) (by kernel_rfl) (by kernel_rfl) (fun _ _ _ h => h) (Or.inl ⟨by rfl, ?_⟩) (by assumption) ?_
          rotate_left
          · intro W hSw
            clear hSw
            go_simp
            try with_reducible rfl
          simp only [Act.put, List.setIfInBounds_toArray, List.set_cons_zero, List.set_cons_succ]
          refine wpAnyH_take (i := 7) (oi := { dst := some 40, op := Op.load 85 (Operand.tmp 39), type := 85, pos := "model.go:187", after := #[{ on := 6, ground := Ground.data }], guard := none }) (v := ?_) rfl (by kernel_rfl) (by kernel_rfl) (by kernel_rfl) (fun _ _ _ h => h) (Or.inl ⟨by rfl, ?_⟩) (by assumption) ?_
          rotate_left
          · intro W hSw
            have hq := stepB HB.out hSw
            have qt := (hq.cell (p := ⟨x.tb, i, none⟩) (lt_of_cell CT.out)).trans CT.out
            clear hSw hq
            go_simp
            try with_reducible rfl
          simp only [Act.put, List.setIfInBounds_toArray, List.set_cons_zero, List.set_cons_succ]
          refine wpAnyH_take (i := 8) (oi := { dst := some 41, op := Op.fieldAddr 36 (Operand.tmp 5) 1, type := 0, pos := "model.go:187", after := #[], guard := none }) (v := ?_) rfl (by kernel_rfl) (by kernel_rfl) (by kernel_rfl) (fun _ _ _ h => h) (Or.inl ⟨by rfl, ?_⟩) (by assumption) ?_
          rotate_left
          · intro W hSw
            clear hSw
            go_simp
            try with_reducible rfl
          simp only [Act.put, List.setIfInBounds_toArray, List.set_cons_zero, List.set_cons_succ]
          refine wpAnyH_take (i := 9) (oi := { dst := some 42, op := Op.load 3 (Operand.tmp 41), type := 3, pos := "model.go:187", after := #[{ on := 8, ground := Ground.data }], guard := none }) (v := ?_) rfl (by kernel_rfl) (by kernel_rfl) (by kernel_rfl) (fun _ _ _ h => h) (Or.inl ⟨by rfl, ?_⟩) (by assumption) ?_
          rotate_left
          · intro W hSw
            have hk5 := K5.out.later hSw
            have z := hk5.cell 1
            simp only [List.getElem?_toArray, List.getElem?_cons_zero, List.getElem?_cons_succ] at z
            clear hSw hk5
            go_simp
            try with_reducible rfl
          simp only [Act.put, List.setIfInBounds_toArray, List.set_cons_zero, List.set_cons_succ]
          refine wpAnyH_take (i := 10) (oi := { dst := some 43, op := Op.binOp BinOp.sub 3 (Operand.tmp 42) (Operand.const (Value.int IntKind.i64 1)) 3, type := 3, pos := "model.go:187", after := #[{ on := 9, ground := Ground.data }], guard := none }) (v := ?_) rfl (by kernel_rfl) (by kernel_rfl) (by kernel_rfl) (fun _ _ _ h => h) (Or.inl ⟨by rfl, ?_⟩) (by assumption) ?_
          rotate_left
          · intro W hSw
            clear hSw
            go_simp
            try with_reducible rfl
          simp only [Act.put, List.setIfInBounds_toArray, List.set_cons_zero, List.set_cons_succ]
          refine wpAnyH_take (i := 11) (oi := { dst := some 44, op := Op.indexAddr 85 (Operand.tmp 40) (Operand.tmp 43), type := 0, pos := "model.go:187", after := #[{ on := 7, ground := Ground.data }, { on := 10, ground := Ground.data }], guard := none }) (v := ?_) rfl (by kernel_rfl) (by kernel_rfl) (by kernel_rfl) (fun _ _ _ h => h) (Or.inl ⟨by rfl, ?_⟩) (by assumption) ?_
          rotate_left
          · intro W hSw
            clear hSw
            go_simp
            try with_reducible rfl
          simp only [Act.put, List.setIfInBounds_toArray, List.set_cons_zero, List.set_cons_succ]
          refine wpAnyH_take (i := 12) (oi := { dst := some 45, op := Op.load 3 (Operand.tmp 44), type := 3, pos := "model.go:187", after := #[{ on := 11, ground := Ground.data }], guard := none }) (v := ?_) rfl (by kernel_rfl) (by kernel_rfl) (by kernel_rfl) (fun _ _ _ h => h) (Or.inl ⟨by rfl, ?_⟩) (by assumption) ?_
          rotate_left
          · intro W hSw
            have hq := stepB HB.out hSw
            have qv := (hq.cell (p := ⟨g, off + k, none⟩) (lt_of_cell CV.out)).trans CV.out
            clear hSw hq
            go_simp
            try with_reducible rfl
          simp only [Act.put, List.setIfInBounds_toArray, List.set_cons_zero, List.set_cons_succ]
          refine wpAnyH_take (i := 13) (oi := { dst := some 46, op := Op.move (Operand.tmp 9), type := 9, pos := "model.go:187", after := #[], guard := none }) (v := ?_) rfl (by kernel_rfl) (by kernel_rfl) (by kernel_rfl) (fun _ _ _ h => h) (Or.inl ⟨by rfl, ?_⟩) (by assumption) ?_
          rotate_left
          · intro W hSw
            clear hSw
            go_simp
            try with_reducible rfl
          simp only [Act.put, List.setIfInBounds_toArray, List.set_cons_zero, List.set_cons_succ]
          refine wpAnyH_ready (rs := [14, 18]) (by kernel_rfl) (by simp) (AllReadyH.cons (o := { dst := some 47, op := Op.call { callee := Callee.value (Operand.func 78), args := #[Operand.tmp 33, Operand.tmp 45, Operand.tmp 46], argTypes := #[22, 3, 9] }, type := 27, pos := "model.go:187", after := #[{ on := 0, ground := Ground.data }, { on := 12, ground := Ground.data }, { on := 13, ground := Ground.data }], guard := none }) rfl (fun K hK => ?_) (AllReadyH.cons (o := { dst := some 10, op := Op.alloc 26, type := 0, pos := "model.go:187", after := #[], guard := none }) rfl (fun K hK => ?_) AllReadyH.nil))
          · have HCL := Lib.hid (HRK.out Wd (stepB HB.out HH.out))
            go_simp
            refine HCL.out.mono ?_
            rintro e W4 ⟨rfl, hb⟩
            replace HH := Lib.hid (stepB HH.out hb)
            clear hb HCL hHeld
            refine hK.out _ _ (HH.out) (fun hHeld => ?_)
            clear hK K
            refine wpAnyH_take (i := 15) (oi := { dst := some 32, op := Op.move (Operand.tmp 47), type := 27, pos := "model.go:187", after := #[{ on := 14, ground := Ground.data }], guard := none }) (v := ?_) rfl (by kernel_rfl) (by kernel_rfl) (by kernel_rfl) (fun _ _ _ h => h) (Or.inl ⟨by rfl, ?_⟩) (by assumption) ?_
            rotate_left
            · intro W hSw
              clear hSw
              go_simp
              try with_reducible rfl
            simp only [Act.put, List.setIfInBounds_toArray, List.set_cons_zero, List.set_cons_succ]
            refine wpAnyH_take (i := 16) (oi := { dst := some 48, op := Op.extract (Operand.tmp 32) 0, type := 26, pos := "model.go:187", after := #[{ on := 15, ground := Ground.data }], guard := none }) (v := ?_) rfl (by kernel_rfl) (by kernel_rfl) (by kernel_rfl) (fun _ _ _ h => h) (Or.inl ⟨by rfl, ?_⟩) (by assumption) ?_
            rotate_left
            · intro W hSw
              clear hSw
              go_simp
              try with_reducible rfl
            simp only [Act.put, List.setIfInBounds_toArray, List.set_cons_zero, List.set_cons_succ]
            refine wpAnyH_take (i := 17) (oi := { dst := some 49, op := Op.extract (Operand.tmp 32) 1, type := 4, pos := "model.go:187", after := #[{ on := 15, ground := Ground.data }, { on := 19, ground := Ground.gcOnly Departure.lateStores }], guard := none }) (v := ?_) rfl (by kernel_rfl) (by kernel_rfl) (by kernel_rfl) (fun _ _ _ h => h) (Or.inl ⟨by rfl, ?_⟩) (by assumption) ?_
            rotate_left
            · intro W hSw
              clear hSw
              go_simp
              try with_reducible rfl
            simp only [Act.put, List.setIfInBounds_toArray, List.set_cons_zero, List.set_cons_succ]
            refine wpAnyH_ready (rs := [18]) (by kernel_rfl) (by simp) (AllReadyH.cons (o := { dst := some 10, op := Op.alloc 26, type := 0, pos := "model.go:187", after := #[], guard := none }) rfl (fun K hK => ?_) AllReadyH.nil)
            go_simp
            have hb : Below W4.heap.size W4 (W4.alloc (.cells #[.int .i64 0, .int .i64 0, .bool false, .string ⟨#[]⟩] 26)) := (Below.refl _ _).alloc (Nat.le_refl _) _
            have KZ : Hid (Blk (W4.alloc (.cells #[.int .i64 0, .int .i64 0, .bool false, .string ⟨#[]⟩] 26)) W4.heap.size #[.int .i64 0, .int .i64 0, .bool false, .string ⟨#[]⟩] 26) := Lib.hid (Blk.new W4 _ 26)
            have HQ : Hid (W0.heap.size ≤ W4.heap.size) := Lib.hid HH.out.size
            replace HH := Lib.hid (stepB HH.out hb)
            clear hb hHeld
            refine hK.out _ _ (HH.out) (fun hHeld => ?_)
            clear hK K
            generalize W4.alloc (.cells #[.int .i64 0, .int .i64 0, .bool false, .string ⟨#[]⟩] 26) = Wf at *
            obtain ⟨q7, hq7⟩ : ∃ x, W4.heap.size = x := ⟨_, rfl⟩
            rw [hq7] at KZ HQ ⊢
            clear hq7
            refine wpAnyH_ready (rs := [19]) (by kernel_rfl) (by simp) (AllReadyH.cons (o := { dst := none, op := Op.store 26 (Operand.tmp 10) (Operand.tmp 48), type := 0, pos := "model.go:187", after := #[{ on := 18, ground := Ground.data }, { on := 16, ground := Ground.data }, { on := 14, ground := Ground.chain }, { on := 0, ground := Ground.phase }, { on := 1, ground := Ground.phase }, { on := 2, ground := Ground.phase }, { on := 3, ground := Ground.phase }, { on := 4, ground := Ground.phase }, { on := 5, ground := Ground.phase }, { on := 6, ground := Ground.phase }, { on := 7, ground := Ground.phase }, { on := 8, ground := Ground.phase }, { on := 9, ground := Ground.phase }, { on := 10, ground := Ground.phase }, { on := 11, ground := Ground.phase }, { on := 12, ground := Ground.phase }, { on := 13, ground := Ground.phase }, { on := 14, ground := Ground.phase }, { on := 15, ground := Ground.phase }, { on := 16, ground := Ground.phase }, { on := 17, ground := Ground.textOnly Departure.lateStores }, { on := 18, ground := Ground.phase }], guard := none }) rfl (fun K hK => ?_) AllReadyH.nil)
            refine wp_store_row 26 (.tmp 10) (.tmp 48) rfl q7 #[.int .i64 rw_, .int .i64 rts, .bool rtm, .string rvv] rfl rfl 26 #[.int .i64 0, .int .i64 0, .bool false, .string ⟨#[]⟩] KZ.out (by kernel_rfl) rfl (by first | rfl | (simp [Value.oneCell']; done)) ?_
            have HH7 := Lib.hid (below_setRow HH.out HQ.out #[.int .i64 rw_, .int .i64 rts, .bool rtm, .string rvv])
            have HK7 : Hid (Blk (Wf.setRow q7 #[.int .i64 rw_, .int .i64 rts, .bool rtm, .string rvv]) q7 #[.int .i64 rw_, .int .i64 rts, .bool rtm, .string rvv] 26) := Lib.hid (Blk.setRow_self KZ.out)
            clear hHeld
            refine hK.out _ _ (HH7.out) (fun hHeld => ?_)
            clear hK K
            refine wpAnyH_take (i := 20) (oi := { dst := some 11, op := Op.assign (Operand.tmp 49), type := 4, pos := "model.go:187", after := #[{ on := 17, ground := Ground.data }, { on := 19, ground := Ground.chain }, { on := 0, ground := Ground.phase }, { on := 1, ground := Ground.phase }, { on := 2, ground := Ground.phase }, { on := 3, ground := Ground.phase }, { on := 4, ground := Ground.phase }, { on := 5, ground := Ground.phase }, { on := 6, ground := Ground.phase }, { on := 7, ground := Ground.phase }, { on := 8, ground := Ground.phase }, { on := 9, ground := Ground.phase }, { on := 10, ground := Ground.phase }, { on := 11, ground := Ground.phase }, { on := 12, ground := Ground.phase }, { on := 13, ground := Ground.phase }, { on := 14, ground := Ground.phase }, { on := 15, ground := Ground.phase }, { on := 16, ground := Ground.phase }, { on := 17, ground := Ground.phase }, { on := 18, ground := Ground.phase }, { on := 19, ground := Ground.phase }], guard := none }) (v := ?_) rfl (by kernel_rfl) (by kernel_rfl) (by kernel_rfl) (fun _ _ _ h => h) (Or.inl ⟨by rfl, ?_⟩) (by assumption) ?_
            rotate_left
            · intro W hSw
              clear hSw
              go_simp
              try with_reducible rfl
            simp only [Act.put, List.setIfInBounds_toArray, List.set_cons_zero, List.set_cons_succ]
            refine wpAnyH_done (by kernel_rfl) (NoPanic.normal ?_) _
            clear hHeld KZ HQ HRK
            generalize Wf.setRow q7 #[.int .i64 rw_, .int .i64 rts, .bool rtm, .string rvv] = W7 at *
            have HB7 := Lib.hid (stepB HB.out HH7.out)
            have K57 := Lib.hid (K5.out.later HH7.out)
            have K67 := Lib.hid (K6.out.later HH7.out)
            have K77 := Lib.hid (K7.out.later HH7.out)
            have HO7 := Lib.hid (HO.out.later HH7.out)
            have HP7 := Lib.hid (HP.out.later HH7.out)
            have c3 := HK7.out.cell 3
            simp only [List.getElem?_toArray, List.getElem?_cons_zero, List.getElem?_cons_succ] at c3
            clear HH7 HH HB K5 K6 K7 HO HP
            cases rb with
            | false =>
              go_wp2
              go_roundw
              case rel => exact ⟨kk + 1, a, _, by omega, rfl, HS3.out HLI.out (by simp), by rw [HML.out]; omega, HB7.out, HO7.out, K57.out, K67.out, K77.out, by rw [HML.out]; exact HP7.out⟩
              case measure => simp [intOf]; omega
            | true =>
              have hbp : Below W7.heap.size W7 (W7.alloc (.cells #[.string key, .string rvv] 129)) := (Below.refl _ _).alloc (Nat.le_refl _) _
              have HBP := Lib.hid (stepB HB7.out hbp)
              have K5P := Lib.hid (K57.out.later hbp)
              have K6P := Lib.hid (K67.out.later hbp)
              have K7P := Lib.hid (K77.out.later hbp)
              have HOP := Lib.hid (HO7.out.later hbp)
              have HPP := Lib.hid (HP7.out.later hbp)
              have HYP : Hid (RSl pvc 2 (W7.alloc (.cells #[.string key, .string rvv] 129)) (some ⟨W7.heap.size, 0, none⟩) 1 [(key, rvv)]) := Lib.hid (Blk.rslP (Blk.new W7 _ 129))
              have y73 := K77.out.cell 3
              simp only [List.getElem?_toArray, List.getElem?_cons_zero, List.getElem?_cons_succ] at y73
              clear hbp HO7 K57 K67 HB7
              go_wp2_with (first | (at_builtin; refine append_row1 elemP rfl _ _ rfl w.heap.size (.slice A7 m c7) m a rfl HPP.out W7.heap.size 1 (key, rvv) rfl HYP.out (by have := HNI.out; omega) (by decide) HBP.out.size ?_; intro A8 c8 w8 ho8 hg8 hn8 _; have K78 := Lib.hid (K7P.out.grown hg8 (fun e => HPP.out.nq K7P.out (by decide) e.symm)); have f3 := K78.out.frozen 3; have z3 := K78.out.cell 3; simp only [List.getElem?_toArray, List.getElem?_cons_zero, List.getElem?_cons_succ] at z3) | go_in)
              have HB8 := Lib.hid ((HBP.out.grown hg8 HBP.out.size (fun j e => (HPP.out.lt j e).1)).setCell (p := ⟨w.heap.size + 1 + 1, 3, none⟩) (Nat.le_trans (Nat.le_succ _) (Nat.le_succ _)) (.slice A8 (m + 1) c8))
              have hkeep : ∀ (j : Nat) (cc : Array Value) (t : TypeId), (W7.alloc (.cells #[.string key, .string rvv] 129)).heap[j]? = some (.cells cc t (0, 0)) → t ≠ 129 → j ≠ w.heap.size + 1 + 1 → (w8.setCell ⟨w.heap.size + 1 + 1, 3, none⟩ (.slice A8 (m + 1) c8)).heap[j]? = (W7.alloc (.cells #[.string key, .string rvv] 129)).heap[j]? := fun j cc t hj ht hne => (Below.heap_setCell w8 ⟨w.heap.size + 1 + 1, 3, none⟩ _ j hne).trans (hg8.block j (Array.getElem?_eq_some_iff.1 hj).1 (fun e => by
                obtain ⟨cur, hc⟩ := HPP.out.tag j e.symm
                rw [hj] at hc; simp only [Option.some.injEq, Obj.cells.injEq] at hc; exact ht hc.2.1))
              have K58 := Lib.hid ((hkeep _ _ _ K5P.out (by decide) (by omega)).trans K5P.out)
              have K68 := Lib.hid ((hkeep _ _ _ K6P.out (by decide) (by omega)).trans K6P.out)
              have K79 : Hid (Blk (w8.setCell ⟨w.heap.size + 1 + 1, 3, none⟩ (.slice A8 (m + 1) c8)) (w.heap.size + 1 + 1) #[.int .i64 0, .bool false, .string ⟨#[]⟩, (.slice A8 (m + 1) c8)] 33) := Lib.hid (K78.out.set (j := 3) _)
              have HO8 := Lib.hid (ow_keep HOP.out (fun j hj => by
                obtain ⟨cur, hc⟩ := HOP.out.tag j hj
                refine hkeep j cur 9 hc (by decide) (fun e => ?_)
                have h7 := K7P.out
                unfold Blk at h7
                rw [e, h7] at hc; simp only [Option.some.injEq, Obj.cells.injEq] at hc; exact absurd hc.2.1 (by decide)))
              have HP8 := Lib.hid (ho8.keepS (W' := w8.setCell ⟨w.heap.size + 1 + 1, 3, none⟩ (.slice A8 (m + 1) c8)) (fun j hj => Below.heap_setCell w8 ⟨w.heap.size + 1 + 1, 3, none⟩ _ j (fun e => ho8.nq K78.out (by decide) (by rw [← (show j = w.heap.size + 1 + 1 from e)]; exact hj))))
              clear ho8 hg8 hn8 hkeep K78 f3 z3
              go_wp2
              go_roundw
              case rel => exact ⟨kk + 1, a ++ [(key, rvv)], _, by omega, rfl, HS2.out HLI.out (by simp) (by simp), by rw [List.length_append, HML.out]; simp only [List.length_singleton]; omega, HB8.out, HO8.out, K58.out, K68.out, K79.out, by rw [List.length_append, HML.out]; exact HP8.out⟩
              case measure => simp [intOf]; omega
          · go_simp
            have hb : Below Wd.heap.size Wd (Wd.alloc (.cells #[.int .i64 0, .int .i64 0, .bool false, .string ⟨#[]⟩] 26)) := (Below.refl _ _).alloc (Nat.le_refl _) _
            have KZ : Hid (Blk (Wd.alloc (.cells #[.int .i64 0, .int .i64 0, .bool false, .string ⟨#[]⟩] 26)) Wd.heap.size #[.int .i64 0, .int .i64 0, .bool false, .string ⟨#[]⟩] 26) := Lib.hid (Blk.new Wd _ 26)
            have HQ : Hid (W0.heap.size ≤ Wd.heap.size) := Lib.hid HH.out.size
            replace HH := Lib.hid (stepB HH.out hb)
            clear hb hHeld
            refine hK.out _ _ (HH.out) (fun hHeld => ?_)
            clear hK K
            generalize Wd.alloc (.cells #[.int .i64 0, .int .i64 0, .bool false, .string ⟨#[]⟩] 26) = Wf at *
            obtain ⟨q7, hq7⟩ : ∃ x, Wd.heap.size = x := ⟨_, rfl⟩
            rw [hq7] at KZ HQ ⊢
            clear hq7
            refine wpAnyH_ready (rs := [14]) (by kernel_rfl) (by simp) (AllReadyH.cons (o := { dst := some 47, op := Op.call { callee := Callee.value (Operand.func 78), args := #[Operand.tmp 33, Operand.tmp 45, Operand.tmp 46], argTypes := #[22, 3, 9] }, type := 27, pos := "model.go:187", after := #[{ on := 0, ground := Ground.data }, { on := 12, ground := Ground.data }, { on := 13, ground := Ground.data }], guard := none }) rfl (fun K hK => ?_) AllReadyH.nil)
            have HCL := Lib.hid (HRK.out Wf (stepB HB.out HH.out))
            go_simp
            refine HCL.out.mono ?_
            rintro e W4 ⟨rfl, hb⟩
            replace HH := Lib.hid (stepB HH.out hb)
            replace KZ := Lib.hid (KZ.out.later hb)
            clear hb HCL hHeld
            refine hK.out _ _ (HH.out) (fun hHeld => ?_)
            clear hK K
            refine wpAnyH_take (i := 15) (oi := { dst := some 32, op := Op.move (Operand.tmp 47), type := 27, pos := "model.go:187", after := #[{ on := 14, ground := Ground.data }], guard := none }) (v := ?_) rfl (by kernel_rfl) (by kernel_rfl) (by kernel_rfl) (fun _ _ _ h => h) (Or.inl ⟨by rfl, ?_⟩) (by assumption) ?_
            rotate_left
            · intro W hSw
              clear hSw
              go_simp
              try with_reducible rfl
            simp only [Act.put, List.setIfInBounds_toArray, List.set_cons_zero, List.set_cons_succ]
            refine wpAnyH_take (i := 16) (oi := { dst := some 48, op := Op.extract (Operand.tmp 32) 0, type := 26, pos := "model.go:187", after := #[{ on := 15, ground := Ground.data }], guard := none }) (v := ?_) rfl (by kernel_rfl) (by kernel_rfl) (by kernel_rfl) (fun _ _ _ h => h) (Or.inl ⟨by rfl, ?_⟩) (by assumption) ?_
            rotate_left
            · intro W hSw
              clear hSw
              go_simp
              try with_reducible rfl
            simp only [Act.put, List.setIfInBounds_toArray, List.set_cons_zero, List.set_cons_succ]
            refine wpAnyH_take (i := 17) (oi := { dst := some 49, op := Op.extract (Operand.tmp 32) 1, type := 4, pos := "model.go:187", after := #[{ on := 15, ground := Ground.data }, { on := 19, ground := Ground.gcOnly Departure.lateStores }], guard := none }) (v := ?_) rfl (by kernel_rfl) (by kernel_rfl) (by kernel_rfl) (fun _ _ _ h => h) (Or.inl ⟨by rfl, ?_⟩) (by assumption) ?_
            rotate_left
            · intro W hSw
              clear hSw
              go_simp
              try with_reducible rfl
            simp only [Act.put, List.setIfInBounds_toArray, List.set_cons_zero, List.set_cons_succ]
            refine wpAnyH_ready (rs := [19]) (by kernel_rfl) (by simp) (AllReadyH.cons (o := { dst := none, op := Op.store 26 (Operand.tmp 10) (Operand.tmp 48), type := 0, pos := "model.go:187", after := #[{ on := 18, ground := Ground.data }, { on := 16, ground := Ground.data }, { on := 14, ground := Ground.chain }, { on := 0, ground := Ground.phase }, { on := 1, ground := Ground.phase }, { on := 2, ground := Ground.phase }, { on := 3, ground := Ground.phase }, { on := 4, ground := Ground.phase }, { on := 5, ground := Ground.phase }, { on := 6, ground := Ground.phase }, { on := 7, ground := Ground.phase }, { on := 8, ground := Ground.phase }, { on := 9, ground := Ground.phase }, { on := 10, ground := Ground.phase }, { on := 11, ground := Ground.phase }, { on := 12, ground := Ground.phase }, { on := 13, ground := Ground.phase }, { on := 14, ground := Ground.phase }, { on := 15, ground := Ground.phase }, { on := 16, ground := Ground.phase }, { on := 17, ground := Ground.textOnly Departure.lateStores }, { on := 18, ground := Ground.phase }], guard := none }) rfl (fun K hK => ?_) AllReadyH.nil)
            refine wp_store_row 26 (.tmp 10) (.tmp 48) rfl q7 #[.int .i64 rw_, .int .i64 rts, .bool rtm, .string rvv] rfl rfl 26 #[.int .i64 0, .int .i64 0, .bool false, .string ⟨#[]⟩] KZ.out (by kernel_rfl) rfl (by first | rfl | (simp [Value.oneCell']; done)) ?_
            have HH7 := Lib.hid (below_setRow HH.out HQ.out #[.int .i64 rw_, .int .i64 rts, .bool rtm, .string rvv])
            have HK7 : Hid (Blk (W4.setRow q7 #[.int .i64 rw_, .int .i64 rts, .bool rtm, .string rvv]) q7 #[.int .i64 rw_, .int .i64 rts, .bool rtm, .string rvv] 26) := Lib.hid (Blk.setRow_self KZ.out)
            clear hHeld
            refine hK.out _ _ (HH7.out) (fun hHeld => ?_)
            clear hK K
            refine wpAnyH_take (i := 20) (oi := { dst := some 11, op := Op.assign (Operand.tmp 49), type := 4, pos := "model.go:187", after := #[{ on := 17, ground := Ground.data }, { on := 19, ground := Ground.chain }, { on := 0, ground := Ground.phase }, { on := 1, ground := Ground.phase }, { on := 2, ground := Ground.phase }, { on := 3, ground := Ground.phase }, { on := 4, ground := Ground.phase }, { on := 5, ground := Ground.phase }, { on := 6, ground := Ground.phase }, { on := 7, ground := Ground.phase }, { on := 8, ground := Ground.phase }, { on := 9, ground := Ground.phase }, { on := 10, ground := Ground.phase }, { on := 11, ground := Ground.phase }, { on := 12, ground := Ground.phase }, { on := 13, ground := Ground.phase }, { on := 14, ground := Ground.phase }, { on := 15, ground := Ground.phase }, { on := 16, ground := Ground.phase }, { on := 17, ground := Ground.phase }, { on := 18, ground := Ground.phase }, { on := 19, ground := Ground.phase }], guard := none }) (v := ?_) rfl (by kernel_rfl) (by kernel_rfl) (by kernel_rfl) (fun _ _ _ h => h) (Or.inl ⟨by rfl, ?_⟩) (by assumption) ?_
            rotate_left
            · intro W hSw
              clear hSw
              go_simp
              try with_reducible rfl
            simp only [Act.put, List.setIfInBounds_toArray, List.set_cons_zero, List.set_cons_succ]
            refine wpAnyH_done (by kernel_rfl) (NoPanic.normal ?_) _
            clear hHeld KZ HQ HRK
            generalize W4.setRow q7 #[.int .i64 rw_, .int .i64 rts, .bool rtm, .string rvv] = W7 at *
            have HB7 := Lib.hid (stepB HB.out HH7.out)
            have K57 := Lib.hid (K5.out.later HH7.out)
            have K67 := Lib.hid (K6.out.later HH7.out)
            have K77 := Lib.hid (K7.out.later HH7.out)
            have HO7 := Lib.hid (HO.out.later HH7.out)
            have HP7 := Lib.hid (HP.out.later HH7.out)
            have c3 := HK7.out.cell 3
            simp only [List.getElem?_toArray, List.getElem?_cons_zero, List.getElem?_cons_succ] at c3
            clear HH7 HH HB K5 K6 K7 HO HP
            cases rb with
            | false =>
              go_wp2
              go_roundw
              case rel => exact ⟨kk + 1, a, _, by omega, rfl, HS3.out HLI.out (by simp), by rw [HML.out]; omega, HB7.out, HO7.out, K57.out, K67.out, K77.out, by rw [HML.out]; exact HP7.out⟩
              case measure => simp [intOf]; omega
            | true =>
              have hbp : Below W7.heap.size W7 (W7.alloc (.cells #[.string key, .string rvv] 129)) := (Below.refl _ _).alloc (Nat.le_refl _) _
              have HBP := Lib.hid (stepB HB7.out hbp)
              have K5P := Lib.hid (K57.out.later hbp)
              have K6P := Lib.hid (K67.out.later hbp)
              have K7P := Lib.hid (K77.out.later hbp)
              have HOP := Lib.hid (HO7.out.later hbp)
              have HPP := Lib.hid (HP7.out.later hbp)
              have HYP : Hid (RSl pvc 2 (W7.alloc (.cells #[.string key, .string rvv] 129)) (some ⟨W7.heap.size, 0, none⟩) 1 [(key, rvv)]) := Lib.hid (Blk.rslP (Blk.new W7 _ 129))
              have y73 := K77.out.cell 3
              simp only [List.getElem?_toArray, List.getElem?_cons_zero, List.getElem?_cons_succ] at y73
              clear hbp HO7 K57 K67 HB7
              go_wp2_with (first | (at_builtin; refine append_row1 elemP rfl _ _ rfl w.heap.size (.slice A7 m c7) m a rfl HPP.out W7.heap.size 1 (key, rvv) rfl HYP.out (by have := HNI.out; omega) (by decide) HBP.out.size ?_; intro A8 c8 w8 ho8 hg8 hn8 _; have K78 := Lib.hid (K7P.out.grown hg8 (fun e => HPP.out.nq K7P.out (by decide) e.symm)); have f3 := K78.out.frozen 3; have z3 := K78.out.cell 3; simp only [List.getElem?_toArray, List.getElem?_cons_zero, List.getElem?_cons_succ] at z3) | go_in)
              have HB8 := Lib.hid ((HBP.out.grown hg8 HBP.out.size (fun j e => (HPP.out.lt j e).1)).setCell (p := ⟨w.heap.size + 1 + 1, 3, none⟩) (Nat.le_trans (Nat.le_succ _) (Nat.le_succ _)) (.slice A8 (m + 1) c8))
              have hkeep : ∀ (j : Nat) (cc : Array Value) (t : TypeId), (W7.alloc (.cells #[.string key, .string rvv] 129)).heap[j]? = some (.cells cc t (0, 0)) → t ≠ 129 → j ≠ w.heap.size + 1 + 1 → (w8.setCell ⟨w.heap.size + 1 + 1, 3, none⟩ (.slice A8 (m + 1) c8)).heap[j]? = (W7.alloc (.cells #[.string key, .string rvv] 129)).heap[j]? := fun j cc t hj ht hne => (Below.heap_setCell w8 ⟨w.heap.size + 1 + 1, 3, none⟩ _ j hne).trans (hg8.block j (Array.getElem?_eq_some_iff.1 hj).1 (fun e => by
                obtain ⟨cur, hc⟩ := HPP.out.tag j e.symm
                rw [hj] at hc; simp only [Option.some.injEq, Obj.cells.injEq] at hc; exact ht hc.2.1))
              have K58 := Lib.hid ((hkeep _ _ _ K5P.out (by decide) (by omega)).trans K5P.out)
              have K68 := Lib.hid ((hkeep _ _ _ K6P.out (by decide) (by omega)).trans K6P.out)
              have K79 : Hid (Blk (w8.setCell ⟨w.heap.size + 1 + 1, 3, none⟩ (.slice A8 (m + 1) c8)) (w.heap.size + 1 + 1) #[.int .i64 0, .bool false, .string ⟨#[]⟩, (.slice A8 (m + 1) c8)] 33) := Lib.hid (K78.out.set (j := 3) _)
              have HO8 := Lib.hid (ow_keep HOP.out (fun j hj => by
                obtain ⟨cur, hc⟩ := HOP.out.tag j hj
                refine hkeep j cur 9 hc (by decide) (fun e => ?_)
                have h7 := K7P.out
                unfold Blk at h7
                rw [e, h7] at hc; simp only [Option.some.injEq, Obj.cells.injEq] at hc; exact absurd hc.2.1 (by decide)))
              have HP8 := Lib.hid (ho8.keepS (W' := w8.setCell ⟨w.heap.size + 1 + 1, 3, none⟩ (.slice A8 (m + 1) c8)) (fun j hj => Below.heap_setCell w8 ⟨w.heap.size + 1 + 1, 3, none⟩ _ j (fun e => ho8.nq K78.out (by decide) (by rw [← (show j = w.heap.size + 1 + 1 from e)]; exact hj))))
              clear ho8 hg8 hn8 hkeep K78 f3 z3
              go_wp2
              go_roundw
              case rel => exact ⟨kk + 1, a ++ [(key, rvv)], _, by omega, rfl, HS2.out HLI.out (by simp) (by simp), by rw [List.length_append, HML.out]; simp only [List.length_singleton]; omega, HB8.out, HO8.out, K58.out, K68.out, K79.out, by rw [List.length_append, HML.out]; exact HP8.out⟩
              case measure => simp [intOf]; omega
    · have d2 : decide ((kk : Int) < (n : Int)) = false := decide_eq_false (by omega)
      have HTA : Hid (TOT = a) := Lib.hid (by rw [← HSC.out, List.drop_eq_nil_of_le (by have := HNI.out; omega)]; rfl)
      clear ho
      have u0 := K6.out.cell 0
      have u1 := K6.out.cell 1
      have u2 := K6.out.cell 2
      have u3 := K6.out.cell 3
      simp only [List.getElem?_toArray, List.getElem?_cons_zero, List.getElem?_cons_succ] at u0 u1 u2 u3
      have v0 := K6.out.frozen 0
      have v1 := K6.out.frozen 1
      have v2 := K6.out.frozen 2
      have v3 := K6.out.frozen 3
      have y70 := K7.out.cell 0
      have y71 := K7.out.cell 1
      have y72 := K7.out.cell 2
      have y73 := K7.out.cell 3
      simp only [List.getElem?_toArray, List.getElem?_cons_zero, List.getElem?_cons_succ] at y70 y71 y72 y73
      have HS := Lib.hid (setB4 K6.out rfl (.int .i64 0) (.bool false) (.string ⟨#[]⟩) (.slice A7 m c7) HB.out (Nat.le_succ _))
      have HPS := Lib.hid (HP.out.set4 K6.out (by decide) (.int .i64 0) (.bool false) (.string ⟨#[]⟩) (.slice A7 m c7))
      go_wp2
      refine bodyPost_ret (results_cell_row rfl _ _ (w.heap.size + 1) 33 _ (0, 0) _ rfl HS.out.1 Try.underlying33 rfl (by kernel_rfl)) rfl ?_
      refine AnEnd.of (by rw [HA.out]) ⟨_, rfl, ?_, Mv.same ⟨x, HM.out, rfl⟩ HS.out.2⟩
      show ROwn pvc 2 _ w.heap.size 129 (.slice A7 m c7) TOT.length TOT
      rw [HTA.out, HML.out]
      exact HPS.out
end Go.Proofs.Ytoinjnocopejjaa
