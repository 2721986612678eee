/- The document's Read: its walk. -/
import Derived.Test.YtkgdmdcnhbaidaaDoorDH
namespace Go.Proofs.YtkgdmdcnhbaidaaDoor
open Go.ChangeShapes Go.WideShapes Go.ChangeAt Go.RowKit
set_option linter.unusedVariables false
set_option linter.unusedSimpArgs false

theorem nuV_in (s : ByteArray) : inI (nuV s) := by
  unfold nuV inI wrap64
  omega
set_option maxRecDepth 100000 in
set_option maxHeartbeats 16000000 in
theorem rread_any (s : ByteArray) (w : World) (hs : s.size ≤ 100000) : Calls Tryd.prog 21 #[.string s] w (RREnd s w) := by
  have HB0 : Hid (Below w.heap.size w (w.alloc (.cells #[.int .i64 0, .bool false, .string { data := #[] }, .slice none 0 0] 37))) := (Below.refl _ _).alloc (Nat.le_refl _) _
  have HPR : Hid (Blk (w.alloc (.cells #[.int .i64 0, .bool false, .string { data := #[] }, .slice none 0 0] 37)) w.heap.size #[.int .i64 0, .bool false, .string { data := #[] }, .slice none 0 0] 37) := Blk.new _ _ _
  have HW := Lib.hid (rsplit_any s (w.alloc (.cells #[.int .i64 0, .bool false, .string { data := #[] }, .slice none 0 0] 37)) hs)
  have HLW : Hid (1 ≤ (wordsOf s).length ∧ (wordsOf s).length ≤ 100001) := Lib.hid (by rw [words_len]; have := Lib.countB_le sp (by decide) s.size s (Nat.le_refl _); omega)
  have HSZ : Hid (∀ x ∈ wordsOf s, x.size ≤ 100000) := Lib.hid (fun x hx => Nat.le_trans (split_sz sp 0 _ s x hx) hs)
  have HOB : Hid (okB s = decide (telT (rAs s) = s)) := Lib.hid rfl
  have HRA : Hid (rAs s = (nuV ((wordsOf s).getD 0 emp), decide ((wordsOf s).getD 1 emp = { data := #[49] }), tolP ((wordsOf s).getD 2 emp), rprs ((wordsOf s).drop 3))) := Lib.hid rfl
  clear hs
  go_enter Tryd.func21, Tryd.ntmps21
  go_wp2_with fail
  refine HW.out.mono ?_
  rintro e w1 ⟨vw, rfl, hro, hb⟩
  obtain ⟨Aw, cw, hvw, _, _⟩ := hro.sl
  subst hvw
  have HWR := Lib.hid (hro.rsl wdc_len)
  have HWG : Hid (∀ g o, Aw = some ⟨g, o, none⟩ → g < w1.heap.size) := Lib.hid (fun g o e => (hro.lt g (by rw [e]; rfl)).2)
  replace HPR := Lib.hid (HPR.out.later hb)
  have HB := Lib.hid (stepB HB0.out hb)
  clear hro hb HW HB0
  obtain ⟨ws, hws⟩ : ∃ ws, wordsOf s = ws := ⟨_, rfl⟩
  rw [hws] at HWR HLW HSZ HRA ⊢
  clear hws
  obtain ⟨n, hn⟩ : ∃ n, ws.length = n := ⟨_, rfl⟩
  have HLN := Lib.hid hn
  rw [hn] at HWR HLW ⊢
  have hsz : ∀ k, (ws.getD k emp).size ≤ 100000 := fun k => by
    rw [List.getD_eq_getElem?_getD]
    cases h : ws[k]? with
    | none => exact Nat.zero_le _
    | some x => exact HSZ.out x (List.mem_of_getElem? h)
  have HSK := Lib.hid hsz
  have hx0 : ws[0]? = some (ws.getD 0 emp) := by rw [List.getD_eq_getElem?_getD, List.getElem?_eq_getElem (by have := HLW.out.1; omega)]; rfl
  obtain ⟨g, off, hA, hc0⟩ := wdc_at HWR.out hx0
  subst hA
  have i0 := idx25o g off n cw 0 0 rfl (by have := HLW.out.1; omega)
  rw [Nat.add_zero] at i0 hc0
  have HNU : Hid (∀ V, Calls Tryd.prog 43 #[.string (ws.getD 0 emp)] V fun e w' => e = .returned (.int .i64 (nuV (ws.getD 0 emp))) ∧ w' = V) := Lib.hid (fun V => rnumber_any _ V (hsz 0))
  have HA1 : Hid (∀ V, RSl wdc 1 V (some ⟨g, off, none⟩) n ws → Calls Tryd.prog 44 #[.slice (some ⟨g, off, none⟩) n cw, .int .i64 1] V fun e w' => e = .returned (.string (ws.getD 1 emp)) ∧ w' = V) := Lib.hid (fun V h => rat_any (some ⟨g, off, none⟩) n cw ws 1 V h)
  have HA2 : Hid (∀ V, RSl wdc 1 V (some ⟨g, off, none⟩) n ws → Calls Tryd.prog 44 #[.slice (some ⟨g, off, none⟩) n cw, .int .i64 2] V fun e w' => e = .returned (.string (ws.getD 2 emp)) ∧ w' = V) := Lib.hid (fun V h => rat_any (some ⟨g, off, none⟩) n cw ws 2 V h)
  have HTO : Hid (∀ V, Calls Tryd.prog 45 #[.string (ws.getD 2 emp)] V fun e w' => e = .returned (.string (tolP (ws.getD 2 emp))) ∧ Below V.heap.size V w') := Lib.hid (fun V => rtold_any _ V (hsz 2))
  have HVA : Hid ((tolP (ws.getD 2 emp)).size ≤ 100000) := Lib.hid (Nat.le_trans (tolP_size _) (hsz 2))
  have HER : Hid (inI (nuV (ws.getD 0 emp))) := Lib.hid (nuV_in _)
  have HPZ := Lib.hid (rprs_sz (ws.drop 3) (fun x hx => HSZ.out x (List.mem_of_mem_drop hx)))
  have HPL : Hid ((rprs (ws.drop 3)).length ≤ 100000) := Lib.hid (by have h1 := rprs_len (ws.drop 3); rw [List.length_drop] at h1; have h2 := HLW.out.2; omega)
  clear hsz hx0 hn HSZ
  generalize ws.getD 0 emp = x0 at *
  generalize ws.getD 1 emp = x1 at *
  generalize ws.getD 2 emp = x2 at *
  obtain ⟨er, her⟩ : ∃ z, nuV x0 = z := ⟨_, rfl⟩
  obtain ⟨va, hva⟩ : ∃ z, tolP x2 = z := ⟨_, rfl⟩
  obtain ⟨PS, hPS⟩ : ∃ z, rprs (ws.drop 3) = z := ⟨_, rfl⟩
  obtain ⟨fo, hfo⟩ : ∃ b, decide (x1 = { data := #[49] }) = b := ⟨_, rfl⟩
  rw [her] at HNU HRA HER
  rw [hva] at HTO HRA HVA
  rw [hPS] at HRA HPZ HPL
  rw [hfo] at HRA
  have q1 : (x1.toList == [49]) = fo := by
    rw [← hfo, Bool.eq_iff_iff, beq_iff_eq, decide_eq_true_eq, ByteArray.toList_eq]
    exact ⟨fun e => ByteArray.ext (Array.toList_inj.1 e), fun e => by rw [e]⟩
  have HPS := Lib.hid hPS
  clear her hva hPS hfo
  go_wp2_with fail
  refine (HNU.out w1).mono ?_
  rintro e w2 ⟨rfl, hw⟩
  subst hw
  go_wp2_with fail
  refine (HA1.out w2 HWR.out).mono ?_
  rintro e w3 ⟨rfl, hw⟩
  subst hw
  go_wp2_with fail
  refine (HA2.out w3 HWR.out).mono ?_
  rintro e w4 ⟨rfl, hw⟩
  subst hw
  go_wp2_with fail
  refine (HTO.out w4).mono ?_
  rintro e w5 ⟨rfl, hb⟩
  replace HWR := Lib.hid (HWR.out.later hb)
  replace HPR := Lib.hid (HPR.out.later hb)
  replace HB := Lib.hid (stepB HB.out hb)
  replace HWG : Hid (g < w5.heap.size) := Lib.hid (Nat.lt_of_lt_of_le (HWG.out g off rfl) hb.size)
  clear hb hc0 i0 HNU HA1 HA2 HTO q1
  go_upto_block 0 with (fail)
  have hby : Below w5.heap.size w5 (w5.alloc (.cells #[.int .i64 er, .bool fo, .string va, .slice none 0 0] 37)) := (Below.refl _ _).alloc (Nat.le_refl _) _
  have hbk : Blk (w5.alloc (.cells #[.int .i64 er, .bool fo, .string va, .slice none 0 0] 37)) w5.heap.size #[.int .i64 er, .bool fo, .string va, .slice none 0 0] 37 := Blk.new _ _ _
  have HP : Hid (DW w (w5.alloc (.cells #[.int .i64 er, .bool fo, .string va, .slice none 0 0] 37)) w5.heap.size w.heap.size (some ⟨g, off, none⟩) n ws er fo va (.slice none 0 0) []) := Lib.hid ⟨HWR.out.later hby, fun g2 o2 e => by cases e; exact HWG.out, hbk, HPR.out.later hby, stepB HB.out hby, Nat.le_refl _, HPR.out.lt, hbk.lt, ROwn.nil0 _ _ _⟩
  generalize w5.alloc (.cells #[.int .i64 er, .bool fo, .string va, .slice none 0 0] 37) = w6 at *
  clear hby hbk HWR HPR HB HWG
  obtain ⟨px, hpx⟩ : ∃ x, w5.heap.size = x := ⟨_, rfl⟩
  obtain ⟨pr, hpr⟩ : ∃ x, w.heap.size = x := ⟨_, rfl⟩
  have HPX := Lib.hid hpr
  rw [hpx, hpr] at HP
  rw [hpx, hpr]
  clear hpx hpr
  go_wp2
  go_loopw [6] (fun ix W => ∃ (m : Nat) (v : Value) (L : List Pr), 3 ≤ m ∧ m ≤ n + 2 ∧ ix = .int .i64 m ∧ L ++ rprs (ws.drop m) = PS ∧ DW w W px pr (some ⟨g, off, none⟩) n ws er fo va v L) (fun ix _ => n - (intOf ix).toNat)
  case atStart => exact ⟨3, _, [], Nat.le_refl _, by have := HLW.out.1; omega, rfl, HPS.out, HP.out⟩
  case round =>
    clear HP HPS
    obtain ⟨m, v, L, h3, hmn, rfl, hps, hP⟩ := hrel
    have HP := Lib.hid hP
    have HPS := Lib.hid hps
    clear hP hps
    obtain ⟨Av, cv, hv, _, _⟩ := HP.out.row.sl
    subst hv
    obtain ⟨nL, hnL⟩ : ∃ x, L.length = x := ⟨_, rfl⟩
    have HNL := Lib.hid hnL
    rw [hnL] at HP
    clear hnL
    have HB_ : Hid (nL + 1 ≤ 1000000) := Lib.hid (by have h1 := congrArg List.length HPS.out; rw [List.length_append] at h1; have h2 := HPL.out; have h4 := HNL.out; omega)
    by_cases hlt : m < n
    · have d1 : decide ((m : Int) < (n : Int)) = true := decide_eq_true (by omega)
      have wk : IntKind.i64.wrap ((m : Int) + 1) = (m : Int) + 1 := IntWalk.i64_in _ (by have := HLW.out.2; omega)
      have wk2 : IntKind.i64.wrap ((m : Int) + 2) = (m : Int) + 2 := IntWalk.i64_in _ (by have := HLW.out.2; omega)
      have hx : ws[m]? = some (ws.getD m emp) := by rw [List.getD_eq_getElem?_getD, List.getElem?_eq_getElem (by have := HLN.out; omega)]; rfl
      have hst := rprs_step ws m _ hx
      obtain ⟨g2, o2, hA, hc⟩ := wdc_at HP.out.wd hx
      cases hA
      have HC0 := Lib.hid hc
      have HI := Lib.hid (idx25o g off n cw m (m : Int) rfl hlt)
      have HU1 : Hid (∀ V, Calls Tryd.prog 45 #[.string (ws.getD m emp)] V fun e w' => e = .returned (.string (tolP (ws.getD m emp))) ∧ Below V.heap.size V w') := Lib.hid (fun V => rtold_any _ V (HSK.out m))
      have HU2 : Hid (∀ V, Calls Tryd.prog 45 #[.string (ws.getD (m + 1) emp)] V fun e w' => e = .returned (.string (tolP (ws.getD (m + 1) emp))) ∧ Below V.heap.size V w') := Lib.hid (fun V => rtold_any _ V (HSK.out (m + 1)))
      have HAT : Hid (∀ V, RSl wdc 1 V (some ⟨g, off, none⟩) n ws → Calls Tryd.prog 44 #[.slice (some ⟨g, off, none⟩) n cw, .int .i64 ((m : Int) + 1)] V fun e w' => e = .returned (.string (ws.getD (m + 1) emp)) ∧ w' = V) := Lib.hid (fun V h => rat_any (some ⟨g, off, none⟩) n cw ws (m + 1) V h)
      generalize ws.getD m emp = xa at *
      generalize ws.getD (m + 1) emp = xb at *
      obtain ⟨t1, ht1⟩ : ∃ z, tolP xa = z := ⟨_, rfl⟩
      obtain ⟨t2, ht2⟩ : ∃ z, tolP xb = z := ⟨_, rfl⟩
      rw [ht1] at hst HU1
      rw [ht2] at hst HU2
      have HPS2 : Hid (L ++ (t1, t2) :: rprs (ws.drop (m + 2)) = PS) := Lib.hid (by have h := HPS.out; rw [hst] at h; exact h)
      have HBU : Hid (Tryd.prog.built 42 [(0, .string t1), (1, .string t2)] = some #[.string t1, .string t2]) := Lib.hid (by kernel_rfl)
      clear hx hst hc ht1 ht2 HPS
      go_upto_region 6 with (fail)
      refine wp_region_noPanic ?_
      obtain ⟨W0, rfl⟩ : ∃ W0 : World, W0 = wr := ⟨_, rfl⟩
      refine wp_region_held_drew (S := fun W => Below px W0 W) (by kernel_rfl) (Below.drew (Below.refl _ _)) (fun hHeld => ?_)
      have HH := Lib.hid hHeld
      have HD := Lib.hid (HP.out.later (Below.drew (Below.refl _ _)))
      have HGL : Hid (g < px) := Lib.hid (HP.out.wg g off rfl)
      obtain ⟨Wd, hWd⟩ : ∃ Wd, W0.drew = Wd := ⟨_, rfl⟩
      rw [hWd] at HH HD hHeld ⊢
      clear hWd HP
      refine wpAnyH_take (i := 0) (oi := { dst := some 26, op := Op.fieldAddr 37 (Operand.tmp 5) 3, type := 0, pos := "ref.go:214", after := #[], guard := none }) (v := ?_) rfl (by kernel_rfl) (by kernel_rfl) (by kernel_rfl) (fun _ _ _ h => h) (Or.inl ⟨by rfl, ?_⟩) (by assumption) ?_
      rotate_left
      · intro W hSw
        clear hSw
        go_simp
        try with_reducible rfl
      simp only [Act.put, List.setIfInBounds_toArray, List.set_cons_zero, List.set_cons_succ]
      refine wpAnyH_take (i := 2) (oi := { dst := some 28, op := Op.move (Operand.tmp 4), type := 25, pos := "ref.go:214", after := #[], guard := none }) (v := ?_) rfl (by kernel_rfl) (by kernel_rfl) (by kernel_rfl) (fun _ _ _ h => h) (Or.inl ⟨by rfl, ?_⟩) (by assumption) ?_
      rotate_left
      · intro W hSw
        clear hSw
        go_simp
        try with_reducible rfl
      simp only [Act.put, List.setIfInBounds_toArray, List.set_cons_zero, List.set_cons_succ]
      refine wpAnyH_take (i := 3) (oi := { dst := some 29, op := Op.move (Operand.tmp 6), type := 3, pos := "ref.go:214", after := #[], guard := none }) (v := ?_) rfl (by kernel_rfl) (by kernel_rfl) (by kernel_rfl) (fun _ _ _ h => h) (Or.inl ⟨by rfl, ?_⟩) (by assumption) ?_
      rotate_left
      · intro W hSw
        clear hSw
        go_simp
        try with_reducible rfl
      simp only [Act.put, List.setIfInBounds_toArray, List.set_cons_zero, List.set_cons_succ]
      refine wpAnyH_take (i := 4) (oi := { dst := some 30, op := Op.indexAddr 25 (Operand.tmp 28) (Operand.tmp 29), type := 0, pos := "ref.go:214", after := #[{ on := 2, ground := Ground.data }, { on := 3, ground := Ground.data }], guard := none }) (v := ?_) rfl (by kernel_rfl) (by kernel_rfl) (by kernel_rfl) (fun _ _ _ h => h) (Or.inl ⟨by rfl, ?_⟩) (by assumption) ?_
      rotate_left
      · intro W hSw
        clear hSw
        have i1 := HI.out
        go_simp
        try with_reducible rfl
      simp only [Act.put, List.setIfInBounds_toArray, List.set_cons_zero, List.set_cons_succ]
      refine wpAnyH_take (i := 5) (oi := { dst := some 31, op := Op.load 9 (Operand.tmp 30), type := 9, pos := "ref.go:214", after := #[{ on := 4, ground := Ground.data }], guard := none }) (v := ?_) rfl (by kernel_rfl) (by kernel_rfl) (by kernel_rfl) (fun _ _ _ h => h) (Or.inl ⟨by rfl, ?_⟩) (by assumption) ?_
      rotate_left
      · intro W hSw
        have y0 := (hSw.cell (p := ⟨g, off + m, none⟩) HGL.out).trans HC0.out
        go_simp
        try with_reducible rfl
      simp only [Act.put, List.setIfInBounds_toArray, List.set_cons_zero, List.set_cons_succ]
      refine wpAnyH_take (i := 7) (oi := { dst := some 33, op := Op.move (Operand.tmp 4), type := 25, pos := "ref.go:214", after := #[], guard := none }) (v := ?_) rfl (by kernel_rfl) (by kernel_rfl) (by kernel_rfl) (fun _ _ _ h => h) (Or.inl ⟨by rfl, ?_⟩) (by assumption) ?_
      rotate_left
      · intro W hSw
        clear hSw
        go_simp
        try with_reducible rfl
      simp only [Act.put, List.setIfInBounds_toArray, List.set_cons_zero, List.set_cons_succ]
      refine wpAnyH_take (i := 8) (oi := { dst := some 34, op := Op.move (Operand.tmp 6), type := 3, pos := "ref.go:214", after := #[], guard := none }) (v := ?_) rfl (by kernel_rfl) (by kernel_rfl) (by kernel_rfl) (fun _ _ _ h => h) (Or.inl ⟨by rfl, ?_⟩) (by assumption) ?_
      rotate_left
      · intro W hSw
        clear hSw
        go_simp
        try with_reducible rfl
      simp only [Act.put, List.setIfInBounds_toArray, List.set_cons_zero, List.set_cons_succ]
      refine wpAnyH_take (i := 9) (oi := { dst := some 35, op := Op.binOp BinOp.add 3 (Operand.tmp 34) (Operand.const (Value.int IntKind.i64 1)) 3, type := 3, pos := "ref.go:214", after := #[{ on := 8, ground := Ground.data }], guard := none }) (v := ?_) rfl (by kernel_rfl) (by kernel_rfl) (by kernel_rfl) (fun _ _ _ h => h) (Or.inl ⟨by rfl, ?_⟩) (by assumption) ?_
      rotate_left
      · intro W hSw
        clear hSw
        go_simp
        try with_reducible rfl
      simp only [Act.put, List.setIfInBounds_toArray, List.set_cons_zero, List.set_cons_succ]
      refine wpAnyH_ready (rs := [1, 6]) (by kernel_rfl) (by simp) (AllReadyH.cons (o := { dst := some 27, op := Op.load 35 (Operand.tmp 26), type := 35, pos := "ref.go:214", after := #[{ on := 0, ground := Ground.data }], guard := none }) rfl (fun K hK => ?_) (AllReadyH.cons (o := { dst := some 32, op := Op.call { callee := Callee.value (Operand.func 45), args := #[Operand.tmp 31], argTypes := #[9] }, type := 9, pos := "ref.go:214", after := #[{ on := 5, ground := Ground.data }], guard := none }) rfl (fun K hK => ?_) AllReadyH.nil))
      · have x3 := HD.out.bx.cell 3
        simp only [List.getElem?_toArray, List.getElem?_cons_zero, List.getElem?_cons_succ] at x3
        go_simp
        clear hHeld x3
        refine hK.out _ _ HH.out (fun hHeld => ?_)
        clear hK K
        refine wpAnyH_ready (rs := [6]) (by kernel_rfl) (by simp) (AllReadyH.cons (o := { dst := some 32, op := Op.call { callee := Callee.value (Operand.func 45), args := #[Operand.tmp 31], argTypes := #[9] }, type := 9, pos := "ref.go:214", after := #[{ on := 5, ground := Ground.data }], guard := none }) rfl (fun K hK => ?_) AllReadyH.nil)
        have HCL := Lib.hid (HU1.out Wd)
        go_simp
        refine HCL.out.mono ?_
        rintro e Wa ⟨rfl, hb⟩
        replace HH := Lib.hid (HH.out.trans (hb.mono (by have h := HD.out.o5; omega)))
        replace HD := Lib.hid (HD.out.later hb)
        clear hb HCL hHeld
        refine hK.out _ _ HH.out (fun hHeld => ?_)
        clear hK K
        refine wpAnyH_ready (rs := [10]) (by kernel_rfl) (by simp) (AllReadyH.cons (o := { dst := some 36, op := Op.call { callee := Callee.value (Operand.func 44), args := #[Operand.tmp 33, Operand.tmp 35], argTypes := #[25, 3] }, type := 9, pos := "ref.go:214", after := #[{ on := 7, ground := Ground.data }, { on := 9, ground := Ground.data }, { on := 6, ground := Ground.chain }], guard := none }) rfl (fun K hK => ?_) AllReadyH.nil)
        have HCL := Lib.hid (HAT.out Wa HD.out.wd)
        go_simp
        refine HCL.out.mono ?_
        rintro e Wb ⟨rfl, hb⟩
        clear HCL hHeld
        subst hb
        refine hK.out _ _ HH.out (fun hHeld => ?_)
        clear hK K
        refine wpAnyH_ready (rs := [11]) (by kernel_rfl) (by simp) (AllReadyH.cons (o := { dst := some 37, op := Op.call { callee := Callee.value (Operand.func 45), args := #[Operand.tmp 36], argTypes := #[9] }, type := 9, pos := "ref.go:214", after := #[{ on := 10, ground := Ground.data }, { on := 10, ground := Ground.chain }], guard := none }) rfl (fun K hK => ?_) AllReadyH.nil)
        have HCL := Lib.hid (HU2.out Wb)
        go_simp
        refine HCL.out.mono ?_
        rintro e Wc ⟨rfl, hb⟩
        replace HH := Lib.hid (HH.out.trans (hb.mono (by have h := HD.out.o5; omega)))
        replace HD := Lib.hid (HD.out.later hb)
        clear hb HCL hHeld
        refine hK.out _ _ HH.out (fun hHeld => ?_)
        clear hK K
        refine wpAnyH_take (i := 12) (oi := { dst := some 38, op := Op.build 42 #[(0, Operand.tmp 32), (1, Operand.tmp 37)], type := 42, pos := "ref.go:214", after := #[{ on := 6, ground := Ground.data }, { on := 11, ground := Ground.data }], guard := none }) (v := ?_) rfl (by kernel_rfl) (by kernel_rfl) (by kernel_rfl) (fun _ _ _ h => h) (Or.inl ⟨by rfl, ?_⟩) (by assumption) ?_
        rotate_left
        · intro W hSw
          clear hSw
          have b1 := HBU.out
          go_simp
          try with_reducible rfl
        simp only [Act.put, List.setIfInBounds_toArray, List.set_cons_zero, List.set_cons_succ]
        refine wpAnyH_ready (rs := [13]) (by kernel_rfl) (by simp) (AllReadyH.cons (o := { dst := some 39, op := Op.buildSlice 35 1 #[(0, Operand.tmp 38)], type := 35, pos := "ref.go:214", after := #[{ on := 12, ground := Ground.data }], guard := none }) rfl (fun K hK => ?_) AllReadyH.nil)
        go_simp
        have hb : Below Wc.heap.size Wc (Wc.alloc (.cells #[.string t1, .string t2] 42)) := (Below.refl _ _).alloc (Nat.le_refl _) _
        have HXR : Hid (RSl pvc 2 (Wc.alloc (.cells #[.string t1, .string t2] 42)) (some ⟨Wc.heap.size, 0, none⟩) 1 [(t1, t2)]) := Lib.hid (Blk.rsl (x := ((t1, t2) : Pr)) (Blk.new Wc _ 42))
        replace HH := Lib.hid (HH.out.trans (hb.mono (by have h := HD.out.o5; omega)))
        replace HD := Lib.hid (HD.out.later hb)
        clear hb hHeld
        refine hK.out _ _ HH.out (fun hHeld => ?_)
        clear hK K
        generalize Wc.alloc (.cells #[.string t1, .string t2] 42) = Wf at *
        obtain ⟨xq, hxq⟩ : ∃ x, Wc.heap.size = x := ⟨_, rfl⟩
        rw [hxq] at HXR ⊢
        clear hxq
        refine wpAnyH_ready (rs := [14]) (by kernel_rfl) (by simp) (AllReadyH.cons (o := { dst := some 40, op := Op.call { callee := Callee.builtin Builtin.append, args := #[Operand.tmp 27, Operand.tmp 39], argTypes := #[35, 35] }, type := 35, pos := "ref.go:214", after := #[{ on := 1, ground := Ground.data }, { on := 13, ground := Ground.data }, { on := 11, ground := Ground.chain }], guard := none }) rfl (fun K hK => ?_) AllReadyH.nil)
        have HROW : Hid (ROwn pvc 2 Wf (px + 1) 42 (.slice Av nL cv) nL L) := Lib.hid (by have h := HD.out.row; rw [HNL.out] at h; exact h)
        refine step_append_row1 elemP rfl (.tmp 27) (.tmp 39) rfl (px + 1) (.slice Av nL cv) nL L rfl HROW.out xq 1 (t1, t2) rfl HXR.out HB_.out (by decide) HD.out.o5 (fun A4 c4 w4 ho4 hg4 hl4 hn4 => ?_)
        have HF := Lib.hid (HD.out.app (v2 := .slice A4 (nL + 1) c4) (L2 := L ++ [(t1, t2)]) hg4 (by rw [List.length_append, HNL.out]; exact ho4))
        have hb4 : Below (px + 1) Wf w4 := (Below.refl _ _).grown hg4 HD.out.o5 (fun k e => (HROW.out.lt k e).1)
        have HBK : Hid (Blk w4 px #[.int .i64 er, .bool fo, .string va, .slice Av nL cv] 37) := Lib.hid ((hb4.block px (by omega)).trans HD.out.bx)
        have HH4 := Lib.hid (HH.out.trans (hb4.mono (by omega)))
        have HH5 := Lib.hid (HH.out.trans HF.out.2)
        clear hb4 ho4 hg4 hl4 hn4 HROW HXR hHeld
        refine hK.out _ _ HH4.out (fun hHeld => ?_)
        clear hK K
        try simp only [Act.put, List.setIfInBounds_toArray, List.set_cons_zero, List.set_cons_succ]
        refine wpAnyH_take (i := 15) (oi := { dst := some 41, op := Op.fieldAddr 37 (Operand.tmp 5) 3, type := 0, pos := "ref.go:214", after := #[{ on := 0, ground := Ground.phase }, { on := 1, ground := Ground.phase }, { on := 2, ground := Ground.phase }, { on := 3, ground := Ground.phase }, { on := 4, ground := Ground.phase }, { on := 5, ground := Ground.phase }, { on := 6, ground := Ground.phase }, { on := 7, ground := Ground.phase }, { on := 8, ground := Ground.phase }, { on := 9, ground := Ground.phase }, { on := 10, ground := Ground.phase }, { on := 11, ground := Ground.phase }, { on := 12, ground := Ground.phase }, { on := 13, ground := Ground.phase }, { on := 14, ground := Ground.phase }], guard := none }) (v := ?_) rfl (by kernel_rfl) (by kernel_rfl) (by kernel_rfl) (fun _ _ _ h => h) (Or.inl ⟨by rfl, ?_⟩) (by assumption) ?_
        rotate_left
        · intro W hSw
          clear hSw
          go_simp
          try with_reducible rfl
        simp only [Act.put, List.setIfInBounds_toArray, List.set_cons_zero, List.set_cons_succ]
        refine wpAnyH_ready (rs := [16]) (by kernel_rfl) (by simp) (AllReadyH.cons (o := { dst := none, op := Op.store 35 (Operand.tmp 41) (Operand.tmp 40), type := 0, pos := "ref.go:214", after := #[{ on := 15, ground := Ground.data }, { on := 14, ground := Ground.data }, { on := 14, ground := Ground.chain }, { on := 0, ground := Ground.phase }, { on := 1, ground := Ground.phase }, { on := 2, ground := Ground.phase }, { on := 3, ground := Ground.phase }, { on := 4, ground := Ground.phase }, { on := 5, ground := Ground.phase }, { on := 6, ground := Ground.phase }, { on := 7, ground := Ground.phase }, { on := 8, ground := Ground.phase }, { on := 9, ground := Ground.phase }, { on := 10, ground := Ground.phase }, { on := 11, ground := Ground.phase }, { on := 12, ground := Ground.phase }, { on := 13, ground := Ground.phase }, { on := 14, ground := Ground.phase }], guard := none }) rfl (fun K hK => ?_) AllReadyH.nil)
        have c3 := HBK.out.cell 3
        simp only [List.getElem?_toArray, List.getElem?_cons_zero, List.getElem?_cons_succ] at c3
        have f3 := HBK.out.frozen 3
        go_simp
        clear c3 f3 hHeld
        refine hK.out _ _ HH5.out (fun hHeld => ?_)
        clear hK K
        refine wpAnyH_done (by kernel_rfl) (NoPanic.normal ?_) _
        have HG4 := Lib.hid HF.out.1
        clear hHeld HF HH4 HH5 HBK HD HH HU1 HU2 HAT HI HC0
        go_wp2
        go_roundw
        case rel => exact ⟨m + 2, _, _, by omega, by omega, by go_num, by have h := HPS2.out; rw [List.append_assoc]; exact h, HG4.out⟩
        case measure => simp [intOf]; omega
      · have HCL := Lib.hid (HU1.out Wd)
        go_simp
        refine HCL.out.mono ?_
        rintro e Wa ⟨rfl, hb⟩
        replace HH := Lib.hid (HH.out.trans (hb.mono (by have h := HD.out.o5; omega)))
        replace HD := Lib.hid (HD.out.later hb)
        clear hb HCL hHeld
        refine hK.out _ _ HH.out (fun hHeld => ?_)
        clear hK K
        refine wpAnyH_ready (rs := [1, 10]) (by kernel_rfl) (by simp) (AllReadyH.cons (o := { dst := some 27, op := Op.load 35 (Operand.tmp 26), type := 35, pos := "ref.go:214", after := #[{ on := 0, ground := Ground.data }], guard := none }) rfl (fun K hK => ?_) (AllReadyH.cons (o := { dst := some 36, op := Op.call { callee := Callee.value (Operand.func 44), args := #[Operand.tmp 33, Operand.tmp 35], argTypes := #[25, 3] }, type := 9, pos := "ref.go:214", after := #[{ on := 7, ground := Ground.data }, { on := 9, ground := Ground.data }, { on := 6, ground := Ground.chain }], guard := none }) rfl (fun K hK => ?_) AllReadyH.nil))
        · have x3 := HD.out.bx.cell 3
          simp only [List.getElem?_toArray, List.getElem?_cons_zero, List.getElem?_cons_succ] at x3
          go_simp
          clear hHeld x3
          refine hK.out _ _ HH.out (fun hHeld => ?_)
          clear hK K
          refine wpAnyH_ready (rs := [10]) (by kernel_rfl) (by simp) (AllReadyH.cons (o := { dst := some 36, op := Op.call { callee := Callee.value (Operand.func 44), args := #[Operand.tmp 33, Operand.tmp 35], argTypes := #[25, 3] }, type := 9, pos := "ref.go:214", after := #[{ on := 7, ground := Ground.data }, { on := 9, ground := Ground.data }, { on := 6, ground := Ground.chain }], guard := none }) rfl (fun K hK => ?_) AllReadyH.nil)
          have HCL := Lib.hid (HAT.out Wa HD.out.wd)
          go_simp
          refine HCL.out.mono ?_
          rintro e Wb ⟨rfl, hb⟩
          clear HCL hHeld
          subst hb
          refine hK.out _ _ HH.out (fun hHeld => ?_)
          clear hK K
          refine wpAnyH_ready (rs := [11]) (by kernel_rfl) (by simp) (AllReadyH.cons (o := { dst := some 37, op := Op.call { callee := Callee.value (Operand.func 45), args := #[Operand.tmp 36], argTypes := #[9] }, type := 9, pos := "ref.go:214", after := #[{ on := 10, ground := Ground.data }, { on := 10, ground := Ground.chain }], guard := none }) rfl (fun K hK => ?_) AllReadyH.nil)
          have HCL := Lib.hid (HU2.out Wb)
          go_simp
          refine HCL.out.mono ?_
          rintro e Wc ⟨rfl, hb⟩
          replace HH := Lib.hid (HH.out.trans (hb.mono (by have h := HD.out.o5; omega)))
          replace HD := Lib.hid (HD.out.later hb)
          clear hb HCL hHeld
          refine hK.out _ _ HH.out (fun hHeld => ?_)
          clear hK K
          refine wpAnyH_take (i := 12) (oi := { dst := some 38, op := Op.build 42 #[(0, Operand.tmp 32), (1, Operand.tmp 37)], type := 42, pos := "ref.go:214", after := #[{ on := 6, ground := Ground.data }, { on := 11, ground := Ground.data }], guard := none }) (v := ?_) rfl (by kernel_rfl) (by kernel_rfl) (by kernel_rfl) (fun _ _ _ h => h) (Or.inl ⟨by rfl, ?_⟩) (by assumption) ?_
          rotate_left
          · intro W hSw
            clear hSw
            have b1 := HBU.out
            go_simp
            try with_reducible rfl
          simp only [Act.put, List.setIfInBounds_toArray, List.set_cons_zero, List.set_cons_succ]
          refine wpAnyH_ready (rs := [13]) (by kernel_rfl) (by simp) (AllReadyH.cons (o := { dst := some 39, op := Op.buildSlice 35 1 #[(0, Operand.tmp 38)], type := 35, pos := "ref.go:214", after := #[{ on := 12, ground := Ground.data }], guard := none }) rfl (fun K hK => ?_) AllReadyH.nil)
          go_simp
          have hb : Below Wc.heap.size Wc (Wc.alloc (.cells #[.string t1, .string t2] 42)) := (Below.refl _ _).alloc (Nat.le_refl _) _
          have HXR : Hid (RSl pvc 2 (Wc.alloc (.cells #[.string t1, .string t2] 42)) (some ⟨Wc.heap.size, 0, none⟩) 1 [(t1, t2)]) := Lib.hid (Blk.rsl (x := ((t1, t2) : Pr)) (Blk.new Wc _ 42))
          replace HH := Lib.hid (HH.out.trans (hb.mono (by have h := HD.out.o5; omega)))
          replace HD := Lib.hid (HD.out.later hb)
          clear hb hHeld
          refine hK.out _ _ HH.out (fun hHeld => ?_)
          clear hK K
          generalize Wc.alloc (.cells #[.string t1, .string t2] 42) = Wf at *
          obtain ⟨xq, hxq⟩ : ∃ x, Wc.heap.size = x := ⟨_, rfl⟩
          rw [hxq] at HXR ⊢
          clear hxq
          refine wpAnyH_ready (rs := [14]) (by kernel_rfl) (by simp) (AllReadyH.cons (o := { dst := some 40, op := Op.call { callee := Callee.builtin Builtin.append, args := #[Operand.tmp 27, Operand.tmp 39], argTypes := #[35, 35] }, type := 35, pos := "ref.go:214", after := #[{ on := 1, ground := Ground.data }, { on := 13, ground := Ground.data }, { on := 11, ground := Ground.chain }], guard := none }) rfl (fun K hK => ?_) AllReadyH.nil)
          have HROW : Hid (ROwn pvc 2 Wf (px + 1) 42 (.slice Av nL cv) nL L) := Lib.hid (by have h := HD.out.row; rw [HNL.out] at h; exact h)
          refine step_append_row1 elemP rfl (.tmp 27) (.tmp 39) rfl (px + 1) (.slice Av nL cv) nL L rfl HROW.out xq 1 (t1, t2) rfl HXR.out HB_.out (by decide) HD.out.o5 (fun A4 c4 w4 ho4 hg4 hl4 hn4 => ?_)
          have HF := Lib.hid (HD.out.app (v2 := .slice A4 (nL + 1) c4) (L2 := L ++ [(t1, t2)]) hg4 (by rw [List.length_append, HNL.out]; exact ho4))
          have hb4 : Below (px + 1) Wf w4 := (Below.refl _ _).grown hg4 HD.out.o5 (fun k e => (HROW.out.lt k e).1)
          have HBK : Hid (Blk w4 px #[.int .i64 er, .bool fo, .string va, .slice Av nL cv] 37) := Lib.hid ((hb4.block px (by omega)).trans HD.out.bx)
          have HH4 := Lib.hid (HH.out.trans (hb4.mono (by omega)))
          have HH5 := Lib.hid (HH.out.trans HF.out.2)
          clear hb4 ho4 hg4 hl4 hn4 HROW HXR hHeld
          refine hK.out _ _ HH4.out (fun hHeld => ?_)
          clear hK K
          try simp only [Act.put, List.setIfInBounds_toArray, List.set_cons_zero, List.set_cons_succ]
          refine wpAnyH_take (i := 15) (oi := { dst := some 41, op := Op.fieldAddr 37 (Operand.tmp 5) 3, type := 0, pos := "ref.go:214", after := #[{ on := 0, ground := Ground.phase }, { on := 1, ground := Ground.phase }, { on := 2, ground := Ground.phase }, { on := 3, ground := Ground.phase }, { on := 4, ground := Ground.phase }, { on := 5, ground := Ground.phase }, { on := 6, ground := Ground.phase }, { on := 7, ground := Ground.phase }, { on := 8, ground := Ground.phase }, { on := 9, ground := Ground.phase }, { on := 10, ground := Ground.phase }, { on := 11, ground := Ground.phase }, { on := 12, ground := Ground.phase }, { on := 13, ground := Ground.phase }, { on := 14, ground := Ground.phase }], guard := none }) (v := ?_) rfl (by kernel_rfl) (by kernel_rfl) (by kernel_rfl) (fun _ _ _ h => h) (Or.inl ⟨by rfl, ?_⟩) (by assumption) ?_
          rotate_left
          · intro W hSw
            clear hSw
            go_simp
            try with_reducible rfl
          simp only [Act.put, List.setIfInBounds_toArray, List.set_cons_zero, List.set_cons_succ]
          refine wpAnyH_ready (rs := [16]) (by kernel_rfl) (by simp) (AllReadyH.cons (o := { dst := none, op := Op.store 35 (Operand.tmp 41) (Operand.tmp 40), type := 0, pos := "ref.go:214", after := #[{ on := 15, ground := Ground.data }, { on := 14, ground := Ground.data }, { on := 14, ground := Ground.chain }, { on := 0, ground := Ground.phase }, { on := 1, ground := Ground.phase }, { on := 2, ground := Ground.phase }, { on := 3, ground := Ground.phase }, { on := 4, ground := Ground.phase }, { on := 5, ground := Ground.phase }, { on := 6, ground := Ground.phase }, { on := 7, ground := Ground.phase }, { on := 8, ground := Ground.phase }, { on := 9, ground := Ground.phase }, { on := 10, ground := Ground.phase }, { on := 11, ground := Ground.phase }, { on := 12, ground := Ground.phase }, { on := 13, ground := Ground.phase }, { on := 14, ground := Ground.phase }], guard := none }) rfl (fun K hK => ?_) AllReadyH.nil)
          have c3 := HBK.out.cell 3
          simp only [List.getElem?_toArray, List.getElem?_cons_zero, List.getElem?_cons_succ] at c3
          have f3 := HBK.out.frozen 3
          go_simp
          clear c3 f3 hHeld
          refine hK.out _ _ HH5.out (fun hHeld => ?_)
          clear hK K
          refine wpAnyH_done (by kernel_rfl) (NoPanic.normal ?_) _
          have HG4 := Lib.hid HF.out.1
          clear hHeld HF HH4 HH5 HBK HD HH HU1 HU2 HAT HI HC0
          go_wp2
          go_roundw
          case rel => exact ⟨m + 2, _, _, by omega, by omega, by go_num, by have h := HPS2.out; rw [List.append_assoc]; exact h, HG4.out⟩
          case measure => simp [intOf]; omega
        · have HCL := Lib.hid (HAT.out Wa HD.out.wd)
          go_simp
          refine HCL.out.mono ?_
          rintro e Wb ⟨rfl, hb⟩
          clear HCL hHeld
          subst hb
          refine hK.out _ _ HH.out (fun hHeld => ?_)
          clear hK K
          refine wpAnyH_ready (rs := [1, 11]) (by kernel_rfl) (by simp) (AllReadyH.cons (o := { dst := some 27, op := Op.load 35 (Operand.tmp 26), type := 35, pos := "ref.go:214", after := #[{ on := 0, ground := Ground.data }], guard := none }) rfl (fun K hK => ?_) (AllReadyH.cons (o := { dst := some 37, op := Op.call { callee := Callee.value (Operand.func 45), args := #[Operand.tmp 36], argTypes := #[9] }, type := 9, pos := "ref.go:214", after := #[{ on := 10, ground := Ground.data }, { on := 10, ground := Ground.chain }], guard := none }) rfl (fun K hK => ?_) AllReadyH.nil))
          · have x3 := HD.out.bx.cell 3
            simp only [List.getElem?_toArray, List.getElem?_cons_zero, List.getElem?_cons_succ] at x3
            go_simp
            clear hHeld x3
            refine hK.out _ _ HH.out (fun hHeld => ?_)
            clear hK K
            refine wpAnyH_ready (rs := [11]) (by kernel_rfl) (by simp) (AllReadyH.cons (o := { dst := some 37, op := Op.call { callee := Callee.value (Operand.func 45), args := #[Operand.tmp 36], argTypes := #[9] }, type := 9, pos := "ref.go:214", after := #[{ on := 10, ground := Ground.data }, { on := 10, ground := Ground.chain }], guard := none }) rfl (fun K hK => ?_) AllReadyH.nil)
            have HCL := Lib.hid (HU2.out Wb)
            go_simp
            refine HCL.out.mono ?_
            rintro e Wc ⟨rfl, hb⟩
            replace HH := Lib.hid (HH.out.trans (hb.mono (by have h := HD.out.o5; omega)))
            replace HD := Lib.hid (HD.out.later hb)
            clear hb HCL hHeld
            refine hK.out _ _ HH.out (fun hHeld => ?_)
            clear hK K
            refine wpAnyH_take (i := 12) (oi := { dst := some 38, op := Op.build 42 #[(0, Operand.tmp 32), (1, Operand.tmp 37)], type := 42, pos := "ref.go:214", after := #[{ on := 6, ground := Ground.data }, { on := 11, ground := Ground.data }], guard := none }) (v := ?_) rfl (by kernel_rfl) (by kernel_rfl) (by kernel_rfl) (fun _ _ _ h => h) (Or.inl ⟨by rfl, ?_⟩) (by assumption) ?_
            rotate_left
            · intro W hSw
              clear hSw
              have b1 := HBU.out
              go_simp
              try with_reducible rfl
            simp only [Act.put, List.setIfInBounds_toArray, List.set_cons_zero, List.set_cons_succ]
            refine wpAnyH_ready (rs := [13]) (by kernel_rfl) (by simp) (AllReadyH.cons (o := { dst := some 39, op := Op.buildSlice 35 1 #[(0, Operand.tmp 38)], type := 35, pos := "ref.go:214", after := #[{ on := 12, ground := Ground.data }], guard := none }) rfl (fun K hK => ?_) AllReadyH.nil)
            go_simp
            have hb : Below Wc.heap.size Wc (Wc.alloc (.cells #[.string t1, .string t2] 42)) := (Below.refl _ _).alloc (Nat.le_refl _) _
            have HXR : Hid (RSl pvc 2 (Wc.alloc (.cells #[.string t1, .string t2] 42)) (some ⟨Wc.heap.size, 0, none⟩) 1 [(t1, t2)]) := Lib.hid (Blk.rsl (x := ((t1, t2) : Pr)) (Blk.new Wc _ 42))
            replace HH := Lib.hid (HH.out.trans (hb.mono (by have h := HD.out.o5; omega)))
            replace HD := Lib.hid (HD.out.later hb)
            clear hb hHeld
            refine hK.out _ _ HH.out (fun hHeld => ?_)
            clear hK K
            generalize Wc.alloc (.cells #[.string t1, .string t2] 42) = Wf at *
            obtain ⟨xq, hxq⟩ : ∃ x, Wc.heap.size = x := ⟨_, rfl⟩
            rw [hxq] at HXR ⊢
            clear hxq
            refine wpAnyH_ready (rs := [14]) (by kernel_rfl) (by simp) (AllReadyH.cons (o := { dst := some 40, op := Op.call { callee := Callee.builtin Builtin.append, args := #[Operand.tmp 27, Operand.tmp 39], argTypes := #[35, 35] }, type := 35, pos := "ref.go:214", after := #[{ on := 1, ground := Ground.data }, { on := 13, ground := Ground.data }, { on := 11, ground := Ground.chain }], guard := none }) rfl (fun K hK => ?_) AllReadyH.nil)
            have HROW : Hid (ROwn pvc 2 Wf (px + 1) 42 (.slice Av nL cv) nL L) := Lib.hid (by have h := HD.out.row; rw [HNL.out] at h; exact h)
            refine step_append_row1 elemP rfl (.tmp 27) (.tmp 39) rfl (px + 1) (.slice Av nL cv) nL L rfl HROW.out xq 1 (t1, t2) rfl HXR.out HB_.out (by decide) HD.out.o5 (fun A4 c4 w4 ho4 hg4 hl4 hn4 => ?_)
            have HF := Lib.hid (HD.out.app (v2 := .slice A4 (nL + 1) c4) (L2 := L ++ [(t1, t2)]) hg4 (by rw [List.length_append, HNL.out]; exact ho4))
            have hb4 : Below (px + 1) Wf w4 := (Below.refl _ _).grown hg4 HD.out.o5 (fun k e => (HROW.out.lt k e).1)
            have HBK : Hid (Blk w4 px #[.int .i64 er, .bool fo, .string va, .slice Av nL cv] 37) := Lib.hid ((hb4.block px (by omega)).trans HD.out.bx)
            have HH4 := Lib.hid (HH.out.trans (hb4.mono (by omega)))
            have HH5 := Lib.hid (HH.out.trans HF.out.2)
            clear hb4 ho4 hg4 hl4 hn4 HROW HXR hHeld
            refine hK.out _ _ HH4.out (fun hHeld => ?_)
            clear hK K
            try simp only [Act.put, List.setIfInBounds_toArray, List.set_cons_zero, List.set_cons_succ]
            refine wpAnyH_take (i := 15) (oi := { dst := some 41, op := Op.fieldAddr 37 (Operand.tmp 5) 3, type := 0, pos := "ref.go:214", after := #[{ on := 0, ground := Ground.phase }, { on := 1, ground := Ground.phase }, { on := 2, ground := Ground.phase }, { on := 3, ground := Ground.phase }, { on := 4, ground := Ground.phase }, { on := 5, ground := Ground.phase }, { on := 6, ground := Ground.phase }, { on := 7, ground := Ground.phase }, { on := 8, ground := Ground.phase }, { on := 9, ground := Ground.phase }, { on := 10, ground := Ground.phase }, { on := 11, ground := Ground.phase }, { on := 12, ground := Ground.phase }, { on := 13, ground := Ground.phase }, { on := 14, ground := Ground.phase }], guard := none }) (v := ?_) rfl (by kernel_rfl) (by kernel_rfl) (by kernel_rfl) (fun _ _ _ h => h) (Or.inl ⟨by rfl, ?_⟩) (by assumption) ?_
            rotate_left
            · intro W hSw
              clear hSw
              go_simp
              try with_reducible rfl
            simp only [Act.put, List.setIfInBounds_toArray, List.set_cons_zero, List.set_cons_succ]
            refine wpAnyH_ready (rs := [16]) (by kernel_rfl) (by simp) (AllReadyH.cons (o := { dst := none, op := Op.store 35 (Operand.tmp 41) (Operand.tmp 40), type := 0, pos := "ref.go:214", after := #[{ on := 15, ground := Ground.data }, { on := 14, ground := Ground.data }, { on := 14, ground := Ground.chain }, { on := 0, ground := Ground.phase }, { on := 1, ground := Ground.phase }, { on := 2, ground := Ground.phase }, { on := 3, ground := Ground.phase }, { on := 4, ground := Ground.phase }, { on := 5, ground := Ground.phase }, { on := 6, ground := Ground.phase }, { on := 7, ground := Ground.phase }, { on := 8, ground := Ground.phase }, { on := 9, ground := Ground.phase }, { on := 10, ground := Ground.phase }, { on := 11, ground := Ground.phase }, { on := 12, ground := Ground.phase }, { on := 13, ground := Ground.phase }, { on := 14, ground := Ground.phase }], guard := none }) rfl (fun K hK => ?_) AllReadyH.nil)
            have c3 := HBK.out.cell 3
            simp only [List.getElem?_toArray, List.getElem?_cons_zero, List.getElem?_cons_succ] at c3
            have f3 := HBK.out.frozen 3
            go_simp
            clear c3 f3 hHeld
            refine hK.out _ _ HH5.out (fun hHeld => ?_)
            clear hK K
            refine wpAnyH_done (by kernel_rfl) (NoPanic.normal ?_) _
            have HG4 := Lib.hid HF.out.1
            clear hHeld HF HH4 HH5 HBK HD HH HU1 HU2 HAT HI HC0
            go_wp2
            go_roundw
            case rel => exact ⟨m + 2, _, _, by omega, by omega, by go_num, by have h := HPS2.out; rw [List.append_assoc]; exact h, HG4.out⟩
            case measure => simp [intOf]; omega
          · have HCL := Lib.hid (HU2.out Wb)
            go_simp
            refine HCL.out.mono ?_
            rintro e Wc ⟨rfl, hb⟩
            replace HH := Lib.hid (HH.out.trans (hb.mono (by have h := HD.out.o5; omega)))
            replace HD := Lib.hid (HD.out.later hb)
            clear hb HCL hHeld
            refine hK.out _ _ HH.out (fun hHeld => ?_)
            clear hK K
            refine wpAnyH_take (i := 12) (oi := { dst := some 38, op := Op.build 42 #[(0, Operand.tmp 32), (1, Operand.tmp 37)], type := 42, pos := "ref.go:214", after := #[{ on := 6, ground := Ground.data }, { on := 11, ground := Ground.data }], guard := none }) (v := ?_) rfl (by kernel_rfl) (by kernel_rfl) (by kernel_rfl) (fun _ _ _ h => h) (Or.inl ⟨by rfl, ?_⟩) (by assumption) ?_
            rotate_left
            · intro W hSw
              clear hSw
              have b1 := HBU.out
              go_simp
              try with_reducible rfl
            simp only [Act.put, List.setIfInBounds_toArray, List.set_cons_zero, List.set_cons_succ]
            refine wpAnyH_ready (rs := [1, 13]) (by kernel_rfl) (by simp) (AllReadyH.cons (o := { dst := some 27, op := Op.load 35 (Operand.tmp 26), type := 35, pos := "ref.go:214", after := #[{ on := 0, ground := Ground.data }], guard := none }) rfl (fun K hK => ?_) (AllReadyH.cons (o := { dst := some 39, op := Op.buildSlice 35 1 #[(0, Operand.tmp 38)], type := 35, pos := "ref.go:214", after := #[{ on := 12, ground := Ground.data }], guard := none }) rfl (fun K hK => ?_) AllReadyH.nil))
            · have x3 := HD.out.bx.cell 3
              simp only [List.getElem?_toArray, List.getElem?_cons_zero, List.getElem?_cons_succ] at x3
              go_simp
              clear hHeld x3
              refine hK.out _ _ HH.out (fun hHeld => ?_)
              clear hK K
              refine wpAnyH_ready (rs := [13]) (by kernel_rfl) (by simp) (AllReadyH.cons (o := { dst := some 39, op := Op.buildSlice 35 1 #[(0, Operand.tmp 38)], type := 35, pos := "ref.go:214", after := #[{ on := 12, ground := Ground.data }], guard := none }) rfl (fun K hK => ?_) AllReadyH.nil)
              go_simp
              have hb : Below Wc.heap.size Wc (Wc.alloc (.cells #[.string t1, .string t2] 42)) := (Below.refl _ _).alloc (Nat.le_refl _) _
              have HXR : Hid (RSl pvc 2 (Wc.alloc (.cells #[.string t1, .string t2] 42)) (some ⟨Wc.heap.size, 0, none⟩) 1 [(t1, t2)]) := Lib.hid (Blk.rsl (x := ((t1, t2) : Pr)) (Blk.new Wc _ 42))
              replace HH := Lib.hid (HH.out.trans (hb.mono (by have h := HD.out.o5; omega)))
              replace HD := Lib.hid (HD.out.later hb)
              clear hb hHeld
              refine hK.out _ _ HH.out (fun hHeld => ?_)
              clear hK K
              generalize Wc.alloc (.cells #[.string t1, .string t2] 42) = Wf at *
              obtain ⟨xq, hxq⟩ : ∃ x, Wc.heap.size = x := ⟨_, rfl⟩
              rw [hxq] at HXR ⊢
              clear hxq
              refine wpAnyH_ready (rs := [14]) (by kernel_rfl) (by simp) (AllReadyH.cons (o := { dst := some 40, op := Op.call { callee := Callee.builtin Builtin.append, args := #[Operand.tmp 27, Operand.tmp 39], argTypes := #[35, 35] }, type := 35, pos := "ref.go:214", after := #[{ on := 1, ground := Ground.data }, { on := 13, ground := Ground.data }, { on := 11, ground := Ground.chain }], guard := none }) rfl (fun K hK => ?_) AllReadyH.nil)
              have HROW : Hid (ROwn pvc 2 Wf (px + 1) 42 (.slice Av nL cv) nL L) := Lib.hid (by have h := HD.out.row; rw [HNL.out] at h; exact h)
              refine step_append_row1 elemP rfl (.tmp 27) (.tmp 39) rfl (px + 1) (.slice Av nL cv) nL L rfl HROW.out xq 1 (t1, t2) rfl HXR.out HB_.out (by decide) HD.out.o5 (fun A4 c4 w4 ho4 hg4 hl4 hn4 => ?_)
              have HF := Lib.hid (HD.out.app (v2 := .slice A4 (nL + 1) c4) (L2 := L ++ [(t1, t2)]) hg4 (by rw [List.length_append, HNL.out]; exact ho4))
              have hb4 : Below (px + 1) Wf w4 := (Below.refl _ _).grown hg4 HD.out.o5 (fun k e => (HROW.out.lt k e).1)
              have HBK : Hid (Blk w4 px #[.int .i64 er, .bool fo, .string va, .slice Av nL cv] 37) := Lib.hid ((hb4.block px (by omega)).trans HD.out.bx)
              have HH4 := Lib.hid (HH.out.trans (hb4.mono (by omega)))
              have HH5 := Lib.hid (HH.out.trans HF.out.2)
              clear hb4 ho4 hg4 hl4 hn4 HROW HXR hHeld
              refine hK.out _ _ HH4.out (fun hHeld => ?_)
              clear hK K
              try simp only [Act.put, List.setIfInBounds_toArray, List.set_cons_zero, List.set_cons_succ]
              refine wpAnyH_take (i := 15) (oi := { dst := some 41, op := Op.fieldAddr 37 (Operand.tmp 5) 3, type := 0, pos := "ref.go:214", after := #[{ on := 0, ground := Ground.phase }, { on := 1, ground := Ground.phase }, { on := 2, ground := Ground.phase }, { on := 3, ground := Ground.phase }, { on := 4, ground := Ground.phase }, { on := 5, ground := Ground.phase }, { on := 6, ground := Ground.phase }, { on := 7, ground := Ground.phase }, { on := 8, ground := Ground.phase }, { on := 9, ground := Ground.phase }, { on := 10, ground := Ground.phase }, { on := 11, ground := Ground.phase }, { on := 12, ground := Ground.phase }, { on := 13, ground := Ground.phase }, { on := 14, ground := Ground.phase }], guard := none }) (v := ?_) rfl (by kernel_rfl) (by kernel_rfl) (by kernel_rfl) (fun _ _ _ h => h) (Or.inl ⟨by rfl, ?_⟩) (by assumption) ?_
              rotate_left
              · intro W hSw
                clear hSw
                go_simp
                try with_reducible rfl
              simp only [Act.put, List.setIfInBounds_toArray, List.set_cons_zero, List.set_cons_succ]
              refine wpAnyH_ready (rs := [16]) (by kernel_rfl) (by simp) (AllReadyH.cons (o := { dst := none, op := Op.store 35 (Operand.tmp 41) (Operand.tmp 40), type := 0, pos := "ref.go:214", after := #[{ on := 15, ground := Ground.data }, { on := 14, ground := Ground.data }, { on := 14, ground := Ground.chain }, { on := 0, ground := Ground.phase }, { on := 1, ground := Ground.phase }, { on := 2, ground := Ground.phase }, { on := 3, ground := Ground.phase }, { on := 4, ground := Ground.phase }, { on := 5, ground := Ground.phase }, { on := 6, ground := Ground.phase }, { on := 7, ground := Ground.phase }, { on := 8, ground := Ground.phase }, { on := 9, ground := Ground.phase }, { on := 10, ground := Ground.phase }, { on := 11, ground := Ground.phase }, { on := 12, ground := Ground.phase }, { on := 13, ground := Ground.phase }, { on := 14, ground := Ground.phase }], guard := none }) rfl (fun K hK => ?_) AllReadyH.nil)
              have c3 := HBK.out.cell 3
              simp only [List.getElem?_toArray, List.getElem?_cons_zero, List.getElem?_cons_succ] at c3
              have f3 := HBK.out.frozen 3
              go_simp
              clear c3 f3 hHeld
              refine hK.out _ _ HH5.out (fun hHeld => ?_)
              clear hK K
              refine wpAnyH_done (by kernel_rfl) (NoPanic.normal ?_) _
              have HG4 := Lib.hid HF.out.1
              clear hHeld HF HH4 HH5 HBK HD HH HU1 HU2 HAT HI HC0
              go_wp2
              go_roundw
              case rel => exact ⟨m + 2, _, _, by omega, by omega, by go_num, by have h := HPS2.out; rw [List.append_assoc]; exact h, HG4.out⟩
              case measure => simp [intOf]; omega
            · go_simp
              have hb : Below Wc.heap.size Wc (Wc.alloc (.cells #[.string t1, .string t2] 42)) := (Below.refl _ _).alloc (Nat.le_refl _) _
              have HXR : Hid (RSl pvc 2 (Wc.alloc (.cells #[.string t1, .string t2] 42)) (some ⟨Wc.heap.size, 0, none⟩) 1 [(t1, t2)]) := Lib.hid (Blk.rsl (x := ((t1, t2) : Pr)) (Blk.new Wc _ 42))
              replace HH := Lib.hid (HH.out.trans (hb.mono (by have h := HD.out.o5; omega)))
              replace HD := Lib.hid (HD.out.later hb)
              clear hb hHeld
              refine hK.out _ _ HH.out (fun hHeld => ?_)
              clear hK K
              generalize Wc.alloc (.cells #[.string t1, .string t2] 42) = Wf at *
              obtain ⟨xq, hxq⟩ : ∃ x, Wc.heap.size = x := ⟨_, rfl⟩
              rw [hxq] at HXR ⊢
              clear hxq
              refine wpAnyH_ready (rs := [1]) (by kernel_rfl) (by simp) (AllReadyH.cons (o := { dst := some 27, op := Op.load 35 (Operand.tmp 26), type := 35, pos := "ref.go:214", after := #[{ on := 0, ground := Ground.data }], guard := none }) rfl (fun K hK => ?_) AllReadyH.nil)
              have x3 := HD.out.bx.cell 3
              simp only [List.getElem?_toArray, List.getElem?_cons_zero, List.getElem?_cons_succ] at x3
              go_simp
              clear hHeld x3
              refine hK.out _ _ HH.out (fun hHeld => ?_)
              clear hK K
              refine wpAnyH_ready (rs := [14]) (by kernel_rfl) (by simp) (AllReadyH.cons (o := { dst := some 40, op := Op.call { callee := Callee.builtin Builtin.append, args := #[Operand.tmp 27, Operand.tmp 39], argTypes := #[35, 35] }, type := 35, pos := "ref.go:214", after := #[{ on := 1, ground := Ground.data }, { on := 13, ground := Ground.data }, { on := 11, ground := Ground.chain }], guard := none }) rfl (fun K hK => ?_) AllReadyH.nil)
              have HROW : Hid (ROwn pvc 2 Wf (px + 1) 42 (.slice Av nL cv) nL L) := Lib.hid (by have h := HD.out.row; rw [HNL.out] at h; exact h)
              refine step_append_row1 elemP rfl (.tmp 27) (.tmp 39) rfl (px + 1) (.slice Av nL cv) nL L rfl HROW.out xq 1 (t1, t2) rfl HXR.out HB_.out (by decide) HD.out.o5 (fun A4 c4 w4 ho4 hg4 hl4 hn4 => ?_)
              have HF := Lib.hid (HD.out.app (v2 := .slice A4 (nL + 1) c4) (L2 := L ++ [(t1, t2)]) hg4 (by rw [List.length_append, HNL.out]; exact ho4))
              have hb4 : Below (px + 1) Wf w4 := (Below.refl _ _).grown hg4 HD.out.o5 (fun k e => (HROW.out.lt k e).1)
              have HBK : Hid (Blk w4 px #[.int .i64 er, .bool fo, .string va, .slice Av nL cv] 37) := Lib.hid ((hb4.block px (by omega)).trans HD.out.bx)
              have HH4 := Lib.hid (HH.out.trans (hb4.mono (by omega)))
              have HH5 := Lib.hid (HH.out.trans HF.out.2)
              clear hb4 ho4 hg4 hl4 hn4 HROW HXR hHeld
              refine hK.out _ _ HH4.out (fun hHeld => ?_)
              clear hK K
              try simp only [Act.put, List.setIfInBounds_toArray, List.set_cons_zero, List.set_cons_succ]
              refine wpAnyH_take (i := 15) (oi := { dst := some 41, op := Op.fieldAddr 37 (Operand.tmp 5) 3, type := 0, pos := "ref.go:214", after := #[{ on := 0, ground := Ground.phase }, { on := 1, ground := Ground.phase }, { on := 2, ground := Ground.phase }, { on := 3, ground := Ground.phase }, { on := 4, ground := Ground.phase }, { on := 5, ground := Ground.phase }, { on := 6, ground := Ground.phase }, { on := 7, ground := Ground.phase }, { on := 8, ground := Ground.phase }, { on := 9, ground := Ground.phase }, { on := 10, ground := Ground.phase }, { on := 11, ground := Ground.phase }, { on := 12, ground := Ground.phase }, { on := 13, ground := Ground.phase }, { on := 14, ground := Ground.phase }], guard := none }) (v := ?_) rfl (by kernel_rfl) (by kernel_rfl) (by kernel_rfl) (fun _ _ _ h => h) (Or.inl ⟨by rfl, ?_⟩) (by assumption) ?_
              rotate_left
              · intro W hSw
                clear hSw
                go_simp
                try with_reducible rfl
              simp only [Act.put, List.setIfInBounds_toArray, List.set_cons_zero, List.set_cons_succ]
              refine wpAnyH_ready (rs := [16]) (by kernel_rfl) (by simp) (AllReadyH.cons (o := { dst := none, op := Op.store 35 (Operand.tmp 41) (Operand.tmp 40), type := 0, pos := "ref.go:214", after := #[{ on := 15, ground := Ground.data }, { on := 14, ground := Ground.data }, { on := 14, ground := Ground.chain }, { on := 0, ground := Ground.phase }, { on := 1, ground := Ground.phase }, { on := 2, ground := Ground.phase }, { on := 3, ground := Ground.phase }, { on := 4, ground := Ground.phase }, { on := 5, ground := Ground.phase }, { on := 6, ground := Ground.phase }, { on := 7, ground := Ground.phase }, { on := 8, ground := Ground.phase }, { on := 9, ground := Ground.phase }, { on := 10, ground := Ground.phase }, { on := 11, ground := Ground.phase }, { on := 12, ground := Ground.phase }, { on := 13, ground := Ground.phase }, { on := 14, ground := Ground.phase }], guard := none }) rfl (fun K hK => ?_) AllReadyH.nil)
              have c3 := HBK.out.cell 3
              simp only [List.getElem?_toArray, List.getElem?_cons_zero, List.getElem?_cons_succ] at c3
              have f3 := HBK.out.frozen 3
              go_simp
              clear c3 f3 hHeld
              refine hK.out _ _ HH5.out (fun hHeld => ?_)
              clear hK K
              refine wpAnyH_done (by kernel_rfl) (NoPanic.normal ?_) _
              have HG4 := Lib.hid HF.out.1
              clear hHeld HF HH4 HH5 HBK HD HH HU1 HU2 HAT HI HC0
              go_wp2
              go_roundw
              case rel => exact ⟨m + 2, _, _, by omega, by omega, by go_num, by have h := HPS2.out; rw [List.append_assoc]; exact h, HG4.out⟩
              case measure => simp [intOf]; omega
    · have hle : ws.length ≤ m := by have := HLN.out; omega
      obtain rfl : L = PS := by have h := HPS.out; rw [rprs_nil hle] at h; simpa using h
      have d1 : decide ((m : Int) < (n : Int)) = false := decide_eq_false (by omega)
      have hrw := HP.out.row
      rw [HNL.out] at hrw
      have hsl := hrw.rsl pvc_len
      clear hrw
      have HTE := Lib.hid (rtell_any er fo va Av nL cv L wr HER.out HVA.out HPZ.out hsl (by have h1 := HPL.out; have h2 := HNL.out; omega))
      clear hsl hle HPS HSK
      have k0 := HP.out.bx.cell 0
      have k1 := HP.out.bx.cell 1
      have k2 := HP.out.bx.cell 2
      have k3 := HP.out.bx.cell 3
      simp only [List.getElem?_toArray, List.getElem?_cons_zero, List.getElem?_cons_succ] at k0 k1 k2 k3
      go_wp2_with fail
      refine HTE.out.mono ?_
      rintro e w7 ⟨rfl, hb⟩
      replace HP := Lib.hid (HP.out.later hb)
      clear hb HTE k0 k1 k2 k3
      obtain ⟨ob, hob⟩ : ∃ b, okB s = b := ⟨_, rfl⟩
      have HOK := Lib.hid hob
      rw [HOB.out, HRA.out] at hob
      obtain ⟨R, hR⟩ : ∃ z, telT (er, fo, va, L) = z := ⟨_, rfl⟩
      rw [hR] at hob ⊢
      have q1 : (R.toList == s.toList) = ob := by
        rw [← hob, Bool.eq_iff_iff, beq_iff_eq, decide_eq_true_eq, ByteArray.toList_eq, ByteArray.toList_eq]
        exact ⟨fun e => ByteArray.ext (Array.toList_inj.1 e), fun e => by rw [e]⟩
      clear hob hR
      have k0 := HP.out.bx.cell 0
      have k1 := HP.out.bx.cell 1
      have k2 := HP.out.bx.cell 2
      have k3 := HP.out.bx.cell 3
      simp only [List.getElem?_toArray, List.getElem?_cons_zero, List.getElem?_cons_succ] at k0 k1 k2 k3
      have r0_ := HP.out.br.cell 0
      have r1_ := HP.out.br.cell 1
      have r2_ := HP.out.br.cell 2
      have r3_ := HP.out.br.cell 3
      simp only [List.getElem?_toArray, List.getElem?_cons_zero, List.getElem?_cons_succ] at r0_ r1_ r2_ r3_
      have fr0 := HP.out.br.frozen 0
      have fr1 := HP.out.br.frozen 1
      have fr2 := HP.out.br.frozen 2
      have fr3 := HP.out.br.frozen 3
      cases ob with
      | true =>
        have HS4 := Lib.hid (set37 HP.out.br rfl (.int .i64 er) (.bool fo) (.string va) (.slice Av nL cv) HP.out.lo HP.out.o1)
        have HROW := Lib.hid HP.out.row
        rw [HNL.out] at HROW
        have HOO : Hid (pr < px + 1 ∧ w.heap.size ≤ px + 1) := Lib.hid (by have h1 := HP.out.o1; have h2 := HP.out.o2; omega)
        go_wp2
        refine bodyPost_ret (results_cell_row2 rfl _ _ pr 37 _ (0, 0) _ rfl HS4.out.1 Tryd.underlying37 rfl (by kernel_rfl) rfl) rfl ?_
        exact rread_ok HOK.out HRA.out HNL.out.symm ((HS4.out.2.2 _ _ _ _ HOO.out.1 HROW.out).base HOO.out.2) HS4.out.2.1
      | false =>
        have hbt : Tryd.prog.built 37 [] = some #[.int .i64 0, .bool false, .string { data := #[] }, .slice none 0 0] := by kernel_rfl
        have HS4 := Lib.hid (set37 HP.out.br rfl (.int .i64 0) (.bool false) (.string { data := #[] }) (.slice none 0 0) HP.out.lo HP.out.o1)
        clear k0 k1 k2 k3
        go_wp2
        refine bodyPost_ret (results_cell_row2 rfl _ _ pr 37 _ (0, 0) _ rfl HS4.out.1 Tryd.underlying37 rfl (by kernel_rfl) rfl) rfl ?_
        exact rread_err HOK.out HS4.out.2.1
end Go.Proofs.YtkgdmdcnhbaidaaDoor
