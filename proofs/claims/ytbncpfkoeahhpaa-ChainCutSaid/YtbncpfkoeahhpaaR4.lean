/-
Behind a Cut the List ends with that version; what is given back ends a List ahead of it. For any config, any versions, which one.
-/
import Derived.Test.YtbncpfkoeahhpaaOA
import Derived.Test.YtbncpfkoeahhpaaCW
import Derived.Test.YtbncpfkoeahhpaaCP
import Derived.Test.YtbncpfkoeahhpaaRows
import Derived.Test.YtbncpfkoeahhpaaLF
namespace Go.Proofs.Ytbncpfkoeahhpaa.chainCut
open Go.ChangeShapes Go.WideShapes Go.ChangeAt Go.RowKit Go.Maps
set_option linter.unusedVariables false
set_option linter.unusedSimpArgs false

theorem own : ownKnob Try.prog.godebug = none := by kernel_rfl
theorem laidOut : laidOutB Try.prog = true := by kernel_rfl

set_option maxRecDepth 100000 in
set_option maxHeartbeats 16000000 in
theorem walk (cf : Conf) (A : Option Addr) (n c : Nat) (L : List Vn) (y : Int) (w : World) (hS : RSl vec 4 w A n L) (hz : ∀ v ∈ L, VOk v) (hn : n ≤ maxLen) : Calls Try.prog 6 #[.agg #[.int .i64 cf.ta, .int .i64 cf.ac, .int .i64 cf.ke, .int .i64 cf.de, .int .i64 cf.ts, .int .i64 cf.kl, .int .i64 cf.vl, .int .i64 cf.fa], .slice A n c, .int .i64 y] w (fun e w' => e = .returned (.bool true) ∧ Below w.heap.size w w') := by
  have HS : Hid (∀ W, Below w.heap.size w W → RSl vec 4 W A n L) := fun W hb => hS.later hb
  have HZ : Hid (∀ v ∈ L, v.2.2.2.size ≤ maxLen ∧ v.1 ≤ 9223372036854775807) := fun v hm => ⟨(hz v hm).2.2, (hz v hm).1.2⟩
  have HN := Lib.hid hn
  have HLN : Hid (L.length = n) := hS.1
  unfold maxLen at hn
  clear hS hz
  go_enter Try.func6, Try.ntmps6
  go_upto_region 1 with (fail)
  have HB0 : Hid (Below w.heap.size w (w.alloc (.cells #[.int .i64 cf.ta, .int .i64 cf.ac, .int .i64 cf.ke, .int .i64 cf.de, .int .i64 cf.ts, .int .i64 cf.kl, .int .i64 cf.vl, .int .i64 cf.fa] 43))) := ((Below.refl _ _).alloc (Nat.le_refl _) _)
  have HC : Hid (Blk (w.alloc (.cells #[.int .i64 cf.ta, .int .i64 cf.ac, .int .i64 cf.ke, .int .i64 cf.de, .int .i64 cf.ts, .int .i64 cf.kl, .int .i64 cf.vl, .int .i64 cf.fa] 43)) w.heap.size #[.int .i64 cf.ta, .int .i64 cf.ac, .int .i64 cf.ke, .int .i64 cf.de, .int .i64 cf.ts, .int .i64 cf.kl, .int .i64 cf.vl, .int .i64 cf.fa] 43) := (Blk.new w _ _)
  generalize w.alloc (.cells #[.int .i64 cf.ta, .int .i64 cf.ac, .int .i64 cf.ke, .int .i64 cf.de, .int .i64 cf.ts, .int .i64 cf.kl, .int .i64 cf.vl, .int .i64 cf.fa] 43) = w0 at *
  obtain ⟨pc, hpc⟩ : ∃ p, w.heap.size = p := ⟨_, rfl⟩
  rw [hpc] at HC ⊢
  clear hpc
  go_wp2_with fail
  refine (large_any A n c L _ (HS.out _ HB0.out) HN.out).mono ?_
  rintro e w1 ⟨r, rfl, hb, hlg⟩
  have HB1 := Lib.hid (stepB HB0.out hb)
  replace HC := Lib.hid (HC.out.later hb)
  clear hb HB0
  cases r with
  | true =>
    clear hlg
    go_wp2_with fail
    refine (awake_any _).mono ?_
    rintro e wz2 ⟨rfl, hb⟩
    have HBz := Lib.hid (stepB HB1.out hb)
    clear hb
    go_wp2
    go_ret
    exact ⟨rfl, HBz.out⟩
  | false =>
    have HLG := Lib.hid (hlg rfl)
    clear hlg
    by_cases h0 : n = 0
    · have d0 : ((n : Int) == 0) = true := by rw [beq_iff_eq]; omega
      clear h0
      go_wp2_with fail
      refine (awake_any _).mono ?_
      rintro e wz3 ⟨rfl, hb⟩
      have HBz := Lib.hid (stepB HB1.out hb)
      clear hb
      go_wp2
      go_ret
      exact ⟨rfl, HBz.out⟩
    · have d0 : ((n : Int) == 0) = false := by rw [beq_eq_false_iff_ne]; omega
      go_wp2_with fail
      refine (awake_any _).mono ?_
      rintro e w2 ⟨rfl, hb⟩
      have HB2 := Lib.hid (stepB HB1.out hb)
      replace HC := Lib.hid (HC.out.later hb)
      clear hb HB1
      have c0 := HC.out.cell 0
      have c1 := HC.out.cell 1
      have c2 := HC.out.cell 2
      have c3 := HC.out.cell 3
      have c4 := HC.out.cell 4
      have c5 := HC.out.cell 5
      have c6 := HC.out.cell 6
      have c7 := HC.out.cell 7
      simp only [List.getElem?_toArray, List.getElem?_cons_zero, List.getElem?_cons_succ] at c0 c1 c2 c3 c4 c5 c6 c7
      go_wp2_with fail
      refine (build_any cf A n c L w2 (HS.out _ HB2.out) HZ.out HN.out HLG.out).mono ?_
      clear HLG c0 c1 c2 c3 c4 c5 c6 c7 HC
      rintro e w3 (⟨rfl, hb⟩ | ⟨q, a, m, st, S0, nd, us, vU, rfl, hm, hn3, ho, hx, hbd, hb⟩)
      · have HB3 := Lib.hid (stepB HB2.out hb)
        clear hb
        go_wp2
        go_ret
        exact ⟨rfl, HB3.out⟩
      · have hl := hbd.len
        rw [hl] at ho
        obtain ⟨gU, cU, rfl⟩ := own0 ho (by omega)
        have HB3 := Lib.hid (stepB HB2.out hb)
        have HO3 := Lib.hid (ho.base HB2.out.size)
        have HX3 := Lib.hid (hx.base HB2.out.size)
        have HD := Lib.hid hbd
        obtain ⟨Y, k, hk, y1, y2, y3, y4, y5, y6⟩ := which_of y n (by omega) (by omega)
        have i1 := idx48 gU n cU k (k : Int) rfl hk
        obtain ⟨X, hX⟩ : ∃ X, us.getD k 0 = X := ⟨_, rfl⟩
        have hhas := HD.out.has hk
        rw [hX] at hhas
        have HXX := Lib.hid hX
        have HH := Lib.hid hhas
        have HCP := Lib.hid (xcopy HX3.out HB3.out.size)
        clear hm ho hx hbd hb HB2 hX hhas hl
        go_wp2_with fail
        refine HCP.out.mono ?_
        rintro e w4 ⟨q2, a2, S4, rfl, htw, hb⟩
        have HT4 := Lib.hid htw
        have HB4 := Lib.hid (stepB HB3.out hb)
        have HO4 := Lib.hid (HO3.out.later hb)
        have x1 := own_at HO4.out hk
        rw [HXX.out] at x1
        clear htw hb HCP HX3 HO3 HB3 y1 y2 y3 y4 y5 y6 d0
        have HC := Lib.hid (xcut w.heap.size q cf a m st S0 nd us n w4 HT4.out.a X HH.out.1 HH.out.2)
        go_wp2_with fail
        refine HC.out.mono ?_
        rintro e w5 ⟨rfl, st5, S5, hx5, hi5, hs5, hf5⟩
        have HT5 := Lib.hid (HT4.out.stepA hx5 hs5 hf5)
        have HO5 := Lib.hid (HT4.out.a.cr.ar.ow hf5 HO4.out (by decide))
        have HB5 : Hid (Below w.heap.size w w5) := HT4.out.a.cr.ar.frBelow hf5 HB4.out (Nat.le_refl _) HB4.out.size
        have HI5 := Lib.hid hi5
        clear x1
        have x1 := own_at HO5.out hk
        rw [HXX.out] at x1
        clear hx5 hi5 hs5 hf5 HC HT4 HO4 HB4
        have hfr := xfree w.heap.size q2 cf a2 m st S4 nd us n w5 HT5.out.b X HH.out.1
        rw [show frAE X st = 0 by unfold frAE; rw [HH.out.2]; rfl] at hfr
        have HF := Lib.hid hfr
        clear hfr
        go_wp2_with fail
        refine HF.out.mono ?_
        rintro e w6 ⟨rfl, st6, S6, hx6, hi6, hs6, hf6⟩
        have HT6 := Lib.hid (HT5.out.stepB hx6 hs6 hf6)
        have HO6 := Lib.hid (HT5.out.b.cr.ar.ow hf6 HO5.out (by decide))
        have HB6 : Hid (Below w.heap.size w w6) := HT5.out.b.cr.ar.frBelow hf6 HB5.out (Nat.le_refl _) HB5.out.size
        have HI6 := Lib.hid hi6
        clear hx6 hi6 hs6 hf6 HF HT5 HO5 HB5 x1
        have n1 : IntKind.i64.wrap ((n : Int) - 1) = (n : Int) - 1 := IntWalk.i64_in _ (by omega)
        have i2 := idx48 gU n cU (n - 1) ((n : Int) - 1) (by omega) (by omega)
        have x2 := own_at HO6.out (j := n - 1) (by omega)
        obtain ⟨Tp, hT⟩ : ∃ T, us.getD (n - 1) 0 = T := ⟨_, rfl⟩
        rw [hT] at x2
        have HTT := Lib.hid hT
        have HTR : Hid (hR Tp) := by
          have := (HD.out.has (j := n - 1) (by omega)).1
          rw [hT] at this
          exact this
        have hbh := x_behind (c := c) (HS.out _ HB6.out) (j := n - 1) (by omega) (by omega)
        rw [show ((n - 1 : Nat) : Int) = (n : Int) - 1 by omega, show n - 1 + 1 = n by omega] at hbh
        have HBH := Lib.hid hbh
        clear hT hbh
        go_wp2_with fail
        refine HBH.out.mono ?_
        rintro e w7 ⟨A6, c6, rfl, hr6, hle, hnil, hb⟩
        obtain ⟨FL, hFL⟩ : ∃ FL, bh L (n - 1) = FL := ⟨_, rfl⟩
        rw [hFL] at hr6
        have HFL := Lib.hid hFL
        obtain ⟨nd5, hnd5⟩ : ∃ nd5, setN nd X ((nd X).1, 0) = nd5 := ⟨_, rfl⟩
        rw [hnd5] at HT6
        have HN5 := Lib.hid hnd5
        clear hnd5
        have HP : Hid (P4 w w7 cf m q a st5 S5 nd5 us n q2 a2 st6 S6 nd gU cU A6 FL) := Lib.hid ⟨HT6.out.later hb, HO6.out.later hb, hr6, stepB HB6.out hb⟩
        clear hr6 hb HBH HT6 HO6 HB6 x2 hFL i2
        obtain ⟨ka, hka⟩ : ∃ ka, n - k = ka := ⟨_, rfl⟩
        obtain ⟨kb, hkb⟩ : ∃ kb, n - 1 - k = kb := ⟨_, rfl⟩
        have n2 : IntKind.i64.wrap ((n : Int) - (k : Int)) = (ka : Int) := by rw [IntWalk.i64_in _ (by omega)]; omega
        have n3 : IntKind.i64.wrap ((n : Int) - 1 - (k : Int)) = (kb : Int) := by rw [IntWalk.i64_in _ (by omega)]; omega
        have i6 := slice38 A6 n c6 ka (by omega) hle hnil
        have i7 := slice38 A6 n c6 kb (by omega) hle hnil
        have HKA : Hid (ka ≤ n ∧ ka = kb + 1 ∧ kb + k = n - 1) := Lib.hid (by omega)
        clear hle hnil
        have HLL : Hid (n ≤ L.length) := Lib.hid (by rw [HLN.out]; exact Nat.le_refl _)
        have HUA : Hid (usA st5 = n) := by
          show _ = _
          rw [us_all HP.out.tw.a (by omega) (fun x hx => by rw [HI5.out x (HD.out.rg x hx).1, HD.out.is x (HD.out.rg x hx).1]; exact decide_eq_true hx), HD.out.len]
        have HUB : Hid (usA st6 = n - 1) := by
          show _ = _
          have hxm : X ∈ us := by rw [← HXX.out]; exact getD_in (by rw [HD.out.len]; exact hk)
          rw [HP.out.tw.b.us (by omega), ← HD.out.len, ← count_ne HD.out.nod hxm]
          exact List.countP_congr (fun x hx => by
            have e := HI6.out x (HD.out.rg x hx).1
            rw [e, HD.out.is x (HD.out.rg x hx).1, decide_eq_true hx, Bool.true_and])
        have HMA : Hid (lsF st5 nd5 n Tp = FL.take ka) := by
          rw [← HN5.out]
          have h := lsF_cut (st2 := st5) (nd2 := setN nd X ((nd X).1, 0)) HD.out HLL.out hk HI5.out (fun j hj => by
            unfold setN
            by_cases e : j = k
            · subst e
              rw [HXX.out, if_pos rfl, if_pos rfl]
              have := HD.out.nd j hj
              rw [HXX.out] at this
              rw [this]
            · rw [if_neg (fun q => us_ne HD.out.nod (i := j) (j := k) (by rw [HD.out.len]; exact hj) (by rw [HD.out.len]; exact hk) e (by rw [q, HXX.out])), if_neg e]
              exact HD.out.nd j hj) kb (by omega) n (by omega)
          rw [show k + kb = n - 1 by omega, HTT.out, HFL.out, ← HKA.out.2.1] at h
          exact h
        have HMB : Hid (lsF st6 nd (n - 1) Tp = FL.take kb) := by
          have h := lsF_gone (st2 := st6) (k := k) HD.out HLL.out hk (fun x hx => by have e := HI6.out x hx; rw [e, HXX.out]) kb (by omega) (n - 1) (by omega)
          rw [show k + kb = n - 1 by omega, HTT.out, HFL.out] at h
          exact h
        have HFN : Hid (FL.length = n) := HP.out.fl.1
        have HXR := Lib.hid HH.out.1
        have HDX : Hid (isA st6 X = false) := by
          show _ = _
          have e := HI6.out X HXR.out
          rw [e]; simp
        have HQA : Hid (∀ W, P4 w W cf m q a st5 S5 nd5 us n q2 a2 st6 S6 nd gU cU A6 FL → Calls Try.prog 15 #[.pointer (some ⟨q, 0, none⟩), .int .u64 Tp] W (RwJ (FL.take ka) ka W)) := fun W h => x_list h.tw.a HTR.out HUA.out HMA.out (by rw [List.length_take, HFN.out]; have := HKA.out; omega) (by omega)
        have HQB : Hid (∀ W, P4 w W cf m q a st5 S5 nd5 us n q2 a2 st6 S6 nd gU cU A6 FL → Calls Try.prog 15 #[.pointer (some ⟨q2, 0, none⟩), .int .u64 Tp] W (RwJ (FL.take kb) kb W)) := fun W h => x_list h.tw.b HTR.out HUB.out HMB.out (by rw [List.length_take, HFN.out]; have := HKA.out; omega) (by omega)
        have HQX : Hid (∀ W, P4 w W cf m q a st5 S5 nd5 us n q2 a2 st6 S6 nd gU cU A6 FL → Calls Try.prog 15 #[.pointer (some ⟨q2, 0, none⟩), .int .u64 X] W (RwJ [] 0 W)) := fun W h => x_list h.tw.b HXR.out HUB.out (lsF_dead HDX.out _) rfl (by omega)
        have HVA : Hid (∀ W, P4 w W cf m q a st5 S5 nd5 us n q2 a2 st6 S6 nd gU cU A6 FL → Calls Try.prog 16 #[.pointer (some ⟨q, 0, none⟩)] W fun e w' => e = .returned (.int .i64 (n : Int)) ∧ W = w') := fun W h => x_used h.tw.a HUA.out rfl
        have HVB : Hid (∀ W, P4 w W cf m q a st5 S5 nd5 us n q2 a2 st6 S6 nd gU cU A6 FL → Calls Try.prog 16 #[.pointer (some ⟨q2, 0, none⟩)] W fun e w' => e = .returned (.int .i64 ((n : Int) - 1)) ∧ W = w') := fun W h => x_used h.tw.b HUB.out (by omega)
        have HRA : Hid (∀ W, P4 w W cf m q a st5 S5 nd5 us n q2 a2 st6 S6 nd gU cU A6 FL → RSl vec 4 W A6 ka (FL.take ka)) := fun W h => rsl_take h.fl HKA.out.1
        have HRB : Hid (∀ W, P4 w W cf m q a st5 S5 nd5 us n q2 a2 st6 S6 nd gU cU A6 FL → RSl vec 4 W A6 kb (FL.take kb)) := fun W h => rsl_take h.fl (by have := HKA.out; omega)
        have HKL : Hid (ka ≤ 100000 ∧ kb ≤ 100000) := Lib.hid (by have := HKA.out; omega)
        have KS : Hid (∀ W, P4 w W cf m q a st5 S5 nd5 us n q2 a2 st6 S6 nd gU cU A6 FL → W.cell? ⟨gU, k, none⟩ = some (.int .u64 X)) := fun W h => by
          have x := own_at h.ow hk
          rw [HXX.out] at x
          exact x
        have HQN : Hid (∀ W W', P4 w W cf m q a st5 S5 nd5 us n q2 a2 st6 S6 nd gU cU A6 FL → Below W.heap.size W W' → P4 w W' cf m q a st5 S5 nd5 us n q2 a2 st6 S6 nd gU cU A6 FL) := fun W W' h hb => h.later hb
        have hp := HP.out
        clear HMA HMB HUA HUB HI5 HI6 HDX HXR hka hkb
        go_upto_region 12 with (fail)
        refine wp_region_noPanic ?_
        have HPc := Lib.hid (HP.out.later (Below.drew (Below.refl _ _)))
        clear HP
        refine wp_region_held_drew (S := fun W => W.cell? ⟨gU, k, none⟩ = some (.int .u64 X)) (by kernel_rfl) (KS.out _ HPc.out) (fun hHeld => ?_)
        generalize w7.drew = wc at *
        refine wpAnyH_take (i := 0) (oi := { dst := some 71, op := Op.move (Operand.tmp 7), type := 22, pos := "outright.go:208", after := #[], guard := none }) (v := ?_) rfl (by kernel_rfl) (by kernel_rfl) (by kernel_rfl) (fun _ _ _ h => h) (Or.inl ⟨by rfl, ?_⟩) (by assumption) ?_
        rotate_left
        · intro W hSw
          clear hSw
          go_simp
          try with_reducible rfl
        simp only [Act.put, List.setIfInBounds_toArray, List.set_cons_zero, List.set_cons_succ]
        refine wpAnyH_take (i := 1) (oi := { dst := some 72, op := Op.move (Operand.tmp 12), type := 24, pos := "outright.go:208", after := #[], guard := none }) (v := ?_) rfl (by kernel_rfl) (by kernel_rfl) (by kernel_rfl) (fun _ _ _ h => h) (Or.inl ⟨by rfl, ?_⟩) (by assumption) ?_
        rotate_left
        · intro W hSw
          clear hSw
          go_simp
          try with_reducible rfl
        simp only [Act.put, List.setIfInBounds_toArray, List.set_cons_zero, List.set_cons_succ]
        refine wpAnyH_take (i := 3) (oi := { dst := some 74, op := Op.move (Operand.tmp 13), type := 38, pos := "outright.go:208", after := #[], guard := none }) (v := ?_) rfl (by kernel_rfl) (by kernel_rfl) (by kernel_rfl) (fun _ _ _ h => h) (Or.inl ⟨by rfl, ?_⟩) (by assumption) ?_
        rotate_left
        · intro W hSw
          clear hSw
          go_simp
          try with_reducible rfl
        simp only [Act.put, List.setIfInBounds_toArray, List.set_cons_zero, List.set_cons_succ]
        refine wpAnyH_take (i := 4) (oi := { dst := some 75, op := Op.move (Operand.tmp 1), type := 38, pos := "outright.go:208", after := #[], guard := none }) (v := ?_) rfl (by kernel_rfl) (by kernel_rfl) (by kernel_rfl) (fun _ _ _ h => h) (Or.inl ⟨by rfl, ?_⟩) (by assumption) ?_
        rotate_left
        · intro W hSw
          clear hSw
          go_simp
          try with_reducible rfl
        simp only [Act.put, List.setIfInBounds_toArray, List.set_cons_zero, List.set_cons_succ]
        refine wpAnyH_take (i := 5) (oi := { dst := some 76, op := Op.call { callee := Callee.builtin Builtin.len, args := #[Operand.tmp 75], argTypes := #[38] }, type := 3, pos := "outright.go:208", after := #[{ on := 4, ground := Ground.data }], guard := none }) (v := ?_) rfl (by kernel_rfl) (by kernel_rfl) (by kernel_rfl) (fun _ _ _ h => h) (Or.inl ⟨by rfl, ?_⟩) (by assumption) ?_
        rotate_left
        · intro W hSw
          clear hSw
          go_simp
          try with_reducible rfl
        simp only [Act.put, List.setIfInBounds_toArray, List.set_cons_zero, List.set_cons_succ]
        refine wpAnyH_take (i := 6) (oi := { dst := some 77, op := Op.move (Operand.tmp 10), type := 3, pos := "outright.go:208", after := #[], guard := none }) (v := ?_) rfl (by kernel_rfl) (by kernel_rfl) (by kernel_rfl) (fun _ _ _ h => h) (Or.inl ⟨by rfl, ?_⟩) (by assumption) ?_
        rotate_left
        · intro W hSw
          clear hSw
          go_simp
          try with_reducible rfl
        simp only [Act.put, List.setIfInBounds_toArray, List.set_cons_zero, List.set_cons_succ]
        refine wpAnyH_take (i := 7) (oi := { dst := some 78, op := Op.binOp BinOp.sub 3 (Operand.tmp 76) (Operand.tmp 77) 3, type := 3, pos := "outright.go:208", after := #[{ on := 5, ground := Ground.data }, { on := 6, ground := Ground.data }], guard := none }) (v := ?_) rfl (by kernel_rfl) (by kernel_rfl) (by kernel_rfl) (fun _ _ _ h => h) (Or.inl ⟨by rfl, ?_⟩) (by assumption) ?_
        rotate_left
        · intro W hSw
          clear hSw
          go_simp
          try with_reducible rfl
        simp only [Act.put, List.setIfInBounds_toArray, List.set_cons_zero, List.set_cons_succ]
        refine wpAnyH_take (i := 8) (oi := { dst := some 79, op := Op.slice 38 (Operand.tmp 74) none (some (Operand.tmp 78)) none, type := 38, pos := "outright.go:208", after := #[{ on := 3, ground := Ground.data }, { on := 7, ground := Ground.data }], guard := none }) (v := ?_) rfl (by kernel_rfl) (by kernel_rfl) (by kernel_rfl) (fun _ _ _ h => h) (Or.inl ⟨by rfl, ?_⟩) (by assumption) ?_
        rotate_left
        · intro W hSw
          clear hSw
          go_simp
          try with_reducible rfl
        simp only [Act.put, List.setIfInBounds_toArray, List.set_cons_zero, List.set_cons_succ]
        refine wpAnyH_ready (rs := [2]) (by kernel_rfl) (by simp) (AllReadyH.cons (o := { dst := some 73, op := Op.call { callee := Callee.value (Operand.func 15), args := #[Operand.tmp 71, Operand.tmp 72], argTypes := #[22, 24] }, type := 38, pos := "outright.go:208", after := #[{ on := 0, ground := Ground.data }, { on := 1, ground := Ground.data }], guard := none }) rfl (fun K hK => ?_) AllReadyH.nil)
        refine step_callw (by rfl) 15 #[.pointer (some ⟨q, 0, none⟩), .int .u64 Tp] (by go_simp) ?_
        refine (HQA.out _ HPc.out).mono ?_
        rintro z wn ⟨A7, c7, rfl, hr7, _, _, hb7⟩
        have HPd := Lib.hid (HPc.out.later hb7)
        have HR7 := Lib.hid hr7
        clear hr7 hb7 HPc
        refine ⟨_, rfl, hK.out _ _ (KS.out _ HPd.out) (fun hHeld2 => ?_)⟩
        clear hK K hHeld
        have hHeld := hHeld2
        clear hHeld2
        try simp only [Act.put, List.setIfInBounds_toArray, List.set_cons_zero, List.set_cons_succ]
        have HPc := HPd
        clear HPd
        obtain ⟨wc, rfl⟩ : ∃ w : World, w = wn := ⟨_, rfl⟩
        refine wpAnyH_ready (rs := [9]) (by kernel_rfl) (by simp) (AllReadyH.cons (o := { dst := some 80, op := Op.call { callee := Callee.value (Operand.func 22), args := #[Operand.tmp 73, Operand.tmp 79], argTypes := #[38, 38] }, type := 4, pos := "outright.go:208", after := #[{ on := 2, ground := Ground.data }, { on := 8, ground := Ground.data }, { on := 2, ground := Ground.chain }], guard := none }) rfl (fun K hK => ?_) AllReadyH.nil)
        refine step_callw (by rfl) 22 #[.slice A7 ka c7, .slice A6 ka c6] (by go_simp) ?_
        refine (same_rows HR7.out (HRA.out _ HPc.out) rfl HKL.out.1).mono ?_
        rintro z wn ⟨rfl, hb7⟩
        have HPd := Lib.hid (HPc.out.later hb7)
        clear HR7 hb7 HPc
        refine ⟨_, rfl, hK.out _ _ (KS.out _ HPd.out) (fun hHeld2 => ?_)⟩
        clear hK K hHeld
        have hHeld := hHeld2
        clear hHeld2
        try simp only [Act.put, List.setIfInBounds_toArray, List.set_cons_zero, List.set_cons_succ]
        have HPc := HPd
        clear HPd
        obtain ⟨wc, rfl⟩ : ∃ w : World, w = wn := ⟨_, rfl⟩
        refine wpAnyH_take (i := 10) (oi := { dst := some 81, op := Op.move (Operand.tmp 80), type := 4, pos := "outright.go:208", after := #[{ on := 9, ground := Ground.data }, { on := 9, ground := Ground.chain }], guard := none }) (v := ?_) rfl (by kernel_rfl) (by kernel_rfl) (by kernel_rfl) (fun _ _ _ h => h) (Or.inl ⟨by rfl, ?_⟩) (by assumption) ?_
        rotate_left
        · intro W hSw
          clear hSw
          go_simp
          try with_reducible rfl
        simp only [Act.put, List.setIfInBounds_toArray, List.set_cons_zero, List.set_cons_succ]
        refine wpAnyH_take (i := 11) (oi := { dst := some 82, op := Op.move (Operand.tmp 11), type := 22, pos := "outright.go:208", after := #[{ on := 10, ground := Ground.guard }], guard := some (10, true) }) (v := ?_) rfl (by kernel_rfl) (by kernel_rfl) (by kernel_rfl) (fun _ _ _ h => h) (Or.inl ⟨by rfl, ?_⟩) (by assumption) ?_
        rotate_left
        · intro W hSw
          clear hSw
          go_simp
          try with_reducible rfl
        simp only [Act.put, List.setIfInBounds_toArray, List.set_cons_zero, List.set_cons_succ]
        refine wpAnyH_take (i := 12) (oi := { dst := some 83, op := Op.move (Operand.tmp 12), type := 24, pos := "outright.go:208", after := #[{ on := 10, ground := Ground.guard }], guard := some (10, true) }) (v := ?_) rfl (by kernel_rfl) (by kernel_rfl) (by kernel_rfl) (fun _ _ _ h => h) (Or.inl ⟨by rfl, ?_⟩) (by assumption) ?_
        rotate_left
        · intro W hSw
          clear hSw
          go_simp
          try with_reducible rfl
        simp only [Act.put, List.setIfInBounds_toArray, List.set_cons_zero, List.set_cons_succ]
        refine wpAnyH_take (i := 14) (oi := { dst := some 85, op := Op.move (Operand.tmp 13), type := 38, pos := "outright.go:208", after := #[{ on := 10, ground := Ground.guard }], guard := some (10, true) }) (v := ?_) rfl (by kernel_rfl) (by kernel_rfl) (by kernel_rfl) (fun _ _ _ h => h) (Or.inl ⟨by rfl, ?_⟩) (by assumption) ?_
        rotate_left
        · intro W hSw
          clear hSw
          go_simp
          try with_reducible rfl
        simp only [Act.put, List.setIfInBounds_toArray, List.set_cons_zero, List.set_cons_succ]
        refine wpAnyH_take (i := 15) (oi := { dst := some 86, op := Op.move (Operand.tmp 1), type := 38, pos := "outright.go:208", after := #[{ on := 10, ground := Ground.guard }], guard := some (10, true) }) (v := ?_) rfl (by kernel_rfl) (by kernel_rfl) (by kernel_rfl) (fun _ _ _ h => h) (Or.inl ⟨by rfl, ?_⟩) (by assumption) ?_
        rotate_left
        · intro W hSw
          clear hSw
          go_simp
          try with_reducible rfl
        simp only [Act.put, List.setIfInBounds_toArray, List.set_cons_zero, List.set_cons_succ]
        refine wpAnyH_take (i := 16) (oi := { dst := some 87, op := Op.call { callee := Callee.builtin Builtin.len, args := #[Operand.tmp 86], argTypes := #[38] }, type := 3, pos := "outright.go:208", after := #[{ on := 15, ground := Ground.data }, { on := 10, ground := Ground.guard }], guard := some (10, true) }) (v := ?_) rfl (by kernel_rfl) (by kernel_rfl) (by kernel_rfl) (fun _ _ _ h => h) (Or.inl ⟨by rfl, ?_⟩) (by assumption) ?_
        rotate_left
        · intro W hSw
          clear hSw
          go_simp
          try with_reducible rfl
        simp only [Act.put, List.setIfInBounds_toArray, List.set_cons_zero, List.set_cons_succ]
        refine wpAnyH_take (i := 17) (oi := { dst := some 88, op := Op.binOp BinOp.sub 3 (Operand.tmp 87) (Operand.const (Value.int IntKind.i64 1)) 3, type := 3, pos := "outright.go:208", after := #[{ on := 16, ground := Ground.data }, { on := 10, ground := Ground.guard }], guard := some (10, true) }) (v := ?_) rfl (by kernel_rfl) (by kernel_rfl) (by kernel_rfl) (fun _ _ _ h => h) (Or.inl ⟨by rfl, ?_⟩) (by assumption) ?_
        rotate_left
        · intro W hSw
          clear hSw
          go_simp
          try with_reducible rfl
        simp only [Act.put, List.setIfInBounds_toArray, List.set_cons_zero, List.set_cons_succ]
        refine wpAnyH_take (i := 18) (oi := { dst := some 89, op := Op.move (Operand.tmp 10), type := 3, pos := "outright.go:208", after := #[{ on := 10, ground := Ground.guard }], guard := some (10, true) }) (v := ?_) rfl (by kernel_rfl) (by kernel_rfl) (by kernel_rfl) (fun _ _ _ h => h) (Or.inl ⟨by rfl, ?_⟩) (by assumption) ?_
        rotate_left
        · intro W hSw
          clear hSw
          go_simp
          try with_reducible rfl
        simp only [Act.put, List.setIfInBounds_toArray, List.set_cons_zero, List.set_cons_succ]
        refine wpAnyH_take (i := 19) (oi := { dst := some 90, op := Op.binOp BinOp.sub 3 (Operand.tmp 88) (Operand.tmp 89) 3, type := 3, pos := "outright.go:208", after := #[{ on := 17, ground := Ground.data }, { on := 18, ground := Ground.data }, { on := 10, ground := Ground.guard }], guard := some (10, true) }) (v := ?_) rfl (by kernel_rfl) (by kernel_rfl) (by kernel_rfl) (fun _ _ _ h => h) (Or.inl ⟨by rfl, ?_⟩) (by assumption) ?_
        rotate_left
        · intro W hSw
          clear hSw
          go_simp
          try with_reducible rfl
        simp only [Act.put, List.setIfInBounds_toArray, List.set_cons_zero, List.set_cons_succ]
        refine wpAnyH_take (i := 20) (oi := { dst := some 91, op := Op.slice 38 (Operand.tmp 85) none (some (Operand.tmp 90)) none, type := 38, pos := "outright.go:208", after := #[{ on := 14, ground := Ground.data }, { on := 19, ground := Ground.data }, { on := 10, ground := Ground.guard }], guard := some (10, true) }) (v := ?_) rfl (by kernel_rfl) (by kernel_rfl) (by kernel_rfl) (fun _ _ _ h => h) (Or.inl ⟨by rfl, ?_⟩) (by assumption) ?_
        rotate_left
        · intro W hSw
          clear hSw
          go_simp
          try with_reducible rfl
        simp only [Act.put, List.setIfInBounds_toArray, List.set_cons_zero, List.set_cons_succ]
        refine wpAnyH_ready (rs := [13]) (by kernel_rfl) (by simp) (AllReadyH.cons (o := { dst := some 84, op := Op.call { callee := Callee.value (Operand.func 15), args := #[Operand.tmp 82, Operand.tmp 83], argTypes := #[22, 24] }, type := 38, pos := "outright.go:208", after := #[{ on := 11, ground := Ground.data }, { on := 12, ground := Ground.data }, { on := 10, ground := Ground.chain }, { on := 10, ground := Ground.guard }], guard := some (10, true) }) rfl (fun K hK => ?_) AllReadyH.nil)
        refine step_callw (by rfl) 15 #[.pointer (some ⟨q2, 0, none⟩), .int .u64 Tp] (by go_simp) ?_
        refine (HQB.out _ HPc.out).mono ?_
        rintro z wn ⟨A7, c7, rfl, hr7, _, _, hb7⟩
        have HPd := Lib.hid (HPc.out.later hb7)
        have HR7 := Lib.hid hr7
        clear hr7 hb7 HPc
        refine ⟨_, rfl, hK.out _ _ (KS.out _ HPd.out) (fun hHeld2 => ?_)⟩
        clear hK K hHeld
        have hHeld := hHeld2
        clear hHeld2
        try simp only [Act.put, List.setIfInBounds_toArray, List.set_cons_zero, List.set_cons_succ]
        have HPc := HPd
        clear HPd
        obtain ⟨wc, rfl⟩ : ∃ w : World, w = wn := ⟨_, rfl⟩
        refine wpAnyH_ready (rs := [21]) (by kernel_rfl) (by simp) (AllReadyH.cons (o := { dst := some 92, op := Op.call { callee := Callee.value (Operand.func 22), args := #[Operand.tmp 84, Operand.tmp 91], argTypes := #[38, 38] }, type := 4, pos := "outright.go:208", after := #[{ on := 13, ground := Ground.data }, { on := 20, ground := Ground.data }, { on := 13, ground := Ground.chain }, { on := 10, ground := Ground.guard }], guard := some (10, true) }) rfl (fun K hK => ?_) AllReadyH.nil)
        refine step_callw (by rfl) 22 #[.slice A7 kb c7, .slice A6 kb c6] (by go_simp) ?_
        refine (same_rows HR7.out (HRB.out _ HPc.out) rfl HKL.out.2).mono ?_
        rintro z wn ⟨rfl, hb7⟩
        have HPd := Lib.hid (HPc.out.later hb7)
        clear HR7 hb7 HPc
        refine ⟨_, rfl, hK.out _ _ (KS.out _ HPd.out) (fun hHeld2 => ?_)⟩
        clear hK K hHeld
        have hHeld := hHeld2
        clear hHeld2
        try simp only [Act.put, List.setIfInBounds_toArray, List.set_cons_zero, List.set_cons_succ]
        have HPc := HPd
        clear HPd
        obtain ⟨wc, rfl⟩ : ∃ w : World, w = wn := ⟨_, rfl⟩
        refine wpAnyH_take (i := 22) (oi := { dst := some 93, op := Op.pick (Operand.tmp 81) (Operand.tmp 92) (Operand.const (Value.bool false)), type := 4, pos := "outright.go:208", after := #[{ on := 10, ground := Ground.data }, { on := 21, ground := Ground.data }], guard := none }) (v := ?_) rfl (by kernel_rfl) (by kernel_rfl) (by kernel_rfl) (fun _ _ _ h => h) (Or.inl ⟨by rfl, ?_⟩) (by assumption) ?_
        rotate_left
        · intro W hSw
          clear hSw
          go_simp
          try with_reducible rfl
        simp only [Act.put, List.setIfInBounds_toArray, List.set_cons_zero, List.set_cons_succ]
        refine wpAnyH_take (i := 23) (oi := { dst := some 94, op := Op.move (Operand.tmp 93), type := 4, pos := "outright.go:208", after := #[{ on := 22, ground := Ground.data }, { on := 21, ground := Ground.chain }], guard := none }) (v := ?_) rfl (by kernel_rfl) (by kernel_rfl) (by kernel_rfl) (fun _ _ _ h => h) (Or.inl ⟨by rfl, ?_⟩) (by assumption) ?_
        rotate_left
        · intro W hSw
          clear hSw
          go_simp
          try with_reducible rfl
        simp only [Act.put, List.setIfInBounds_toArray, List.set_cons_zero, List.set_cons_succ]
        refine wpAnyH_take (i := 24) (oi := { dst := some 95, op := Op.move (Operand.tmp 11), type := 22, pos := "outright.go:208", after := #[{ on := 23, ground := Ground.guard }], guard := some (23, true) }) (v := ?_) rfl (by kernel_rfl) (by kernel_rfl) (by kernel_rfl) (fun _ _ _ h => h) (Or.inl ⟨by rfl, ?_⟩) (by assumption) ?_
        rotate_left
        · intro W hSw
          clear hSw
          go_simp
          try with_reducible rfl
        simp only [Act.put, List.setIfInBounds_toArray, List.set_cons_zero, List.set_cons_succ]
        refine wpAnyH_take (i := 25) (oi := { dst := some 96, op := Op.move (Operand.tmp 8), type := 48, pos := "outright.go:208", after := #[{ on := 23, ground := Ground.guard }], guard := some (23, true) }) (v := ?_) rfl (by kernel_rfl) (by kernel_rfl) (by kernel_rfl) (fun _ _ _ h => h) (Or.inl ⟨by rfl, ?_⟩) (by assumption) ?_
        rotate_left
        · intro W hSw
          clear hSw
          go_simp
          try with_reducible rfl
        simp only [Act.put, List.setIfInBounds_toArray, List.set_cons_zero, List.set_cons_succ]
        refine wpAnyH_take (i := 26) (oi := { dst := some 97, op := Op.move (Operand.tmp 10), type := 3, pos := "outright.go:208", after := #[{ on := 23, ground := Ground.guard }], guard := some (23, true) }) (v := ?_) rfl (by kernel_rfl) (by kernel_rfl) (by kernel_rfl) (fun _ _ _ h => h) (Or.inl ⟨by rfl, ?_⟩) (by assumption) ?_
        rotate_left
        · intro W hSw
          clear hSw
          go_simp
          try with_reducible rfl
        simp only [Act.put, List.setIfInBounds_toArray, List.set_cons_zero, List.set_cons_succ]
        refine wpAnyH_take (i := 27) (oi := { dst := some 98, op := Op.indexAddr 48 (Operand.tmp 96) (Operand.tmp 97), type := 0, pos := "outright.go:208", after := #[{ on := 25, ground := Ground.data }, { on := 26, ground := Ground.data }, { on := 23, ground := Ground.guard }], guard := some (23, true) }) (v := ?_) rfl (by kernel_rfl) (by kernel_rfl) (by kernel_rfl) (fun _ _ _ h => h) (Or.inl ⟨by rfl, ?_⟩) (by assumption) ?_
        rotate_left
        · intro W hSw
          clear hSw
          go_simp
          try with_reducible rfl
        simp only [Act.put, List.setIfInBounds_toArray, List.set_cons_zero, List.set_cons_succ]
        refine wpAnyH_take (i := 28) (oi := { dst := some 99, op := Op.load 24 (Operand.tmp 98), type := 24, pos := "outright.go:208", after := #[{ on := 27, ground := Ground.data }, { on := 23, ground := Ground.guard }], guard := some (23, true) }) (v := ?_) rfl (by kernel_rfl) (by kernel_rfl) (by kernel_rfl) (fun _ _ _ h => h) (Or.inl ⟨by rfl, ?_⟩) (by assumption) ?_
        rotate_left
        · intro W hSw
          have hSw2 : W.cell? ⟨gU, k, none⟩ = some (.int .u64 X) := hSw
          go_simp
          try with_reducible rfl
        simp only [Act.put, List.setIfInBounds_toArray, List.set_cons_zero, List.set_cons_succ]
        refine wpAnyH_ready (rs := [29]) (by kernel_rfl) (by simp) (AllReadyH.cons (o := { dst := some 100, op := Op.call { callee := Callee.value (Operand.func 15), args := #[Operand.tmp 95, Operand.tmp 99], argTypes := #[22, 24] }, type := 38, pos := "outright.go:208", after := #[{ on := 24, ground := Ground.data }, { on := 28, ground := Ground.data }, { on := 23, ground := Ground.chain }, { on := 23, ground := Ground.guard }], guard := some (23, true) }) rfl (fun K hK => ?_) AllReadyH.nil)
        refine step_callw (by rfl) 15 #[.pointer (some ⟨q2, 0, none⟩), .int .u64 X] (by go_simp) ?_
        refine (HQX.out _ HPc.out).mono ?_
        rintro z wn ⟨A7, c7, rfl, hr7, _, _, hb7⟩
        have HPd := Lib.hid (HPc.out.later hb7)
        clear hr7 hb7 HPc
        refine ⟨_, rfl, hK.out _ _ (KS.out _ HPd.out) (fun hHeld2 => ?_)⟩
        clear hK K hHeld
        have hHeld := hHeld2
        clear hHeld2
        try simp only [Act.put, List.setIfInBounds_toArray, List.set_cons_zero, List.set_cons_succ]
        have HPc := HPd
        clear HPd
        obtain ⟨wc, rfl⟩ : ∃ w : World, w = wn := ⟨_, rfl⟩
        refine wpAnyH_take (i := 30) (oi := { dst := some 101, op := Op.call { callee := Callee.builtin Builtin.len, args := #[Operand.tmp 100], argTypes := #[38] }, type := 3, pos := "outright.go:208", after := #[{ on := 29, ground := Ground.data }, { on := 23, ground := Ground.guard }], guard := some (23, true) }) (v := ?_) rfl (by kernel_rfl) (by kernel_rfl) (by kernel_rfl) (fun _ _ _ h => h) (Or.inl ⟨by rfl, ?_⟩) (by assumption) ?_
        rotate_left
        · intro W hSw
          clear hSw
          go_simp
          try with_reducible rfl
        simp only [Act.put, List.setIfInBounds_toArray, List.set_cons_zero, List.set_cons_succ]
        refine wpAnyH_take (i := 31) (oi := { dst := some 102, op := Op.binOp BinOp.eql 3 (Operand.tmp 101) (Operand.const (Value.int IntKind.i64 0)) 3, type := 4, pos := "outright.go:208", after := #[{ on := 30, ground := Ground.data }, { on := 23, ground := Ground.guard }], guard := some (23, true) }) (v := ?_) rfl (by kernel_rfl) (by kernel_rfl) (by kernel_rfl) (fun _ _ _ h => h) (Or.inl ⟨by rfl, ?_⟩) (by assumption) ?_
        rotate_left
        · intro W hSw
          clear hSw
          go_simp
          try with_reducible rfl
        simp only [Act.put, List.setIfInBounds_toArray, List.set_cons_zero, List.set_cons_succ]
        refine wpAnyH_take (i := 32) (oi := { dst := some 103, op := Op.pick (Operand.tmp 94) (Operand.tmp 102) (Operand.const (Value.bool false)), type := 4, pos := "outright.go:208", after := #[{ on := 23, ground := Ground.data }, { on := 31, ground := Ground.data }], guard := none }) (v := ?_) rfl (by kernel_rfl) (by kernel_rfl) (by kernel_rfl) (fun _ _ _ h => h) (Or.inl ⟨by rfl, ?_⟩) (by assumption) ?_
        rotate_left
        · intro W hSw
          clear hSw
          go_simp
          try with_reducible rfl
        simp only [Act.put, List.setIfInBounds_toArray, List.set_cons_zero, List.set_cons_succ]
        refine wpAnyH_take (i := 33) (oi := { dst := some 104, op := Op.move (Operand.tmp 103), type := 4, pos := "outright.go:208", after := #[{ on := 32, ground := Ground.data }, { on := 29, ground := Ground.chain }], guard := none }) (v := ?_) rfl (by kernel_rfl) (by kernel_rfl) (by kernel_rfl) (fun _ _ _ h => h) (Or.inl ⟨by rfl, ?_⟩) (by assumption) ?_
        rotate_left
        · intro W hSw
          clear hSw
          go_simp
          try with_reducible rfl
        simp only [Act.put, List.setIfInBounds_toArray, List.set_cons_zero, List.set_cons_succ]
        refine wpAnyH_take (i := 34) (oi := { dst := some 105, op := Op.move (Operand.tmp 7), type := 22, pos := "outright.go:208", after := #[{ on := 33, ground := Ground.guard }], guard := some (33, true) }) (v := ?_) rfl (by kernel_rfl) (by kernel_rfl) (by kernel_rfl) (fun _ _ _ h => h) (Or.inl ⟨by rfl, ?_⟩) (by assumption) ?_
        rotate_left
        · intro W hSw
          clear hSw
          go_simp
          try with_reducible rfl
        simp only [Act.put, List.setIfInBounds_toArray, List.set_cons_zero, List.set_cons_succ]
        refine wpAnyH_take (i := 36) (oi := { dst := some 107, op := Op.move (Operand.tmp 1), type := 38, pos := "outright.go:208", after := #[{ on := 33, ground := Ground.guard }], guard := some (33, true) }) (v := ?_) rfl (by kernel_rfl) (by kernel_rfl) (by kernel_rfl) (fun _ _ _ h => h) (Or.inl ⟨by rfl, ?_⟩) (by assumption) ?_
        rotate_left
        · intro W hSw
          clear hSw
          go_simp
          try with_reducible rfl
        simp only [Act.put, List.setIfInBounds_toArray, List.set_cons_zero, List.set_cons_succ]
        refine wpAnyH_take (i := 37) (oi := { dst := some 108, op := Op.call { callee := Callee.builtin Builtin.len, args := #[Operand.tmp 107], argTypes := #[38] }, type := 3, pos := "outright.go:208", after := #[{ on := 36, ground := Ground.data }, { on := 33, ground := Ground.guard }], guard := some (33, true) }) (v := ?_) rfl (by kernel_rfl) (by kernel_rfl) (by kernel_rfl) (fun _ _ _ h => h) (Or.inl ⟨by rfl, ?_⟩) (by assumption) ?_
        rotate_left
        · intro W hSw
          clear hSw
          go_simp
          try with_reducible rfl
        simp only [Act.put, List.setIfInBounds_toArray, List.set_cons_zero, List.set_cons_succ]
        refine wpAnyH_ready (rs := [35]) (by kernel_rfl) (by simp) (AllReadyH.cons (o := { dst := some 106, op := Op.call { callee := Callee.value (Operand.func 16), args := #[Operand.tmp 105], argTypes := #[22] }, type := 3, pos := "outright.go:208", after := #[{ on := 34, ground := Ground.data }, { on := 33, ground := Ground.chain }, { on := 33, ground := Ground.guard }], guard := some (33, true) }) rfl (fun K hK => ?_) AllReadyH.nil)
        refine step_callw (by rfl) 16 #[.pointer (some ⟨q, 0, none⟩)] (by go_simp) ?_
        refine (HVA.out _ HPc.out).mono ?_
        rintro z wn ⟨rfl, rfl⟩
        have HPd := Lib.hid (HPc.out.later (Below.refl _ _))
        clear HPc
        refine ⟨_, rfl, hK.out _ _ (KS.out _ HPd.out) (fun hHeld2 => ?_)⟩
        clear hK K hHeld
        have hHeld := hHeld2
        clear hHeld2
        try simp only [Act.put, List.setIfInBounds_toArray, List.set_cons_zero, List.set_cons_succ]
        have HPc := HPd
        clear HPd
        refine wpAnyH_take (i := 38) (oi := { dst := some 109, op := Op.binOp BinOp.eql 3 (Operand.tmp 106) (Operand.tmp 108) 3, type := 4, pos := "outright.go:208", after := #[{ on := 35, ground := Ground.data }, { on := 37, ground := Ground.data }, { on := 33, ground := Ground.guard }], guard := some (33, true) }) (v := ?_) rfl (by kernel_rfl) (by kernel_rfl) (by kernel_rfl) (fun _ _ _ h => h) (Or.inl ⟨by rfl, ?_⟩) (by assumption) ?_
        rotate_left
        · intro W hSw
          clear hSw
          go_simp
          try with_reducible rfl
        simp only [Act.put, List.setIfInBounds_toArray, List.set_cons_zero, List.set_cons_succ]
        refine wpAnyH_take (i := 39) (oi := { dst := some 110, op := Op.pick (Operand.tmp 104) (Operand.tmp 109) (Operand.const (Value.bool false)), type := 4, pos := "outright.go:208", after := #[{ on := 33, ground := Ground.data }, { on := 38, ground := Ground.data }], guard := none }) (v := ?_) rfl (by kernel_rfl) (by kernel_rfl) (by kernel_rfl) (fun _ _ _ h => h) (Or.inl ⟨by rfl, ?_⟩) (by assumption) ?_
        rotate_left
        · intro W hSw
          clear hSw
          go_simp
          try with_reducible rfl
        simp only [Act.put, List.setIfInBounds_toArray, List.set_cons_zero, List.set_cons_succ]
        refine wpAnyH_take (i := 40) (oi := { dst := some 111, op := Op.move (Operand.tmp 110), type := 4, pos := "outright.go:208", after := #[{ on := 39, ground := Ground.data }, { on := 35, ground := Ground.chain }], guard := none }) (v := ?_) rfl (by kernel_rfl) (by kernel_rfl) (by kernel_rfl) (fun _ _ _ h => h) (Or.inl ⟨by rfl, ?_⟩) (by assumption) ?_
        rotate_left
        · intro W hSw
          clear hSw
          go_simp
          try with_reducible rfl
        simp only [Act.put, List.setIfInBounds_toArray, List.set_cons_zero, List.set_cons_succ]
        refine wpAnyH_take (i := 41) (oi := { dst := some 112, op := Op.move (Operand.tmp 11), type := 22, pos := "outright.go:208", after := #[{ on := 40, ground := Ground.guard }], guard := some (40, true) }) (v := ?_) rfl (by kernel_rfl) (by kernel_rfl) (by kernel_rfl) (fun _ _ _ h => h) (Or.inl ⟨by rfl, ?_⟩) (by assumption) ?_
        rotate_left
        · intro W hSw
          clear hSw
          go_simp
          try with_reducible rfl
        simp only [Act.put, List.setIfInBounds_toArray, List.set_cons_zero, List.set_cons_succ]
        refine wpAnyH_take (i := 43) (oi := { dst := some 114, op := Op.move (Operand.tmp 1), type := 38, pos := "outright.go:208", after := #[{ on := 40, ground := Ground.guard }], guard := some (40, true) }) (v := ?_) rfl (by kernel_rfl) (by kernel_rfl) (by kernel_rfl) (fun _ _ _ h => h) (Or.inl ⟨by rfl, ?_⟩) (by assumption) ?_
        rotate_left
        · intro W hSw
          clear hSw
          go_simp
          try with_reducible rfl
        simp only [Act.put, List.setIfInBounds_toArray, List.set_cons_zero, List.set_cons_succ]
        refine wpAnyH_take (i := 44) (oi := { dst := some 115, op := Op.call { callee := Callee.builtin Builtin.len, args := #[Operand.tmp 114], argTypes := #[38] }, type := 3, pos := "outright.go:208", after := #[{ on := 43, ground := Ground.data }, { on := 40, ground := Ground.guard }], guard := some (40, true) }) (v := ?_) rfl (by kernel_rfl) (by kernel_rfl) (by kernel_rfl) (fun _ _ _ h => h) (Or.inl ⟨by rfl, ?_⟩) (by assumption) ?_
        rotate_left
        · intro W hSw
          clear hSw
          go_simp
          try with_reducible rfl
        simp only [Act.put, List.setIfInBounds_toArray, List.set_cons_zero, List.set_cons_succ]
        refine wpAnyH_take (i := 45) (oi := { dst := some 116, op := Op.binOp BinOp.sub 3 (Operand.tmp 115) (Operand.const (Value.int IntKind.i64 1)) 3, type := 3, pos := "outright.go:208", after := #[{ on := 44, ground := Ground.data }, { on := 40, ground := Ground.guard }], guard := some (40, true) }) (v := ?_) rfl (by kernel_rfl) (by kernel_rfl) (by kernel_rfl) (fun _ _ _ h => h) (Or.inl ⟨by rfl, ?_⟩) (by assumption) ?_
        rotate_left
        · intro W hSw
          clear hSw
          go_simp
          try with_reducible rfl
        simp only [Act.put, List.setIfInBounds_toArray, List.set_cons_zero, List.set_cons_succ]
        refine wpAnyH_ready (rs := [42]) (by kernel_rfl) (by simp) (AllReadyH.cons (o := { dst := some 113, op := Op.call { callee := Callee.value (Operand.func 16), args := #[Operand.tmp 112], argTypes := #[22] }, type := 3, pos := "outright.go:208", after := #[{ on := 41, ground := Ground.data }, { on := 40, ground := Ground.chain }, { on := 40, ground := Ground.guard }], guard := some (40, true) }) rfl (fun K hK => ?_) AllReadyH.nil)
        refine step_callw (by rfl) 16 #[.pointer (some ⟨q2, 0, none⟩)] (by go_simp) ?_
        refine (HVB.out _ HPc.out).mono ?_
        rintro z wn ⟨rfl, rfl⟩
        have HPd := Lib.hid (HPc.out.later (Below.refl _ _))
        clear HPc
        refine ⟨_, rfl, hK.out _ _ (KS.out _ HPd.out) (fun hHeld2 => ?_)⟩
        clear hK K hHeld
        have hHeld := hHeld2
        clear hHeld2
        try simp only [Act.put, List.setIfInBounds_toArray, List.set_cons_zero, List.set_cons_succ]
        have HPc := HPd
        clear HPd
        refine wpAnyH_take (i := 46) (oi := { dst := some 117, op := Op.binOp BinOp.eql 3 (Operand.tmp 113) (Operand.tmp 116) 3, type := 4, pos := "outright.go:208", after := #[{ on := 42, ground := Ground.data }, { on := 45, ground := Ground.data }, { on := 40, ground := Ground.guard }], guard := some (40, true) }) (v := ?_) rfl (by kernel_rfl) (by kernel_rfl) (by kernel_rfl) (fun _ _ _ h => h) (Or.inl ⟨by rfl, ?_⟩) (by assumption) ?_
        rotate_left
        · intro W hSw
          clear hSw
          go_simp
          try with_reducible rfl
        simp only [Act.put, List.setIfInBounds_toArray, List.set_cons_zero, List.set_cons_succ]
        refine wpAnyH_take (i := 47) (oi := { dst := some 118, op := Op.pick (Operand.tmp 111) (Operand.tmp 117) (Operand.const (Value.bool false)), type := 4, pos := "outright.go:208", after := #[{ on := 40, ground := Ground.data }, { on := 46, ground := Ground.data }], guard := none }) (v := ?_) rfl (by kernel_rfl) (by kernel_rfl) (by kernel_rfl) (fun _ _ _ h => h) (Or.inl ⟨by rfl, ?_⟩) (by assumption) ?_
        rotate_left
        · intro W hSw
          clear hSw
          go_simp
          try with_reducible rfl
        simp only [Act.put, List.setIfInBounds_toArray, List.set_cons_zero, List.set_cons_succ]
        refine wpAnyH_take (i := 48) (oi := { dst := some 6, op := Op.assign (Operand.tmp 118), type := 4, pos := "outright.go:208", after := #[{ on := 47, ground := Ground.data }, { on := 42, ground := Ground.chain }, { on := 0, ground := Ground.phase }, { on := 1, ground := Ground.phase }, { on := 2, ground := Ground.phase }, { on := 3, ground := Ground.phase }, { on := 4, ground := Ground.phase }, { on := 5, ground := Ground.phase }, { on := 6, ground := Ground.phase }, { on := 7, ground := Ground.phase }, { on := 8, ground := Ground.phase }, { on := 9, ground := Ground.phase }, { on := 10, ground := Ground.phase }, { on := 11, ground := Ground.phase }, { on := 12, ground := Ground.phase }, { on := 13, ground := Ground.phase }, { on := 14, ground := Ground.phase }, { on := 15, ground := Ground.phase }, { on := 16, ground := Ground.phase }, { on := 17, ground := Ground.phase }, { on := 18, ground := Ground.phase }, { on := 19, ground := Ground.phase }, { on := 20, ground := Ground.phase }, { on := 21, ground := Ground.phase }, { on := 22, ground := Ground.phase }, { on := 23, ground := Ground.phase }, { on := 24, ground := Ground.phase }, { on := 25, ground := Ground.phase }, { on := 26, ground := Ground.phase }, { on := 27, ground := Ground.phase }, { on := 28, ground := Ground.phase }, { on := 29, ground := Ground.phase }, { on := 30, ground := Ground.phase }, { on := 31, ground := Ground.phase }, { on := 32, ground := Ground.phase }, { on := 33, ground := Ground.phase }, { on := 34, ground := Ground.phase }, { on := 35, ground := Ground.phase }, { on := 36, ground := Ground.phase }, { on := 37, ground := Ground.phase }, { on := 38, ground := Ground.phase }, { on := 39, ground := Ground.phase }, { on := 40, ground := Ground.phase }, { on := 41, ground := Ground.phase }, { on := 42, ground := Ground.phase }, { on := 43, ground := Ground.phase }, { on := 44, ground := Ground.phase }, { on := 45, ground := Ground.phase }, { on := 46, ground := Ground.phase }, { on := 47, ground := Ground.phase }], guard := none }) (v := ?_) rfl (by kernel_rfl) (by kernel_rfl) (by kernel_rfl) (fun _ _ _ h => h) (Or.inl ⟨by rfl, ?_⟩) (by assumption) ?_
        rotate_left
        · intro W hSw
          clear hSw
          go_simp
          try with_reducible rfl
        simp only [Act.put, List.setIfInBounds_toArray, List.set_cons_zero, List.set_cons_succ]
        refine wpAnyH_done (by kernel_rfl) (NoPanic.normal ?_) _
        clear hHeld
        go_wp2
        go_ret
        exact ⟨rfl, HPc.out.lo⟩


set_option maxRecDepth 100000 in
theorem lifted (os : Os) (started : os.Started) (H : Type) (enc : TypeId × Value → H) :
    ReturnsInHanded {} Try.checked os 6 .any (Rows.chainCutSpec.pre6 enc Try.prog Try.f6 Rows.chainCutRow.domain false) (Rows.chainCutSpec.post enc Try.prog Try.f6 false true false false) := by
  refine returnsInHanded_of_change_sized (C := Try.checked) own started (by kernel_rfl) Try.func6
    (ChangeSpec.witness6 (enc := enc) (C := Try.checked) false ⟨#[], #[.agg #[.int .i64 0, .int .i64 0, .int .i64 0, .int .i64 0, .int .i64 0, .int .i64 0, .int .i64 0, .int .i64 0], .slice none 0 0, .int .i64 0], []⟩ 8 (by kernel_rfl) (by kernel_rfl) (by kernel_rfl) (by kernel_rfl)) ?_
  intro W base args ds gs before hval0 hW _ hsz _
  have hval : ∀ (j : Nat) t v, Try.f6.params[j]? = some t → args[j]? = some v → Value.okWide Try.prog W .any base t v := hval0
  have hW' := hW
  obtain ⟨p, q, hA0, hV, hbef, _, _⟩ := hW
  have hA : DataW.TrodAll enc Try.prog W 0 (fun _ => true) true Try.f6.params.toList args.toList ds p := hA0
  rw [Try.params6] at hA hval
  obtain ⟨v0, vs0, d0, ds0, p0, q0, hargs, rfl, rfl, h0, r0⟩ := trodAll_cons hA
  obtain ⟨v1, vs1, d1, ds1, p1, q1, rfl, rfl, rfl, h1, r1⟩ := trodAll_cons r0
  obtain ⟨v2, vs2, d2, ds2, p2, q2, rfl, rfl, rfl, h2, r2⟩ := trodAll_cons r1
  obtain ⟨rfl, rfl, rfl⟩ := trodAll_nil r2
  obtain rfl : args = #[v0, v1, v2] := by cases args; simp_all
  obtain ⟨rfl, rfl⟩ := trodVars_none hV
  obtain ⟨a0, rfl⟩ := open_conf (hval 0 43 v0 rfl rfl) h0
  obtain ⟨A1, n1, c1, L1, rfl, st1, ok1, mx1, _, _⟩ := open_vers (hval 1 38 v1 rfl rfl) h1
  obtain ⟨a2, rfl, _, _, w2⟩ := open_int Try.underlying3 (hval 2 3 v2 rfl rfl) h2
  refine (walk a0 A1 n1 c1 L1 a2 W st1 ok1 mx1).mono fun e W' ⟨he, hb⟩ => ?_
  subst he
  exact ⟨_, rfl, law_post laidOut (of_decide_eq_true (by kernel_rfl)) rfl Try.underlying4 rfl rfl hW' hb⟩

theorem over : Rows.chainCutRow.holds Try.pinned (OpenSpec.ofChange Rows.chainCutSpec) :=
  OpenClaim.holds_of_wide 6 Try.f6 rfl rfl rfl rfl rfl rfl rfl ⟨rfl, rfl, rfl, rfl, rfl⟩ rfl rfl rfl rfl rfl (by kernel_rfl) Try.func6 (by kernel_rfl)
    (of_decide_eq_true (by kernel_rfl)) (by unfold Func.isWrapper; first | (rw [if_pos (by decide +kernel)]; kernel_rfl) | (rw [if_neg (by decide +kernel)]; exact ⟨rfl, rfl⟩))
    (fun os started H enc _ => lifted os started H enc)

end Go.Proofs.Ytbncpfkoeahhpaa.chainCut
namespace Go.Proofs.Ytbncpfkoeahhpaa
theorem chainCut_holds : Rows.ChainCutSaid := chainCut.over
end Go.Proofs.Ytbncpfkoeahhpaa
