/- Two models that tell the same. -/
import Derived.Test.YtoinjnocopejjaaMO2
import Derived.Test.YtoinjnocopejjaaKA
import Derived.Test.YtoinjnocopejjaaNZ
import Derived.StillTailTactics
namespace Go.Proofs.Ytoinjnocopejjaa
open Go.ChangeShapes Go.WideShapes Go.ChangeAt Go.RowKit Go.Maps
set_option linter.unusedVariables false
set_option linter.unusedSimpArgs false
theorem ne26 (v : Ver) (w : World) : (binOp BinOp.neq 26 (.agg #[.int .i64 v.w, .int .i64 v.ts, .bool v.tomb, .string v.val]) (.agg #[.int .i64 v.w, .int .i64 v.ts, .bool v.tomb, .string v.val])).run Try.prog w = .ok (.bool false) w := by
  go_simp
theorem ne9 (k : ByteArray) (w : World) : (binOp BinOp.neq 9 (.string k) (.string k)).run Try.prog w = .ok (.bool false) w := by
  go_simp
set_option maxRecDepth 100000 in
set_option maxHeartbeats 1600000 in
theorem same_models (B p q : Nat) (own : Nat → Nat) (s t : MS) (w : World) (h1 : MQ_ w B own p s) (h2 : MQ_ w B own q t) (hr : t.rows = s.rows) (ha : actN t.txns = actN s.txns) (hc : t.clock = s.clock) (hf : t.floor = s.floor) (hn1 : s.txns.length ≤ 100000) (hn2 : t.txns.length ≤ 100000) : Calls Try.prog 38 #[.pointer (some ⟨p, 0, none⟩), .pointer (some ⟨q, 0, none⟩)] w fun e w' => e = .returned (.bool true) ∧ Below w.heap.size w w' := by
  have HQ1 := Lib.hid h1
  have HQ2 := Lib.hid h2
  have HRW := Lib.hid hr
  have HAC := Lib.hid ha
  have HCK := Lib.hid hc
  have HFL := Lib.hid hf
  have HT1 := Lib.hid hn1
  have HT2 := Lib.hid hn2
  have HKZ : Hid (∀ q ∈ s.rows, q.1.size ≤ 64) := Lib.hid h1.ok.ksz
  have HRL : Hid (s.rows.length ≤ 64) := Lib.hid (by have := h1.ok.keys; have := may_lo h1.ok.may; omega)
  have HGR : Hid (∀ k, getR t k = getR s k) := Lib.hid (fun k => by unfold getR; rw [hr])
  have HDP : Hid (∀ k, (getR s k).1.length ≤ 8) := Lib.hid (fun k => by
    have h := (h1.ok.get k).1
    have hm := may_lo h1.ok.may
    unfold retR at h
    split at h <;> omega)
  clear h1 h2 hr ha hc hf hn1 hn2
  go_enter Try.func38, Try.ntmps38
  go_wp2_with fail
  refine (mq_keys HQ1.out).mono ?_
  rintro e w1 ⟨vk, rfl, hk, hb⟩
  have HK := Lib.hid hk
  have HB := Lib.hid hb
  replace HQ1 := Lib.hid (HQ1.out.later hb)
  replace HQ2 := Lib.hid (HQ2.out.later hb)
  clear hk hb
  go_wp2_with fail
  refine (mq_keys HQ2.out).mono ?_
  rintro e w2 ⟨vo, rfl, ho, hb⟩
  rw [HRW.out] at ho
  have HO := Lib.hid (ho.base HB.out.size)
  replace HK := Lib.hid (Ow.later HK.out hb)
  replace HB := Lib.hid (stepB HB.out hb)
  replace HQ1 := Lib.hid (HQ1.out.later hb)
  replace HQ2 := Lib.hid (HQ2.out.later hb)
  clear ho hb
  obtain ⟨n, hn⟩ : ∃ n, (s.rows.map (·.1)).length = n := ⟨_, rfl⟩
  have HN : Hid (s.rows.length = n) := Lib.hid (by rw [← hn, List.length_map])
  rw [hn] at HK HO
  clear hn
  obtain ⟨A, c, rfl, hsl⟩ := Ow.sl HK.out
  obtain ⟨A', c', rfl, hsl'⟩ := Ow.sl HO.out
  have HSL := Lib.hid hsl
  have HSL' := Lib.hid hsl'
  clear hsl hsl' HK HO
  have dn : ((n : Int) != (n : Int)) = false := bne_self_eq_false _
  have HB2 : Hid (Below w2.heap.size w2 w2) := Lib.hid (Below.refl _ _)
  go_wp2_with fail
  refine (mq_retained HQ1.out).mono ?_
  rintro e w3 ⟨rfl, hb⟩
  replace HB := Lib.hid (stepB HB.out hb)
  replace HB2 := Lib.hid (stepB HB2.out hb)
  replace HQ1 := Lib.hid (HQ1.out.later hb)
  replace HQ2 := Lib.hid (HQ2.out.later hb)
  clear hb
  go_wp2_with fail
  refine (mq_retained HQ2.out).mono ?_
  rintro e w4 ⟨rfl, hb⟩
  replace HB := Lib.hid (stepB HB.out hb)
  replace HB2 := Lib.hid (stepB HB2.out hb)
  replace HQ1 := Lib.hid (HQ1.out.later hb)
  replace HQ2 := Lib.hid (HQ2.out.later hb)
  clear hb
  rw [HRW.out]
  go_wp2_with fail
  refine (mq_active HQ1.out HT1.out).mono ?_
  rintro e w5 ⟨rfl, hb⟩
  replace HB := Lib.hid (stepB HB.out hb)
  replace HB2 := Lib.hid (stepB HB2.out hb)
  replace HQ1 := Lib.hid (HQ1.out.later hb)
  replace HQ2 := Lib.hid (HQ2.out.later hb)
  clear hb
  go_wp2_with fail
  refine (mq_active HQ2.out HT2.out).mono ?_
  rintro e w6 ⟨rfl, hb⟩
  replace HB := Lib.hid (stepB HB.out hb)
  replace HB2 := Lib.hid (stepB HB2.out hb)
  replace HQ1 := Lib.hid (HQ1.out.later hb)
  replace HQ2 := Lib.hid (HQ2.out.later hb)
  clear hb
  rw [HAC.out]
  go_wp2_with fail
  refine (mq_clock HQ1.out).mono ?_
  rintro e w6' ⟨rfl, rfl⟩
  go_wp2_with fail
  refine (mq_clock HQ2.out).mono ?_
  rintro e w6' ⟨rfl, rfl⟩
  rw [HCK.out]
  go_wp2_with fail
  refine (mq_floor HQ1.out).mono ?_
  rintro e w6' ⟨rfl, rfl⟩
  go_wp2_with fail
  refine (mq_floor HQ2.out).mono ?_
  rintro e w6' ⟨rfl, rfl⟩
  rw [HFL.out]
  have dr : (((sumK retR s.rows : Nat) : Int) != ((sumK retR s.rows : Nat) : Int)) = false := bne_self_eq_false _
  have da : (((actN s.txns : Nat) : Int) != ((actN s.txns : Nat) : Int)) = false := bne_self_eq_false _
  have dc : (s.clock != s.clock) = false := bne_self_eq_false _
  have df : (s.floor != s.floor) = false := bne_self_eq_false _
  go_upto_region 4 with (fail)
  clear dr da dc df dn
  go_wp2
  go_loopw [7] (fun i W => ∃ k : Nat, k ≤ n ∧ i = .int .i64 k ∧ Below w2.heap.size w2 W ∧ Below w.heap.size w W ∧ MQ_ W B own p s ∧ MQ_ W B own q t) (fun i _ => n - (intOf i).toNat)
  case atStart => exact ⟨0, Nat.zero_le _, rfl, HB2.out, HB.out, HQ1.out, HQ2.out⟩
  case round =>
    obtain ⟨k, hk, rfl, hb2, hb, hq1, hq2⟩ := hrel
    clear HB HB2 HQ1 HQ2
    have HB := Lib.hid hb
    have HB2 := Lib.hid hb2
    have HQ1 := Lib.hid hq1
    have HQ2 := Lib.hid hq2
    clear hb hb2 hq1 hq2
    by_cases hlt : k < n
    · have d2 : decide ((k : Int) < (n : Int)) = true := decide_eq_true (by omega)
      have wk : IntKind.i64.wrap ((k : Int) + 1) = (k : Int) + 1 := IntWalk.i64_in _ (by have := HRL.out; have := HN.out; omega)
      have wk2 : wrap64 ((k : Int) + 1) = (k : Int) + 1 := by have := HRL.out; have := HN.out; unfold wrap64; omega
      have hrl : k < s.rows.length := by rw [HN.out]; exact hlt
      have hkk : (s.rows.map (·.1))[k]? = some (s.rows[k]).1 := by rw [List.getElem?_map, List.getElem?_eq_getElem hrl]; rfl
      have hks : (s.rows[k]).1.size ≤ maxLen := Nat.le_trans (HKZ.out _ (List.getElem_mem hrl)) (by decide)
      generalize (s.rows[k]).1 = kk at *
      obtain ⟨g, off, rfl, hg, hc⟩ := HSL.out.rd.2 (by omega)
      obtain ⟨g', off', rfl, hg', hc'⟩ := HSL'.out.rd.2 (by omega)
      have yk := hc k _ hkk
      have yo := hc' k _ hkk
      have i1 := idx40 g off n c k (k : Int) rfl hlt
      have i2 := idx40 g' off' n c' k (k : Int) rfl hlt
      have YK := Lib.hid (And.intro hg yk)
      have YO := Lib.hid (And.intro hg' yo)
      have hv1 : ∀ W, MQ_ W B own p s → Calls Try.prog 20 #[.pointer (some ⟨p, 0, none⟩), .string kk] W (VsEnd (getR s kk).1 W) := fun W h => mq_versions h kk hks
      have hv2 : ∀ W, MQ_ W B own q t → Calls Try.prog 20 #[.pointer (some ⟨q, 0, none⟩), .string kk] W (VsEnd (getR s kk).1 W) := fun W h => by have := mq_versions h kk hks; rw [HGR.out] at this; exact this
      have hi1 : ∀ W, MQ_ W B own p s → Calls Try.prog 16 #[.pointer (some ⟨p, 0, none⟩), .string kk] W (RdEnd (getR s kk).2 (decide ((getR s kk).2.w > 0)) W) := fun W h => mq_intent h kk hks
      have hi2 : ∀ W, MQ_ W B own q t → Calls Try.prog 16 #[.pointer (some ⟨q, 0, none⟩), .string kk] W (RdEnd (getR s kk).2 (decide ((getR s kk).2.w > 0)) W) := fun W h => by have := mq_intent h kk hks; rw [HGR.out] at this; exact this
      have hdp := HDP.out kk
      generalize decide ((getR s kk).2.w > 0) = bi at *
      generalize (getR s kk).2 = vI at *
      generalize (getR s kk).1 = vL at *
      obtain ⟨vw, vts, vtm, vv⟩ := vI
      have HV1 := Lib.hid hv1
      have HV2 := Lib.hid hv2
      have HI1 := Lib.hid hi1
      have HI2 := Lib.hid hi2
      have HD8 := Lib.hid hdp
      have HLT := Lib.hid hlt
      clear hrl hkk hks hc hc' hg hg' yk yo hv1 hv2 hi1 hi2 hdp
      have y1 := (HB2.out.cell (p := ⟨g, off + k, none⟩) YK.out.1).trans YK.out.2
      go_wp2_with fail
      refine (HI1.out _ HQ1.out).mono ?_
      rintro e w7 ⟨rfl, hb⟩
      unfold Ver.agg
      have hb8 : Below wr.heap.size wr (w7.alloc (.cells #[.int .i64 vw, .int .i64 vts, .bool vtm, .string vv] 26)) := hb.alloc hb.size _
      have HB8 : Hid (Below w.heap.size w (w7.alloc (.cells #[.int .i64 vw, .int .i64 vts, .bool vtm, .string vv] 26))) := Lib.hid (stepB HB.out hb8)
      have HB28 : Hid (Below w2.heap.size w2 (w7.alloc (.cells #[.int .i64 vw, .int .i64 vts, .bool vtm, .string vv] 26))) := Lib.hid (stepB HB2.out hb8)
      have HQ18 := Lib.hid (HQ1.out.later hb8)
      have HQ28 := Lib.hid (HQ2.out.later hb8)
      have K8 : Hid (Blk (w7.alloc (.cells #[.int .i64 vw, .int .i64 vts, .bool vtm, .string vv] 26)) w7.heap.size #[.int .i64 vw, .int .i64 vts, .bool vtm, .string vv] 26) := Lib.hid (Blk.new w7 _ 26)
      clear hb hb8 HB HB2 HQ1 HQ2 HI1
      go_upto_region 8 with (fail)
      clear y1
      generalize w7.alloc (.cells #[.int .i64 vw, .int .i64 vts, .bool vtm, .string vv] 26) = w8 at *
      generalize w7.heap.size = b8 at *
      have y1 := (HB28.out.cell (p := ⟨g, off + k, none⟩) YK.out.1).trans YK.out.2
      go_wp2_with fail
      refine (HI2.out _ HQ28.out).mono ?_
      rintro e w9 ⟨rfl, hb⟩
      unfold Ver.agg
      have hb8 : Below w8.heap.size w8 (w9.alloc (.cells #[.int .i64 vw, .int .i64 vts, .bool vtm, .string vv] 26)) := hb.alloc hb.size _
      have HB : Hid (Below w.heap.size w (w9.alloc (.cells #[.int .i64 vw, .int .i64 vts, .bool vtm, .string vv] 26))) := Lib.hid (stepB HB8.out hb8)
      have HB2 : Hid (Below w2.heap.size w2 (w9.alloc (.cells #[.int .i64 vw, .int .i64 vts, .bool vtm, .string vv] 26))) := Lib.hid (stepB HB28.out hb8)
      have HQ1 := Lib.hid (HQ18.out.later hb8)
      have HQ2 := Lib.hid (HQ28.out.later hb8)
      replace K8 := Lib.hid (K8.out.later hb8)
      have K10 : Hid (Blk (w9.alloc (.cells #[.int .i64 vw, .int .i64 vts, .bool vtm, .string vv] 26)) w9.heap.size #[.int .i64 vw, .int .i64 vts, .bool vtm, .string vv] 26) := Lib.hid (Blk.new w9 _ 26)
      clear hb hb8 HB8 HB28 HQ18 HQ28 HI2
      go_upto_region 9 with (fail)
      clear y1
      generalize w9.alloc (.cells #[.int .i64 vw, .int .i64 vts, .bool vtm, .string vv] 26) = w10 at *
      generalize w9.heap.size = b10 at *
      have e9 := tl_eq (rfl : kk = kk)
      have e9' : (kk.toList != kk.toList) = false := by simp
      have eb : (bi == bi) = true := beq_self_eq_true _
      have eb' : (bi != bi) = false := bne_self_eq_false _
      refine wp_region_noPanic ?_
      obtain ⟨W0, rfl⟩ : ∃ W0 : World, W0 = w10 := ⟨_, rfl⟩
      refine wp_region_held_drew (S := fun W => Below w2.heap.size w2 W ∧ Blk W b8 #[.int .i64 vw, .int .i64 vts, .bool vtm, .string vv] 26 ∧ Blk W b10 #[.int .i64 vw, .int .i64 vts, .bool vtm, .string vv] 26) (by kernel_rfl) (⟨Below.drew HB2.out, K8.out, K10.out⟩) (fun hHeld => ?_)
      replace HB : Hid (Below w.heap.size w (World.drew W0)) := Lib.hid (Below.drew HB.out)
      replace HB2 : Hid (Below w2.heap.size w2 (World.drew W0)) := Lib.hid (Below.drew HB2.out)
      replace HQ1 := Lib.hid (HQ1.out.later (Below.drew (Below.refl _ _)))
      replace HQ2 := Lib.hid (HQ2.out.later (Below.drew (Below.refl _ _)))
      replace K8 : Hid (Blk (World.drew W0) b8 #[.int .i64 vw, .int .i64 vts, .bool vtm, .string vv] 26) := Lib.hid K8.out
      replace K10 : Hid (Blk (World.drew W0) b10 #[.int .i64 vw, .int .i64 vts, .bool vtm, .string vv] 26) := Lib.hid K10.out
      generalize World.drew W0 = Wd at *
      refine wpAnyH_take (i := 0) (oi := { dst := some 73, op := Op.move (Operand.tmp 5), type := 40, pos := "outright.go:322", after := #[], guard := none }) (v := ?_) rfl (by kernel_rfl) (by kernel_rfl) (by kernel_rfl) (fun _ _ _ h => h) (Or.inl ⟨by rfl, ?_⟩) (by assumption) ?_
      rotate_left
      · intro W hSw
        clear hSw
        go_simp
        try with_reducible rfl
      simp only [Act.put, List.setIfInBounds_toArray, List.set_cons_zero, List.set_cons_succ]
      refine wpAnyH_take (i := 1) (oi := { dst := some 74, op := Op.move (Operand.tmp 7), type := 3, pos := "outright.go:322", after := #[], guard := none }) (v := ?_) rfl (by kernel_rfl) (by kernel_rfl) (by kernel_rfl) (fun _ _ _ h => h) (Or.inl ⟨by rfl, ?_⟩) (by assumption) ?_
      rotate_left
      · intro W hSw
        clear hSw
        go_simp
        try with_reducible rfl
      simp only [Act.put, List.setIfInBounds_toArray, List.set_cons_zero, List.set_cons_succ]
      refine wpAnyH_take (i := 2) (oi := { dst := some 75, op := Op.indexAddr 40 (Operand.tmp 73) (Operand.tmp 74), type := 0, pos := "outright.go:322", after := #[{ on := 0, ground := Ground.data }, { on := 1, ground := Ground.data }], guard := none }) (v := ?_) rfl (by kernel_rfl) (by kernel_rfl) (by kernel_rfl) (fun _ _ _ h => h) (Or.inl ⟨by rfl, ?_⟩) (by assumption) ?_
      rotate_left
      · intro W hSw
        clear hSw
        go_simp
        try with_reducible rfl
      simp only [Act.put, List.setIfInBounds_toArray, List.set_cons_zero, List.set_cons_succ]
      refine wpAnyH_take (i := 3) (oi := { dst := some 76, op := Op.load 9 (Operand.tmp 75), type := 9, pos := "outright.go:322", after := #[{ on := 2, ground := Ground.data }], guard := none }) (v := ?_) rfl (by kernel_rfl) (by kernel_rfl) (by kernel_rfl) (fun _ _ _ h => h) (Or.inl ⟨by rfl, ?_⟩) (by assumption) ?_
      rotate_left
      · intro W hSw
        have yk := (hSw.1.cell (p := ⟨g, off + k, none⟩) YK.out.1).trans YK.out.2
        unfold sE at yk
        clear hSw
        go_simp
        try with_reducible rfl
      simp only [Act.put, List.setIfInBounds_toArray, List.set_cons_zero, List.set_cons_succ]
      refine wpAnyH_take (i := 4) (oi := { dst := some 77, op := Op.move (Operand.tmp 6), type := 40, pos := "outright.go:322", after := #[], guard := none }) (v := ?_) rfl (by kernel_rfl) (by kernel_rfl) (by kernel_rfl) (fun _ _ _ h => h) (Or.inl ⟨by rfl, ?_⟩) (by assumption) ?_
      rotate_left
      · intro W hSw
        clear hSw
        go_simp
        try with_reducible rfl
      simp only [Act.put, List.setIfInBounds_toArray, List.set_cons_zero, List.set_cons_succ]
      refine wpAnyH_take (i := 5) (oi := { dst := some 78, op := Op.move (Operand.tmp 7), type := 3, pos := "outright.go:322", after := #[], guard := none }) (v := ?_) rfl (by kernel_rfl) (by kernel_rfl) (by kernel_rfl) (fun _ _ _ h => h) (Or.inl ⟨by rfl, ?_⟩) (by assumption) ?_
      rotate_left
      · intro W hSw
        clear hSw
        go_simp
        try with_reducible rfl
      simp only [Act.put, List.setIfInBounds_toArray, List.set_cons_zero, List.set_cons_succ]
      refine wpAnyH_take (i := 6) (oi := { dst := some 79, op := Op.indexAddr 40 (Operand.tmp 77) (Operand.tmp 78), type := 0, pos := "outright.go:322", after := #[{ on := 4, ground := Ground.data }, { on := 5, ground := Ground.data }], guard := none }) (v := ?_) rfl (by kernel_rfl) (by kernel_rfl) (by kernel_rfl) (fun _ _ _ h => h) (Or.inl ⟨by rfl, ?_⟩) (by assumption) ?_
      rotate_left
      · intro W hSw
        clear hSw
        go_simp
        try with_reducible rfl
      simp only [Act.put, List.setIfInBounds_toArray, List.set_cons_zero, List.set_cons_succ]
      refine wpAnyH_take (i := 7) (oi := { dst := some 80, op := Op.load 9 (Operand.tmp 79), type := 9, pos := "outright.go:322", after := #[{ on := 6, ground := Ground.data }], guard := none }) (v := ?_) rfl (by kernel_rfl) (by kernel_rfl) (by kernel_rfl) (fun _ _ _ h => h) (Or.inl ⟨by rfl, ?_⟩) (by assumption) ?_
      rotate_left
      · intro W hSw
        have yk := (hSw.1.cell (p := ⟨g', off' + k, none⟩) YO.out.1).trans YO.out.2
        unfold sE at yk
        clear hSw
        go_simp
        try with_reducible rfl
      simp only [Act.put, List.setIfInBounds_toArray, List.set_cons_zero, List.set_cons_succ]
      refine wpAnyH_take (i := 8) (oi := { dst := some 81, op := Op.binOp BinOp.neq 9 (Operand.tmp 76) (Operand.tmp 80) 9, type := 4, pos := "outright.go:322", after := #[{ on := 3, ground := Ground.data }, { on := 7, ground := Ground.data }], guard := none }) (v := ?_) rfl (by kernel_rfl) (by kernel_rfl) (by kernel_rfl) (fun _ _ _ h => h) (Or.inl ⟨by rfl, ?_⟩) (by assumption) ?_
      rotate_left
      · intro W hSw
        have en := ne9 kk
        clear hSw
        go_simp
        try with_reducible rfl
      simp only [Act.put, List.setIfInBounds_toArray, List.set_cons_zero, List.set_cons_succ]
      refine wpAnyH_take (i := 9) (oi := { dst := some 82, op := Op.move (Operand.tmp 81), type := 4, pos := "outright.go:322", after := #[{ on := 8, ground := Ground.data }], guard := none }) (v := ?_) rfl (by kernel_rfl) (by kernel_rfl) (by kernel_rfl) (fun _ _ _ h => h) (Or.inl ⟨by rfl, ?_⟩) (by assumption) ?_
      rotate_left
      · intro W hSw
        clear hSw
        go_simp
        try with_reducible rfl
      simp only [Act.put, List.setIfInBounds_toArray, List.set_cons_zero, List.set_cons_succ]
      refine wpAnyH_take (i := 10) (oi := { dst := some 83, op := Op.load 26 (Operand.tmp 8), type := 26, pos := "outright.go:322", after := #[{ on := 9, ground := Ground.guard }], guard := some (9, false) }) (v := ?_) rfl (by kernel_rfl) (by kernel_rfl) (by kernel_rfl) (fun _ _ _ h => h) (Or.inl ⟨by rfl, ?_⟩) (by assumption) ?_
      rotate_left
      · intro W hSw
        have q0 := hSw.2.1.cell 0
        have q1 := hSw.2.1.cell 1
        have q2 := hSw.2.1.cell 2
        have q3 := hSw.2.1.cell 3
        simp only [List.getElem?_toArray, List.getElem?_cons_zero, List.getElem?_cons_succ] at q0 q1 q2 q3
        clear hSw
        go_simp
        try with_reducible rfl
      simp only [Act.put, List.setIfInBounds_toArray, List.set_cons_zero, List.set_cons_succ]
      refine wpAnyH_take (i := 11) (oi := { dst := some 84, op := Op.load 26 (Operand.tmp 10), type := 26, pos := "outright.go:322", after := #[{ on := 9, ground := Ground.guard }], guard := some (9, false) }) (v := ?_) rfl (by kernel_rfl) (by kernel_rfl) (by kernel_rfl) (fun _ _ _ h => h) (Or.inl ⟨by rfl, ?_⟩) (by assumption) ?_
      rotate_left
      · intro W hSw
        have q0 := hSw.2.2.cell 0
        have q1 := hSw.2.2.cell 1
        have q2 := hSw.2.2.cell 2
        have q3 := hSw.2.2.cell 3
        simp only [List.getElem?_toArray, List.getElem?_cons_zero, List.getElem?_cons_succ] at q0 q1 q2 q3
        clear hSw
        go_simp
        try with_reducible rfl
      simp only [Act.put, List.setIfInBounds_toArray, List.set_cons_zero, List.set_cons_succ]
      refine wpAnyH_take (i := 12) (oi := { dst := some 85, op := Op.binOp BinOp.neq 26 (Operand.tmp 83) (Operand.tmp 84) 26, type := 4, pos := "outright.go:322", after := #[{ on := 10, ground := Ground.data }, { on := 11, ground := Ground.data }, { on := 9, ground := Ground.guard }], guard := some (9, false) }) (v := ?_) rfl (by kernel_rfl) (by kernel_rfl) (by kernel_rfl) (fun _ _ _ h => h) (Or.inl ⟨by rfl, ?_⟩) (by assumption) ?_
      rotate_left
      · intro W hSw
        have en := ne26 ⟨vw, vts, vtm, vv⟩
        clear hSw
        go_simp
        try with_reducible rfl
      simp only [Act.put, List.setIfInBounds_toArray, List.set_cons_zero, List.set_cons_succ]
      refine wpAnyH_take (i := 13) (oi := { dst := some 86, op := Op.pick (Operand.tmp 82) (Operand.const (Value.bool true)) (Operand.tmp 85), type := 4, pos := "outright.go:322", after := #[{ on := 9, ground := Ground.data }, { on := 12, ground := Ground.data }], guard := none }) (v := ?_) rfl (by kernel_rfl) (by kernel_rfl) (by kernel_rfl) (fun _ _ _ h => h) (Or.inl ⟨by rfl, ?_⟩) (by assumption) ?_
      rotate_left
      · intro W hSw
        clear hSw
        go_simp
        try with_reducible rfl
      simp only [Act.put, List.setIfInBounds_toArray, List.set_cons_zero, List.set_cons_succ]
      refine wpAnyH_take (i := 14) (oi := { dst := some 87, op := Op.move (Operand.tmp 86), type := 4, pos := "outright.go:322", after := #[{ on := 13, ground := Ground.data }, { on := 9, ground := Ground.chain }], guard := none }) (v := ?_) rfl (by kernel_rfl) (by kernel_rfl) (by kernel_rfl) (fun _ _ _ h => h) (Or.inl ⟨by rfl, ?_⟩) (by assumption) ?_
      rotate_left
      · intro W hSw
        clear hSw
        go_simp
        try with_reducible rfl
      simp only [Act.put, List.setIfInBounds_toArray, List.set_cons_zero, List.set_cons_succ]
      refine wpAnyH_take (i := 15) (oi := { dst := some 88, op := Op.move (Operand.tmp 9), type := 4, pos := "outright.go:322", after := #[{ on := 14, ground := Ground.guard }], guard := some (14, false) }) (v := ?_) rfl (by kernel_rfl) (by kernel_rfl) (by kernel_rfl) (fun _ _ _ h => h) (Or.inl ⟨by rfl, ?_⟩) (by assumption) ?_
      rotate_left
      · intro W hSw
        clear hSw
        go_simp
        try with_reducible rfl
      simp only [Act.put, List.setIfInBounds_toArray, List.set_cons_zero, List.set_cons_succ]
      refine wpAnyH_take (i := 16) (oi := { dst := some 89, op := Op.move (Operand.tmp 11), type := 4, pos := "outright.go:322", after := #[{ on := 14, ground := Ground.guard }], guard := some (14, false) }) (v := ?_) rfl (by kernel_rfl) (by kernel_rfl) (by kernel_rfl) (fun _ _ _ h => h) (Or.inl ⟨by rfl, ?_⟩) (by assumption) ?_
      rotate_left
      · intro W hSw
        clear hSw
        go_simp
        try with_reducible rfl
      simp only [Act.put, List.setIfInBounds_toArray, List.set_cons_zero, List.set_cons_succ]
      refine wpAnyH_take (i := 17) (oi := { dst := some 90, op := Op.binOp BinOp.neq 4 (Operand.tmp 88) (Operand.tmp 89) 4, type := 4, pos := "outright.go:322", after := #[{ on := 15, ground := Ground.data }, { on := 16, ground := Ground.data }, { on := 14, ground := Ground.guard }], guard := some (14, false) }) (v := ?_) rfl (by kernel_rfl) (by kernel_rfl) (by kernel_rfl) (fun _ _ _ h => h) (Or.inl ⟨by rfl, ?_⟩) (by assumption) ?_
      rotate_left
      · intro W hSw
        clear hSw
        go_simp
        try with_reducible rfl
      simp only [Act.put, List.setIfInBounds_toArray, List.set_cons_zero, List.set_cons_succ]
      refine wpAnyH_take (i := 18) (oi := { dst := some 91, op := Op.pick (Operand.tmp 87) (Operand.const (Value.bool true)) (Operand.tmp 90), type := 4, pos := "outright.go:322", after := #[{ on := 14, ground := Ground.data }, { on := 17, ground := Ground.data }], guard := none }) (v := ?_) rfl (by kernel_rfl) (by kernel_rfl) (by kernel_rfl) (fun _ _ _ h => h) (Or.inl ⟨by rfl, ?_⟩) (by assumption) ?_
      rotate_left
      · intro W hSw
        clear hSw
        go_simp
        try with_reducible rfl
      simp only [Act.put, List.setIfInBounds_toArray, List.set_cons_zero, List.set_cons_succ]
      refine wpAnyH_take (i := 19) (oi := { dst := some 92, op := Op.move (Operand.tmp 91), type := 4, pos := "outright.go:322", after := #[{ on := 18, ground := Ground.data }, { on := 14, ground := Ground.chain }], guard := none }) (v := ?_) rfl (by kernel_rfl) (by kernel_rfl) (by kernel_rfl) (fun _ _ _ h => h) (Or.inl ⟨by rfl, ?_⟩) (by assumption) ?_
      rotate_left
      · intro W hSw
        clear hSw
        go_simp
        try with_reducible rfl
      simp only [Act.put, List.setIfInBounds_toArray, List.set_cons_zero, List.set_cons_succ]
      refine wpAnyH_take (i := 20) (oi := { dst := some 93, op := Op.move (Operand.tmp 0), type := 22, pos := "outright.go:322", after := #[{ on := 19, ground := Ground.guard }], guard := some (19, false) }) (v := ?_) rfl (by kernel_rfl) (by kernel_rfl) (by kernel_rfl) (fun _ _ _ h => h) (Or.inl ⟨by rfl, ?_⟩) (by assumption) ?_
      rotate_left
      · intro W hSw
        clear hSw
        go_simp
        try with_reducible rfl
      simp only [Act.put, List.setIfInBounds_toArray, List.set_cons_zero, List.set_cons_succ]
      refine wpAnyH_take (i := 21) (oi := { dst := some 94, op := Op.move (Operand.tmp 5), type := 40, pos := "outright.go:322", after := #[{ on := 19, ground := Ground.guard }], guard := some (19, false) }) (v := ?_) rfl (by kernel_rfl) (by kernel_rfl) (by kernel_rfl) (fun _ _ _ h => h) (Or.inl ⟨by rfl, ?_⟩) (by assumption) ?_
      rotate_left
      · intro W hSw
        clear hSw
        go_simp
        try with_reducible rfl
      simp only [Act.put, List.setIfInBounds_toArray, List.set_cons_zero, List.set_cons_succ]
      refine wpAnyH_take (i := 22) (oi := { dst := some 95, op := Op.move (Operand.tmp 7), type := 3, pos := "outright.go:322", after := #[{ on := 19, ground := Ground.guard }], guard := some (19, false) }) (v := ?_) rfl (by kernel_rfl) (by kernel_rfl) (by kernel_rfl) (fun _ _ _ h => h) (Or.inl ⟨by rfl, ?_⟩) (by assumption) ?_
      rotate_left
      · intro W hSw
        clear hSw
        go_simp
        try with_reducible rfl
      simp only [Act.put, List.setIfInBounds_toArray, List.set_cons_zero, List.set_cons_succ]
      refine wpAnyH_take (i := 23) (oi := { dst := some 96, op := Op.indexAddr 40 (Operand.tmp 94) (Operand.tmp 95), type := 0, pos := "outright.go:322", after := #[{ on := 21, ground := Ground.data }, { on := 22, ground := Ground.data }, { on := 19, ground := Ground.guard }], guard := some (19, false) }) (v := ?_) rfl (by kernel_rfl) (by kernel_rfl) (by kernel_rfl) (fun _ _ _ h => h) (Or.inl ⟨by rfl, ?_⟩) (by assumption) ?_
      rotate_left
      · intro W hSw
        clear hSw
        go_simp
        try with_reducible rfl
      simp only [Act.put, List.setIfInBounds_toArray, List.set_cons_zero, List.set_cons_succ]
      refine wpAnyH_take (i := 24) (oi := { dst := some 97, op := Op.load 9 (Operand.tmp 96), type := 9, pos := "outright.go:322", after := #[{ on := 23, ground := Ground.data }, { on := 19, ground := Ground.guard }], guard := some (19, false) }) (v := ?_) rfl (by kernel_rfl) (by kernel_rfl) (by kernel_rfl) (fun _ _ _ h => h) (Or.inl ⟨by rfl, ?_⟩) (by assumption) ?_
      rotate_left
      · intro W hSw
        have yk := (hSw.1.cell (p := ⟨g, off + k, none⟩) YK.out.1).trans YK.out.2
        unfold sE at yk
        clear hSw
        go_simp
        try with_reducible rfl
      simp only [Act.put, List.setIfInBounds_toArray, List.set_cons_zero, List.set_cons_succ]
      refine wpAnyH_take (i := 26) (oi := { dst := some 99, op := Op.move (Operand.tmp 1), type := 22, pos := "outright.go:322", after := #[{ on := 19, ground := Ground.guard }], guard := some (19, false) }) (v := ?_) rfl (by kernel_rfl) (by kernel_rfl) (by kernel_rfl) (fun _ _ _ h => h) (Or.inl ⟨by rfl, ?_⟩) (by assumption) ?_
      rotate_left
      · intro W hSw
        clear hSw
        go_simp
        try with_reducible rfl
      simp only [Act.put, List.setIfInBounds_toArray, List.set_cons_zero, List.set_cons_succ]
      refine wpAnyH_take (i := 27) (oi := { dst := some 100, op := Op.move (Operand.tmp 5), type := 40, pos := "outright.go:322", after := #[{ on := 19, ground := Ground.guard }], guard := some (19, false) }) (v := ?_) rfl (by kernel_rfl) (by kernel_rfl) (by kernel_rfl) (fun _ _ _ h => h) (Or.inl ⟨by rfl, ?_⟩) (by assumption) ?_
      rotate_left
      · intro W hSw
        clear hSw
        go_simp
        try with_reducible rfl
      simp only [Act.put, List.setIfInBounds_toArray, List.set_cons_zero, List.set_cons_succ]
      refine wpAnyH_take (i := 28) (oi := { dst := some 101, op := Op.move (Operand.tmp 7), type := 3, pos := "outright.go:322", after := #[{ on := 19, ground := Ground.guard }], guard := some (19, false) }) (v := ?_) rfl (by kernel_rfl) (by kernel_rfl) (by kernel_rfl) (fun _ _ _ h => h) (Or.inl ⟨by rfl, ?_⟩) (by assumption) ?_
      rotate_left
      · intro W hSw
        clear hSw
        go_simp
        try with_reducible rfl
      simp only [Act.put, List.setIfInBounds_toArray, List.set_cons_zero, List.set_cons_succ]
      refine wpAnyH_take (i := 29) (oi := { dst := some 102, op := Op.indexAddr 40 (Operand.tmp 100) (Operand.tmp 101), type := 0, pos := "outright.go:322", after := #[{ on := 27, ground := Ground.data }, { on := 28, ground := Ground.data }, { on := 19, ground := Ground.guard }], guard := some (19, false) }) (v := ?_) rfl (by kernel_rfl) (by kernel_rfl) (by kernel_rfl) (fun _ _ _ h => h) (Or.inl ⟨by rfl, ?_⟩) (by assumption) ?_
      rotate_left
      · intro W hSw
        clear hSw
        go_simp
        try with_reducible rfl
      simp only [Act.put, List.setIfInBounds_toArray, List.set_cons_zero, List.set_cons_succ]
      refine wpAnyH_take (i := 30) (oi := { dst := some 103, op := Op.load 9 (Operand.tmp 102), type := 9, pos := "outright.go:322", after := #[{ on := 29, ground := Ground.data }, { on := 19, ground := Ground.guard }], guard := some (19, false) }) (v := ?_) rfl (by kernel_rfl) (by kernel_rfl) (by kernel_rfl) (fun _ _ _ h => h) (Or.inl ⟨by rfl, ?_⟩) (by assumption) ?_
      rotate_left
      · intro W hSw
        have yk := (hSw.1.cell (p := ⟨g, off + k, none⟩) YK.out.1).trans YK.out.2
        unfold sE at yk
        clear hSw
        go_simp
        try with_reducible rfl
      simp only [Act.put, List.setIfInBounds_toArray, List.set_cons_zero, List.set_cons_succ]
      refine wpAnyH_ready (rs := [25]) (by kernel_rfl) (by simp) (AllReadyH.cons (o := { dst := some 98, op := Op.call { callee := Callee.value (Operand.func 20), args := #[Operand.tmp 93, Operand.tmp 97], argTypes := #[22, 9] }, type := 38, pos := "outright.go:322", after := #[{ on := 20, ground := Ground.data }, { on := 24, ground := Ground.data }, { on := 19, ground := Ground.chain }, { on := 19, ground := Ground.guard }], guard := some (19, false) }) rfl (fun K hK => ?_) AllReadyH.nil)
      have HCL := Lib.hid (HV1.out Wd HQ1.out)
      go_simp
      refine HCL.out.mono ?_
      rintro e We ⟨v1, rfl, hro, hb⟩
      obtain ⟨Av1, cv1, rfl, _, hvr⟩ := own_vrow hro
      have VR1 := Lib.hid hvr
      replace HB := Lib.hid (stepB HB.out hb)
      replace HB2 := Lib.hid (stepB HB2.out hb)
      replace HQ1 := Lib.hid (HQ1.out.later hb)
      replace HQ2 := Lib.hid (HQ2.out.later hb)
      replace K8 := Lib.hid (K8.out.later hb)
      replace K10 := Lib.hid (K10.out.later hb)
      clear hro hvr HCL
      clear hb hHeld
      refine hK.out _ _ (⟨HB2.out, K8.out, K10.out⟩) (fun hHeld => ?_)
      clear hK K
      refine wpAnyH_ready (rs := [31]) (by kernel_rfl) (by simp) (AllReadyH.cons (o := { dst := some 104, op := Op.call { callee := Callee.value (Operand.func 20), args := #[Operand.tmp 99, Operand.tmp 103], argTypes := #[22, 9] }, type := 38, pos := "outright.go:322", after := #[{ on := 26, ground := Ground.data }, { on := 30, ground := Ground.data }, { on := 25, ground := Ground.chain }, { on := 19, ground := Ground.guard }], guard := some (19, false) }) rfl (fun K hK => ?_) AllReadyH.nil)
      have HCL := Lib.hid (HV2.out We HQ2.out)
      go_simp
      refine HCL.out.mono ?_
      rintro e Wf ⟨v2, rfl, hro, hb⟩
      obtain ⟨Av2, cv2, rfl, _, hvr⟩ := own_vrow hro
      have VR2 := Lib.hid hvr
      have VS1 : Hid (Vers Wf.heap.size Wf Av1 vL.length vL) := Lib.hid (vers_later (vrow_vers VR1.out) hb)
      have VS2 : Hid (Vers Wf.heap.size Wf Av2 vL.length vL) := Lib.hid (vrow_vers VR2.out)
      replace HB := Lib.hid (stepB HB.out hb)
      replace HB2 := Lib.hid (stepB HB2.out hb)
      replace HQ1 := Lib.hid (HQ1.out.later hb)
      replace HQ2 := Lib.hid (HQ2.out.later hb)
      replace K8 := Lib.hid (K8.out.later hb)
      replace K10 := Lib.hid (K10.out.later hb)
      clear hro hvr HCL
      clear hb hHeld
      refine hK.out _ _ (⟨HB2.out, K8.out, K10.out⟩) (fun hHeld => ?_)
      clear hK K
      refine wpAnyH_ready (rs := [32]) (by kernel_rfl) (by simp) (AllReadyH.cons (o := { dst := some 105, op := Op.call { callee := Callee.value (Operand.func 72), args := #[Operand.tmp 98, Operand.tmp 104], argTypes := #[38, 38] }, type := 4, pos := "outright.go:322", after := #[{ on := 25, ground := Ground.data }, { on := 31, ground := Ground.data }, { on := 31, ground := Ground.chain }, { on := 19, ground := Ground.guard }], guard := some (19, false) }) rfl (fun K hK => ?_) AllReadyH.nil)
      have HCL := Lib.hid (rsame_any Av1 Av2 vL.length vL.length cv1 cv2 vL vL Wf VS1.out VS2.out (by have := HD8.out; omega) (by have := HD8.out; omega))
      go_simp
      refine HCL.out.mono ?_
      rintro e w11 ⟨rfl, d, rfl⟩
      rw [sameB_yes.2 rfl]
      have hb : Below Wf.heap.size Wf (Wf.drewN d) := below_drewN (Below.refl _ _) _
      replace HB := Lib.hid (stepB HB.out hb)
      replace HB2 := Lib.hid (stepB HB2.out hb)
      replace HQ1 := Lib.hid (HQ1.out.later hb)
      replace HQ2 := Lib.hid (HQ2.out.later hb)
      replace K8 := Lib.hid (K8.out.later hb)
      replace K10 := Lib.hid (K10.out.later hb)
      clear HCL VR1 VR2 VS1 VS2
      clear hb hHeld
      refine hK.out _ _ (⟨HB2.out, K8.out, K10.out⟩) (fun hHeld => ?_)
      clear hK K
      refine wpAnyH_take (i := 33) (oi := { dst := some 106, op := Op.unOp UnOp.not 4 (Operand.tmp 105), type := 4, pos := "outright.go:322", after := #[{ on := 32, ground := Ground.data }, { on := 19, ground := Ground.guard }], guard := some (19, false) }) (v := ?_) rfl (by kernel_rfl) (by kernel_rfl) (by kernel_rfl) (fun _ _ _ h => h) (Or.inl ⟨by rfl, ?_⟩) (by assumption) ?_
      rotate_left
      · intro W hSw
        clear hSw
        go_simp
        try with_reducible rfl
      simp only [Act.put, List.setIfInBounds_toArray, List.set_cons_zero, List.set_cons_succ]
      refine wpAnyH_take (i := 34) (oi := { dst := some 107, op := Op.pick (Operand.tmp 92) (Operand.const (Value.bool true)) (Operand.tmp 106), type := 4, pos := "outright.go:322", after := #[{ on := 19, ground := Ground.data }, { on := 33, ground := Ground.data }], guard := none }) (v := ?_) rfl (by kernel_rfl) (by kernel_rfl) (by kernel_rfl) (fun _ _ _ h => h) (Or.inl ⟨by rfl, ?_⟩) (by assumption) ?_
      rotate_left
      · intro W hSw
        clear hSw
        go_simp
        try with_reducible rfl
      simp only [Act.put, List.setIfInBounds_toArray, List.set_cons_zero, List.set_cons_succ]
      refine wpAnyH_done (by kernel_rfl) (NoPanic.normal ?_) _
      clear hHeld
      generalize Wf.drewN d = Wg at *
      go_wp2
      have hlt := HLT.out
      refine ⟨⟨k + 1, by omega, by go_num, HB2.out, HB.out, HQ1.out, HQ2.out⟩, ?_⟩
      simp [intOf]; omega
    · obtain rfl : k = n := by omega
      have d2 : decide ((k : Int) < (k : Int)) = false := decide_eq_false (by omega)
      go_wp2
      go_ret
      exact ⟨rfl, HB.out⟩
end Go.Proofs.Ytoinjnocopejjaa
