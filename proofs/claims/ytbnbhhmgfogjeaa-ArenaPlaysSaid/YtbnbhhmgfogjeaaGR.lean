/- Which handle a step is of; a step is done. -/
import Derived.Test.YtbnbhhmgfogjeaaGQ
namespace Go.Proofs.Ytbnbhhmgfogjeaa
open Go.ChangeShapes Go.WideShapes Go.ChangeAt Go.RowKit Go.Maps
set_option linter.unusedVariables false
set_option linter.unusedSimpArgs false

def hv (x : Int) : Value := .int .u64 x
theorem elemH : Elem Try.prog 48 24 hv 8 where
  und := Try.underlying48
  info := by
    have h : (Try.prog.info? 24).map (fun i => (i.zero, i.size, i.bytes)) = some (some (.int .u64 0), 1, 8) := by kernel_rfl
    cases hi : Try.prog.info? 24 with
    | none => rw [hi] at h; cases h
    | some i => rw [hi] at h; simp only [Option.map_some, Option.some.injEq, Prod.mk.injEq] at h; exact ⟨i, _, rfl, h.1, h.2.1, h.2.2, rfl⟩
  one := fun _ => rfl
/-- which handle a step is of -/
def ofS (t : Stp) (U : List Int) : Int := if t.2.2.1 ≠ 0 ∨ U = [] then t.2.2.1 else U.getD ((t.2.1 % 18446744073709551616) % (U.length : Int)).toNat 0
theorem idx48 (g m c k : Nat) (i : Int) (hi : i = (k : Int)) (h : k < m) (W : World) : (Instr.indexAt 48 (.slice (some ⟨g, 0, none⟩) m c) (.int .i64 i)).run Try.prog W = .ok (.pointer (some ⟨g, k, none⟩)) W := by
  subst hi
  have h1 : (0 : Int) ≤ (k : Int) ∧ (k : Int) < (m : Int) := by omega
  go_simp
set_option maxRecDepth 100000 in
set_option maxHeartbeats 4000000 in
theorem of_any (t : Stp) (U : List Int) (B : Nat) (v : Value) (w : World) (ht : StpOk t) (hu : Ow hv w B 24 v U.length U) (hl : U.length ≤ 100000) : Calls Try.prog 26 #[.agg #[.int .u8 t.1, .int .i64 t.2.1, .int .u64 t.2.2.1, .string t.2.2.2], v] w fun e w' => e = .returned (.int .u64 (ofS t U)) ∧ Below w.heap.size w w' := by
  obtain ⟨k, m, r, T⟩ := t
  obtain ⟨⟨hm0, hm1⟩, ⟨hr0, hr1⟩, hT⟩ := ht
  simp only at hm0 hm1 hr0 hr1 hT
  have hbx : Below w.heap.size w (w.alloc (.cells #[.int .u8 k, .int .i64 m, .int .u64 r, .string T] 51)) := (Below.refl _ _).alloc (Nat.le_refl _) _
  have HB := Lib.hid hbx
  unfold ofS
  simp only
  by_cases h1 : r ≠ 0
  · rw [if_pos (.inl h1)]
    have d1 : (r != 0) = true := by simp [h1]
    obtain ⟨AV, cV, rfl, _⟩ := Ow.sl hu
    clear h1 hbx hu
    go_enter Try.func26, Try.ntmps26
    go_wp2
    go_ret
    exact ⟨rfl, HB.out⟩
  · have h1 : r = 0 := by omega
    subst h1
    have d1 : ((0 : Int) != 0) = false := rfl
    by_cases h2 : U = []
    · subst h2
      rw [if_pos (.inr rfl)]
      obtain ⟨AV, cV, rfl, _⟩ := Ow.sl hu
      clear hbx hu
      go_enter Try.func26, Try.ntmps26
      go_wp2
      go_ret
      exact ⟨rfl, HB.out⟩
    · rw [if_neg (by simp [h2])]
      have hpos : 0 < U.length := List.length_pos_iff.2 h2
      obtain ⟨j, hj⟩ : ∃ j : Nat, ((m % 18446744073709551616) % (U.length : Int)).toNat = j := ⟨_, rfl⟩
      have hjl : j < U.length := by
        have h3 := Int.emod_lt_of_pos (m % 18446744073709551616) (show (0 : Int) < U.length by omega)
        have h4 := Int.emod_nonneg (m % 18446744073709551616) (show (U.length : Int) ≠ 0 by omega)
        omega
      have hje : (m % 18446744073709551616) % (U.length : Int) = (j : Int) := by
        have h4 := Int.emod_nonneg (m % 18446744073709551616) (show (U.length : Int) ≠ 0 by omega)
        omega
      rw [hj]
      have hg : U[j]? = some (U.getD j 0) := by rw [List.getElem?_eq_getElem hjl, List.getD_eq_getElem?_getD, List.getElem?_eq_getElem hjl]; rfl
      obtain ⟨g, c, rfl, hgl, hc, _⟩ := ow_at (Ow.later hu hbx) hg
      have hcx : (w.alloc (.cells #[.int .u8 k, .int .i64 m, .int .u64 0, .string T] 51)).cell? ⟨g, j, none⟩ = some (.int .u64 (U.getD j 0)) := hc
      have hlen : (U.length == 0) = false := by rw [beq_eq_false_iff_ne]; omega
      have hlen2 : ((U.length : Int) == 0) = false := by rw [beq_eq_false_iff_ne]; omega
      obtain ⟨mu, hmu⟩ : ∃ mu, m % 18446744073709551616 = mu := ⟨_, rfl⟩
      rw [hmu] at hje
      have hmu0 : 0 ≤ mu ∧ mu ≤ 18446744073709551615 := by omega
      have wm : IntKind.u64.wrap m = mu := by rw [IntKind.wrap_u64]; exact hmu
      have wl : IntKind.u64.wrap (U.length : Int) = (U.length : Int) := by rw [IntKind.wrap_u64]; omega
      have wj : IntKind.u64.wrap (j : Int) = (j : Int) := by rw [IntKind.wrap_u64]; omega
      have wj2 : IntKind.i64.wrap (j : Int) = (j : Int) := IntWalk.i64_in _ (by omega)
      have wt : Int.tmod mu (U.length : Int) = (j : Int) := by rw [Int.tmod_eq_emod_of_nonneg hmu0.1]; exact hje
      have i5 := idx48 g U.length c j (j : Int) rfl hjl
      have hUN : ¬ (U.length : Int) = 0 := by omega
      have hUN2 : ¬ U.length = 0 := by omega
      generalize U.getD j 0 = y at *
      clear hj hg hgl hc hmu hbx hu h2
      go_enter Try.func26, Try.ntmps26
      go_wp2
      go_ret
      exact ⟨rfl, HB.out⟩
/-- a step, done -/
def doS (s : Nat) (t : Stp) (U : List Int) (st : AS) : AS × Int × Bool :=
  if t.1 = 0 then ((alA s st).1, (alA s st).2.1, decide ((alA s st).2.2 = 0))
  else if t.1 = 1 then (frA (ofS t U) st, 0, false)
  else if t.1 = 2 then (wrA s (ofS t U) t.2.2.2 st, 0, false)
  else (st, 0, false)
theorem ofS_rg {t : Stp} {U : List Int} (ht : StpOk t) (hu : ∀ x ∈ U, 0 ≤ x ∧ x ≤ 18446744073709551615) : 0 ≤ ofS t U ∧ ofS t U ≤ 18446744073709551615 := by
  unfold ofS
  split
  · exact ht.2.1
  · by_cases h : ((t.2.1 % 18446744073709551616) % (U.length : Int)).toNat < U.length
    · rw [List.getD_eq_getElem?_getD, List.getElem?_eq_getElem h]
      exact hu _ (List.getElem_mem h)
    · rw [List.getD_eq_getElem?_getD, List.getElem?_eq_none (by omega)]
      simp
theorem do_end {B a s : Nat} {st st' : AS} {S : Nat → Prop} {r : Value} {val : Value} {w w1 : World} {w' : World} (hA : AR w B a s st S) (hb : FrS w w1 S) (h : ∃ S', AR w' B a s st' S' ∧ (∀ k, S' k → S k ∨ w1.heap.size ≤ k) ∧ FrS w1 w' S) : ∃ S', AR w' B a s st' S' ∧ (∀ k, S' k → S k ∨ w.heap.size ≤ k) ∧ FrS w w' S := by
  obtain ⟨S', h1, h2, h3⟩ := h
  exact ⟨S', h1, fun k hk => (h2 k hk).imp id (fun e => Nat.le_trans hb.size e), hb.trans h3 (fun i hi => .inl hi)⟩
abbrev S4 (px : Nat) (k m r : Int) (T : ByteArray) (W : World) : Prop := W.cell? ⟨px, 0, none⟩ = some (.int .u8 k) ∧ W.cell? ⟨px, 1, none⟩ = some (.int .i64 m) ∧ W.cell? ⟨px, 2, none⟩ = some (.int .u64 r) ∧ W.cell? ⟨px, 3, none⟩ = some (.string T)
set_option maxRecDepth 100000 in
set_option maxHeartbeats 8000000 in
theorem sdo_any (B a s : Nat) (st : AS) (S : Nat → Prop) (w : World) (h : AR w B a s st S) (t : Stp) (U : List Int) (B2 : Nat) (v : Value) (ht : StpOk t) (hu : Ow hv w B2 24 v U.length U) (hl : U.length ≤ 100000) (hU : ∀ x ∈ U, 0 ≤ x ∧ x ≤ 18446744073709551615) (h2 : 2 ≤ s) (h4 : s ≤ 4096) (hG : st.2.2.length < 1000000000) : Calls Try.prog 33 #[.agg #[.int .u8 t.1, .int .i64 t.2.1, .int .u64 t.2.2.1, .string t.2.2.2], .pointer (some ⟨a, 0, none⟩), v] w (AEnd B a s (doS s t U st).1 S (.tuple #[.int .u64 (doS s t U st).2.1, .bool (doS s t U st).2.2]) w) := by
  have hof := ofS_rg ht hU
  have HT := Lib.hid ht
  have HOF := Lib.hid (fun W (hb : Below w.heap.size w W) => of_any t U B2 v W ht (Ow.later hu hb) hl)
  obtain ⟨r1, hr1⟩ : ∃ r, (doS s t U st).1 = r := ⟨_, rfl⟩
  obtain ⟨r2, hr2⟩ : ∃ r, (doS s t U st).2.1 = r := ⟨_, rfl⟩
  obtain ⟨r3, hr3⟩ : ∃ r, (doS s t U st).2.2 = r := ⟨_, rfl⟩
  rw [hr1, hr2, hr3]
  have HRR : Hid (doS s t U st = (r1, r2, r3)) := by show _ = _; rw [← hr1, ← hr2, ← hr3]
  clear hr1 hr2 hr3
  obtain ⟨x, hx⟩ : ∃ x, ofS t U = x := ⟨_, rfl⟩
  rw [hx] at hof HOF
  have HXX := Lib.hid hx
  have HX := Lib.hid hof
  obtain ⟨k, m, r, T⟩ := t
  simp only at HOF ⊢
  have hbx : Below w.heap.size w (w.alloc (.cells #[.int .u8 k, .int .i64 m, .int .u64 r, .string T] 51)) := (Below.refl _ _).alloc (Nat.le_refl _) _
  have HBX : Hid (Blk (w.alloc (.cells #[.int .u8 k, .int .i64 m, .int .u64 r, .string T] 51)) w.heap.size #[.int .u8 k, .int .i64 m, .int .u64 r, .string T] 51) := Blk.new _ _ _
  have HA := Lib.hid (h.later hbx)
  have HB := Lib.hid hbx
  have H := Lib.hid h
  obtain ⟨AV, cV, rfl, _⟩ := Ow.sl hu
  clear hu ht hU hx hof h hbx
  go_enter Try.func33, Try.ntmps33
  go_upto_region 1 with (fail)
  generalize w.alloc (.cells #[.int .u8 k, .int .i64 m, .int .u64 r, .string T] 51) = w1 at *
  obtain ⟨px, hpx⟩ : ∃ px, w.heap.size = px := ⟨_, rfl⟩
  rw [hpx] at HBX
  rw [hpx]
  clear hpx
  have x0 := HBX.out.cell 0
  have x1 := HBX.out.cell 1
  have x2 := HBX.out.cell 2
  have x3 := HBX.out.cell 3
  simp only [List.getElem?_toArray, List.getElem?_cons_zero, List.getElem?_cons_succ] at x0 x1 x2 x3
  by_cases e0 : k = 0
  · have f0 : (k == 0) = true := by rw [e0]; rfl
    have HD : Hid ((alA s st).1 = r1 ∧ (alA s st).2.1 = r2 ∧ decide ((alA s st).2.2 = 0) = r3) := by
      have h := HRR.out
      unfold doS at h
      simp only at h
      rw [if_pos e0] at h
      simp only [Prod.mk.injEq] at h
      exact h
    have HAL := Lib.hid (alloc_any B a s st S w1 HA.out h2 h4 hG)
    rw [HD.out.1, HD.out.2.1] at HAL
    obtain ⟨ee, hee⟩ : ∃ ee, (alA s st).2.2 = ee := ⟨_, rfl⟩
    rw [hee] at HAL
    have H3 : Hid ((ee == 0) = r3) := by
      show _ = _
      rw [← HD.out.2.2, hee]
      by_cases e : ee = 0 <;> simp [e]
    clear e0 hee HD
    go_wp2_with fail
    refine HAL.out.mono ?_
    rintro e w2 ⟨rfl, h⟩
    have HE := Lib.hid h
    clear h HAL x0 x1 x2 x3
    go_wp2
    go_ret2
    refine ⟨?_, do_end (r := .nilFunc) (val := .nilFunc) H.out (FrS.of_below HB.out) HE.out⟩
    rw [← H3.out]; first | rfl | simp
  · have f0 : (k == 0) = false := by rw [beq_eq_false_iff_ne]; exact e0
    by_cases e1 : k = 1
    · have f1 : (k == 1) = true := by rw [e1]; rfl
      have HD : Hid (frA x st = r1 ∧ 0 = r2 ∧ false = r3) := by
        have h := HRR.out
        unfold doS at h
        simp only at h
        rw [if_neg e0, if_pos e1] at h
        simp only [Prod.mk.injEq] at h
        rw [HXX.out] at h
        exact h
      clear e0 e1
      go_wp2_with fail
      refine (HOF.out _ HB.out).mono ?_
      rintro e w2 ⟨rfl, hb⟩
      have HA2 := Lib.hid (HA.out.later hb)
      have HB2 := Lib.hid (stepB HB.out hb)
      clear hb x0 x1 x2 x3
      go_wp2_with fail
      refine (arfree_any B a s st S w2 HA2.out x HX.out.1 HX.out.2 h4).mono ?_
      rintro e w3 ⟨rfl, h⟩
      have HE := Lib.hid h
      clear h
      go_wp2
      go_ret2
      refine ⟨?_, do_end (r := .nilFunc) (val := .nilFunc) H.out (FrS.of_below HB2.out) (by rw [← HD.out.1]; exact HE.out)⟩
      rw [← HD.out.2.1, ← HD.out.2.2]; rfl
    · have f1 : (k == 1) = false := by rw [beq_eq_false_iff_ne]; exact e1
      by_cases e2 : k = 2
      · have f2 : (k == 2) = true := by rw [e2]; rfl
        have HD : Hid (wrA s x T st = r1 ∧ 0 = r2 ∧ false = r3) := by
          have h := HRR.out
          unfold doS at h
          simp only at h
          rw [if_neg e0, if_neg e1, if_pos e2] at h
          simp only [Prod.mk.injEq] at h
          rw [HXX.out] at h
          exact h
        clear e0 e1 e2
        go_upto_region 9 with (fail)
        clear x0 x1 x2 x3
        refine wp_region_noPanic ?_
        have hbd : Below w1.heap.size w1 w1.drew := Below.drew (Below.refl _ _)
        have HA2 := Lib.hid (HA.out.later hbd)
        have HB2 := Lib.hid (stepB HB.out hbd)
        have HX2 := Lib.hid (HBX.out.later hbd)
        clear hbd
        have HS2 : Hid (S4 px k m r T w1.drew) := ⟨HX2.out.cell 0, HX2.out.cell 1, HX2.out.cell 2, HX2.out.cell 3⟩
        have HOF2 := Lib.hid (HOF.out _ HB2.out)
        refine wp_region_held_drew (S := S4 px k m r T) (by kernel_rfl) HS2.out (fun hHeld => ?_)
        refine wpAnyH_take (i := 0) (oi := { dst := some 36, op := Op.move (Operand.tmp 1), type := 22, pos := "outright.go:93", after := #[], guard := none }) (v := ?_) rfl (by kernel_rfl) (by kernel_rfl) (by kernel_rfl) (fun _ _ _ h => h) (Or.inl ⟨by rfl, ?_⟩) (by assumption) ?_
        rotate_left
        · intro W hSw
          obtain ⟨k0, k1, k2, k3⟩ := hSw
          go_simp
          try with_reducible rfl
        simp only [Act.put, List.setIfInBounds_toArray, List.set_cons_zero, List.set_cons_succ]
        refine wpAnyH_take (i := 1) (oi := { dst := some 37, op := Op.load 51 (Operand.tmp 3), type := 51, pos := "outright.go:93", after := #[], guard := none }) (v := ?_) rfl (by kernel_rfl) (by kernel_rfl) (by kernel_rfl) (fun _ _ _ h => h) (Or.inl ⟨by rfl, ?_⟩) (by assumption) ?_
        rotate_left
        · intro W hSw
          obtain ⟨k0, k1, k2, k3⟩ := hSw
          go_simp
          try with_reducible rfl
        simp only [Act.put, List.setIfInBounds_toArray, List.set_cons_zero, List.set_cons_succ]
        refine wpAnyH_take (i := 2) (oi := { dst := some 38, op := Op.move (Operand.tmp 2), type := 48, pos := "outright.go:93", after := #[], guard := none }) (v := ?_) rfl (by kernel_rfl) (by kernel_rfl) (by kernel_rfl) (fun _ _ _ h => h) (Or.inl ⟨by rfl, ?_⟩) (by assumption) ?_
        rotate_left
        · intro W hSw
          obtain ⟨k0, k1, k2, k3⟩ := hSw
          go_simp
          try with_reducible rfl
        simp only [Act.put, List.setIfInBounds_toArray, List.set_cons_zero, List.set_cons_succ]
        refine wpAnyH_take (i := 4) (oi := { dst := some 40, op := Op.fieldAddr 51 (Operand.tmp 3) 3, type := 0, pos := "outright.go:93", after := #[], guard := none }) (v := ?_) rfl (by kernel_rfl) (by kernel_rfl) (by kernel_rfl) (fun _ _ _ h => h) (Or.inl ⟨by rfl, ?_⟩) (by assumption) ?_
        rotate_left
        · intro W hSw
          obtain ⟨k0, k1, k2, k3⟩ := hSw
          go_simp
          try with_reducible rfl
        simp only [Act.put, List.setIfInBounds_toArray, List.set_cons_zero, List.set_cons_succ]
        refine wpAnyH_take (i := 5) (oi := { dst := some 41, op := Op.load 9 (Operand.tmp 40), type := 9, pos := "outright.go:93", after := #[{ on := 4, ground := Ground.data }], guard := none }) (v := ?_) rfl (by kernel_rfl) (by kernel_rfl) (by kernel_rfl) (fun _ _ _ h => h) (Or.inl ⟨by rfl, ?_⟩) (by assumption) ?_
        rotate_left
        · intro W hSw
          obtain ⟨k0, k1, k2, k3⟩ := hSw
          go_simp
          try with_reducible rfl
        simp only [Act.put, List.setIfInBounds_toArray, List.set_cons_zero, List.set_cons_succ]
        refine wpAnyH_ready (rs := [3]) (by kernel_rfl) (by simp) (AllReadyH.cons (o := { dst := some 39, op := Op.call { callee := Callee.value (Operand.func 26), args := #[Operand.tmp 37, Operand.tmp 38], argTypes := #[51, 48] }, type := 24, pos := "outright.go:93", after := #[{ on := 1, ground := Ground.data }, { on := 2, ground := Ground.data }], guard := none }) rfl (fun K hK => ?_) AllReadyH.nil)
        refine step_callw (by rfl) 26 #[.agg #[.int .u8 k, .int .i64 m, .int .u64 r, .string T], .slice AV U.length cV] (by go_simp) ?_
        refine HOF2.out.mono ?_
        rintro z w2 ⟨rfl, hb⟩
        have HA3 := Lib.hid (HA2.out.later hb)
        have HB3 := Lib.hid (stepB HB2.out hb)
        have HX3 := Lib.hid (HX2.out.later hb)
        have HS3 : Hid (S4 px k m r T w2) := ⟨HX3.out.cell 0, HX3.out.cell 1, HX3.out.cell 2, HX3.out.cell 3⟩
        refine ⟨_, rfl, hK.out _ _ HS3.out (fun hHeld2 => ?_)⟩
        clear hK K hHeld HOF2 hb
        simp only [Act.put, List.setIfInBounds_toArray, List.set_cons_zero, List.set_cons_succ]
        refine wpAnyH_ready (rs := [6]) (by kernel_rfl) (by simp) (AllReadyH.cons (o := { dst := some 42, op := Op.call { callee := Callee.value (Operand.func 14), args := #[Operand.tmp 36, Operand.tmp 39, Operand.tmp 41], argTypes := #[22, 24, 9] }, type := 25, pos := "outright.go:93", after := #[{ on := 0, ground := Ground.data }, { on := 3, ground := Ground.data }, { on := 5, ground := Ground.data }, { on := 3, ground := Ground.chain }], guard := none }) rfl (fun K hK => ?_) AllReadyH.nil)
        refine step_callw (by rfl) 14 #[.pointer (some ⟨a, 0, none⟩), .int .u64 x, .string T] (by go_simp) ?_
        refine (arwrite_any B a s st S w2 HA3.out x HX.out.1 HX.out.2 T h4).mono ?_
        rintro z w3 ⟨rfl, hE⟩
        have HE := Lib.hid hE
        have HX4 : Hid (Blk w3 px #[.int .u8 k, .int .i64 m, .int .u64 r, .string T] 51) := by
          obtain ⟨S', _, _, hf⟩ := hE
          exact HA3.out.blk hf HX3.out ⟨by decide, by decide, by decide⟩
        have HS4 : Hid (S4 px k m r T w3) := ⟨HX4.out.cell 0, HX4.out.cell 1, HX4.out.cell 2, HX4.out.cell 3⟩
        refine ⟨_, rfl, hK.out _ _ HS4.out (fun hHeld3 => ?_)⟩
        clear hK K hHeld2 hE
        try simp only [Act.put, List.setIfInBounds_toArray, List.set_cons_zero, List.set_cons_succ]
        refine wpAnyH_done (by kernel_rfl) (NoPanic.normal ?_) _
        clear hHeld3
        go_wp2
        go_ret2
        refine ⟨?_, do_end (r := .nilFunc) (val := .nilFunc) H.out (FrS.of_below HB3.out) (by rw [← HD.out.1]; exact HE.out)⟩
        rw [← HD.out.2.1, ← HD.out.2.2]; rfl
      · have f2 : (k == 2) = false := by rw [beq_eq_false_iff_ne]; exact e2
        have HD : Hid (st = r1 ∧ 0 = r2 ∧ false = r3) := by
          have h := HRR.out
          unfold doS at h
          simp only at h
          rw [if_neg e0, if_neg e1, if_neg e2] at h
          simp only [Prod.mk.injEq] at h
          exact h
        clear e0 e1 e2
        go_wp2_with fail
        refine (HOF.out _ HB.out).mono ?_
        rintro e w2 ⟨rfl, hb⟩
        have HA2 := Lib.hid (HA.out.later hb)
        have HB2 := Lib.hid (stepB HB.out hb)
        clear hb x0 x1 x2 x3
        go_wp2_with fail
        refine (arread_any B a s st S w2 HA2.out x HX.out.1 HX.out.2).mono ?_
        rintro e w3 ⟨rfl, hb⟩
        have HA3 := Lib.hid (HA2.out.later hb)
        have HB3 := Lib.hid (stepB HB2.out hb)
        clear hb
        go_wp2
        go_ret2
        refine ⟨?_, S, by rw [← HD.out.1]; exact HA3.out, fun k hk => .inl hk, FrS.of_below HB3.out⟩
        rw [← HD.out.2.1, ← HD.out.2.2]; rfl
end Go.Proofs.Ytbnbhhmgfogjeaa
