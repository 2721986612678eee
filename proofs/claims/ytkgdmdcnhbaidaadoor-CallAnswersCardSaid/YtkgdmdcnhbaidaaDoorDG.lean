/- The document's Tell. -/
import Derived.Test.YtkgdmdcnhbaidaaDoorDE
namespace Go.Proofs.YtkgdmdcnhbaidaaDoor
open Go.ChangeShapes Go.WideShapes Go.ChangeAt Go.RowKit
set_option linter.unusedVariables false
set_option linter.unusedSimpArgs false

theorem jt_app (a b : List (List UInt8)) : Lib.joinTail [32] (a ++ b) = Lib.joinTail [32] a ++ Lib.joinTail [32] b := by
  unfold Lib.joinTail
  rw [List.map_append, List.flatten_append]
theorem join_more (x : List UInt8) (r : List (List UInt8)) (a b : List UInt8) : Lib.join (x :: r ++ [a, b]) [32] = Lib.join (x :: r) [32] ++ (32 :: (a ++ 32 :: b)) := by
  rw [List.cons_append, Lib.join_cons, Lib.join_cons, jt_app, ← List.append_assoc]
  congr 1
  simp [Lib.joinTail]
/-- what is told of the first k pairs -/
def teK (er : Int) (fo : Bool) (av : ByteArray) (ps : List Pr) (k : Nat) : List UInt8 := Lib.join ((tellL er fo av (ps.take k)).map (·.data.toList)) [32]
theorem teK_step {er : Int} {fo : Bool} {av : ByteArray} {ps : List Pr} {k : Nat} {p : Pr} (h : ps[k]? = some p) : teK er fo av ps (k + 1) = teK er fo av ps k ++ (32 :: ((hexP p.1).data.toList ++ 32 :: (hexP p.2).data.toList)) := by
  unfold teK
  rw [List.take_add_one, h]
  show Lib.join ((([ofL (Lib.itoa er), fwd fo, hexP av] ++ pw (ps.take k ++ [p])).map (·.data.toList))) [32] = _
  rw [pw_app, ← List.append_assoc]
  show Lib.join ((([ofL (Lib.itoa er), fwd fo, hexP av] ++ pw (ps.take k)) ++ [hexP p.1, hexP p.2]).map (·.data.toList)) [32] = _
  rw [List.map_append]
  exact join_more _ _ _ _
theorem teK_zero (er : Int) (fo : Bool) (av : ByteArray) (ps : List Pr) : teK er fo av ps 0 = Lib.itoa er ++ (32 :: ((fwd fo).data.toList ++ 32 :: (hexP av).data.toList)) := by
  show Lib.join [Lib.itoa er, (fwd fo).data.toList, (hexP av).data.toList] [32] = _
  rw [join2, join2, Lib.join_one]
set_option maxRecDepth 100000 in
set_option maxHeartbeats 16000000 in
theorem rtell_any (er : Int) (fo : Bool) (av : ByteArray) (A : Option Addr) (n c : Nat) (ps : List Pr) (w : World) (her : inI er) (hva : av.size ≤ 100000) (hps : ∀ p ∈ ps, p.1.size ≤ 100000 ∧ p.2.size ≤ 100000) (hsl : RSl pvc 2 w A n ps) (hn : n ≤ 100000) : Calls Tryd.prog 23 #[.agg #[.int .i64 er, .bool fo, .string av, .slice A n c]] w fun e w' => e = .returned (.string (telT (er, fo, av, ps))) ∧ Below w.heap.size w w' := by
  have b1 : Below w.heap.size w (w.alloc (.cells #[.int .i64 er, .bool fo, .string av, .slice A n c] 37)) := (Below.refl _ _).alloc (Nat.le_refl _) _
  have HX : Hid (Blk (w.alloc (.cells #[.int .i64 er, .bool fo, .string av, .slice A n c] 37)) w.heap.size #[.int .i64 er, .bool fo, .string av, .slice A n c] 37) := Blk.new _ _ _
  have HSL := Lib.hid (hsl.later b1)
  have HLN : Hid (ps.length = n) := Lib.hid hsl.1
  have HPS := Lib.hid hps
  have HB := Lib.hid b1
  have HW1 : Hid (∀ V : World, Calls Tryd.prog 46 #[.int .i64 er] V fun e w' => e = .returned (.string (ofL (Lib.itoa er))) ∧ Below V.heap.size V w') := Lib.hid (fun V => rwhole_any er V her)
  have HW2 : Hid (∀ V : World, Calls Tryd.prog 47 #[.string av] V fun e w' => e = .returned (.string (hexP av)) ∧ Below V.heap.size V w') := Lib.hid (fun V => rhex_any av V hva)
  have HZ1 : Hid ((ofL (Lib.itoa er)).size ≤ 21 ∧ (hexP av).size ≤ 200001) := Lib.hid ⟨itoa_size her, by have := (hexP_size av).1; omega⟩
  have HT0 := Lib.hid (teK_zero er fo av ps)
  have HTE : Hid (telT (er, fo, av, ps) = ofL (teK er fo av ps n)) := Lib.hid (by
    unfold telT teK joinW
    rw [List.take_of_length_le (by rw [hsl.1]; exact Nat.le_refl _)]; rfl)
  obtain ⟨R, hR⟩ : ∃ R, telT (er, fo, av, ps) = R := ⟨_, rfl⟩
  rw [hR] at HTE ⊢
  obtain ⟨s1, hs1⟩ : ∃ z, ofL (Lib.itoa er) = z := ⟨_, rfl⟩
  obtain ⟨s2, hs2⟩ : ∃ z, hexP av = z := ⟨_, rfl⟩
  have HI1 : Hid (Lib.itoa er = s1.data.toList) := Lib.hid (by rw [← hs1]; rfl)
  rw [hs1] at HW1 HZ1
  rw [hs2] at HW2 HZ1 HT0
  rw [HI1.out] at HT0
  clear b1 hsl hps her hva hR hs1 hs2
  go_enter Tryd.func23, Tryd.ntmps23
  go_upto_region 1 with (fail)
  generalize (w.alloc (.cells #[.int .i64 er, .bool fo, .string av, .slice A n c] 37)) = w1 at *
  obtain ⟨px, hpx⟩ : ∃ x, w.heap.size = x := ⟨_, rfl⟩
  have HPX := Lib.hid hpx
  rw [hpx] at HX ⊢
  clear hpx
  have x0 := HX.out.cell 0
  have x1 := HX.out.cell 1
  have x2 := HX.out.cell 2
  have x3 := HX.out.cell 3
  simp only [List.getElem?_toArray, List.getElem?_cons_zero, List.getElem?_cons_succ] at x0 x1 x2 x3
  go_wp2_with fail
  refine (HW1.out w1).mono ?_
  rintro e w2 ⟨rfl, hb⟩
  replace HX := Lib.hid (HX.out.later hb)
  replace HSL := Lib.hid (HSL.out.later hb)
  replace HB := Lib.hid (stepB HB.out hb)
  clear x0 x1 x2 x3
  clear hb
  have x0 := HX.out.cell 0
  have x1 := HX.out.cell 1
  have x2 := HX.out.cell 2
  have x3 := HX.out.cell 3
  simp only [List.getElem?_toArray, List.getElem?_cons_zero, List.getElem?_cons_succ] at x0 x1 x2 x3
  have g1 : ¬ 9223372036854775807 < s1.size + 3 := by have := HZ1.out.1; omega
  obtain ⟨t3, ht3⟩ : ∃ z, s1 ++ (if fo then { data := #[32, 49, 32] } else { data := #[32, 48, 32] } : ByteArray) = z := ⟨_, rfl⟩
  have HG1 := Lib.hid g1
  have HT3 := Lib.hid ht3
  have HS3 : Hid (t3.size = s1.size + 3) := Lib.hid (by rw [← ht3, ByteArray.size_append]; cases fo <;> rfl)
  have HD3 : Hid (teK er fo av ps 0 = (t3 ++ s2).data.toList) := Lib.hid (by
    rw [HT0.out, ← ht3, Go.Joins.data_append, Go.Joins.data_append, List.append_assoc]
    cases fo <;> rfl)
  clear ht3
  go_upto_if 10 with (fail)
  go_cut [3] (fun s3 wx => s3 = .string t3 ∧ Below w2.heap.size w2 wx)
  case first =>
    cases fo with
    | true =>
      have ht3 : s1 ++ ({ data := #[32, 49, 32] } : ByteArray) = t3 := HT3.out
      have HRF := Lib.hid ht3
      clear ht3
      go_wp2_with fail
      refine (HW1.out w2).mono ?_
      rintro e wb ⟨rfl, hb⟩
      have HBB := Lib.hid hb
      clear hb
      have g1 := HG1.out
      go_wp2
      go_meet
      exact ⟨by rw [← HRF.out], HBB.out⟩
    | false =>
      have ht3 : s1 ++ ({ data := #[32, 48, 32] } : ByteArray) = t3 := HT3.out
      have HRF := Lib.hid ht3
      clear ht3
      go_wp2
      go_meet
      exact ⟨by rw [← HRF.out], Below.refl _ _⟩
  case rest =>
    obtain ⟨rfl, hb⟩ := hcut
    obtain ⟨W0, rfl⟩ : ∃ W0 : World, W0 = wc := ⟨_, rfl⟩
    replace HX := Lib.hid (HX.out.later hb)
    replace HSL := Lib.hid (HSL.out.later hb)
    replace HB := Lib.hid (stepB HB.out hb)
    clear x0 x1 x2 x3
    clear hb
    have x0 := HX.out.cell 0
    have x1 := HX.out.cell 1
    have x2 := HX.out.cell 2
    have x3 := HX.out.cell 3
    simp only [List.getElem?_toArray, List.getElem?_cons_zero, List.getElem?_cons_succ] at x0 x1 x2 x3
    have g2 : ¬ 9223372036854775807 < t3.size + s2.size := by have h1 := HS3.out; have h2 := HZ1.out; omega
    have HG2 := Lib.hid g2
    clear g1
    go_wp2_with fail
    refine (HW2.out W0).mono ?_
    rintro e w4 ⟨rfl, hb⟩
    replace HX := Lib.hid (HX.out.later hb)
    replace HSL := Lib.hid (HSL.out.later hb)
    replace HB := Lib.hid (stepB HB.out hb)
    clear x0 x1 x2 x3
    clear hb
    have x0 := HX.out.cell 0
    have x1 := HX.out.cell 1
    have x2 := HX.out.cell 2
    have x3 := HX.out.cell 3
    simp only [List.getElem?_toArray, List.getElem?_cons_zero, List.getElem?_cons_succ] at x0 x1 x2 x3
    go_wp2
    clear g2
    have HZ4 : Hid ((t3 ++ s2).size ≤ 300000) := Lib.hid (by rw [ByteArray.size_append]; have h1 := HS3.out; have h2 := HZ1.out; omega)
    obtain ⟨t4, ht4⟩ : ∃ z, t3 ++ s2 = z := ⟨_, rfl⟩
    have HT4 := Lib.hid ht4
    rw [ht4] at HD3 HZ4
    clear ht4 HW1 HW2 HZ1 HT0 HI1 HG1 HS3 HT3 HG2
    obtain ⟨We, hWe⟩ : ∃ z, z = w4 := ⟨_, rfl⟩
    have HWE := Lib.hid hWe
    clear hWe
    go_loopw [3, 4] (fun s3 ix W => ∃ (k : Nat) (t : ByteArray), k ≤ n ∧ ix = .int .i64 k ∧ s3 = .string t ∧ t.data.toList = teK er fo av ps k ∧ t.size ≤ 300000 + 500000 * k ∧ Below We.heap.size We W) (fun _ ix _ => n - (intOf ix).toNat)
    case atStart => exact ⟨0, t4, Nat.zero_le _, rfl, by rw [← HT4.out], HD3.out.symm, HZ4.out, by rw [HWE.out]; exact Below.refl _ _⟩
    case round =>
      obtain ⟨k, t, hk, rfl, rfl, ht, hz, hb⟩ := hrel
      have HT := Lib.hid ht
      have HZ := Lib.hid hz
      rw [HWE.out] at hb
      replace HX := Lib.hid (HX.out.later hb)
      replace HSL := Lib.hid (HSL.out.later hb)
      have HBW := Lib.hid hb
      have HB0 := HB
      replace HB := Lib.hid (stepB HB.out hb)
      clear x0 x1 x2 x3
      clear hb
      have x0 := HX.out.cell 0
      have x1 := HX.out.cell 1
      have x2 := HX.out.cell 2
      have x3 := HX.out.cell 3
      simp only [List.getElem?_toArray, List.getElem?_cons_zero, List.getElem?_cons_succ] at x0 x1 x2 x3
      clear ht hz HD3 HZ4 HT4
      by_cases hlt : k < n
      · have d1 : decide ((k : Int) < (n : Int)) = true := decide_eq_true (by omega)
        have wk : IntKind.i64.wrap ((k : Int) + 1) = (k : Int) + 1 := IntWalk.i64_in _ (by omega)
        obtain ⟨g, off, hA, hg, hcs⟩ := HSL.out.2 (by omega)
        subst hA
        have hx : ps[k]? = some (ps.getD k (emp, emp)) := by rw [List.getD_eq_getElem?_getD, List.getElem?_eq_getElem (by rw [HLN.out]; exact hlt)]; rfl
        have hy0 := hcs k _ hx 0 (by omega)
        have hy1 := hcs k _ hx 1 (by omega)
        have hpk := HPS.out _ (List.mem_of_getElem? hx)
        have htk := teK_step (er := er) (fo := fo) (av := av) hx
        obtain ⟨⟨ka, kv⟩, hkk⟩ : ∃ p, ps.getD k (emp, emp) = p := ⟨_, rfl⟩
        rw [hkk] at hy0 hy1 hpk htk
        simp only at hpk htk
        have HI := Lib.hid (idx35 g off n c k (k : Int) rfl hlt)
        have HY0 : Hid (wr.cell? ⟨g, off + k * 2, none⟩ = some (.string ka)) := Lib.hid hy0
        have HY1 : Hid (wr.cell? ⟨g, off + k * 2 + 1, none⟩ = some (.string kv)) := Lib.hid hy1
        have HGL := Lib.hid hg
        have hh1 := (hexP_size ka).1
        have hh2 := (hexP_size kv).1
        obtain ⟨t1, ht1⟩ : ∃ s, hexP ka = s := ⟨_, rfl⟩
        obtain ⟨t2, ht2⟩ : ∃ s, hexP kv = s := ⟨_, rfl⟩
        rw [ht1] at hh1 htk
        rw [ht2] at hh2 htk
        have HU1 : Hid (∀ W, Calls Tryd.prog 47 #[.string ka] W fun e w' => e = .returned (.string t1) ∧ Below W.heap.size W w') := Lib.hid (fun W => ht1 ▸ rhex_any ka W hpk.1)
        have HU2 : Hid (∀ W, Calls Tryd.prog 47 #[.string kv] W fun e w' => e = .returned (.string t2) ∧ Below W.heap.size W w') := Lib.hid (fun W => ht2 ▸ rhex_any kv W hpk.2)
        obtain ⟨e1, he1⟩ : ∃ z, t ++ ({ data := #[32] } : ByteArray) = z := ⟨_, rfl⟩
        obtain ⟨e2, he2⟩ : ∃ z, e1 ++ t1 = z := ⟨_, rfl⟩
        obtain ⟨e3, he3⟩ : ∃ z, e2 ++ ({ data := #[32] } : ByteArray) = z := ⟨_, rfl⟩
        obtain ⟨e4, he4⟩ : ∃ z, e3 ++ t2 = z := ⟨_, rfl⟩
        have hz1 : e1.size = t.size + 1 := by rw [← he1, ByteArray.size_append]; rfl
        have hz2 : e2.size = e1.size + t1.size := by rw [← he2, ByteArray.size_append]
        have hz3 : e3.size = e2.size + 1 := by rw [← he3, ByteArray.size_append]; rfl
        have hz4 : e4.size = e3.size + t2.size := by rw [← he4, ByteArray.size_append]
        have hzt := HZ.out
        have HG1 : Hid (¬ 9223372036854775807 < t.size + 1) := Lib.hid (by omega)
        have HG2 : Hid (¬ 9223372036854775807 < e1.size + t1.size) := Lib.hid (by omega)
        have HG3 : Hid (¬ 9223372036854775807 < e2.size + 1) := Lib.hid (by omega)
        have HG4 : Hid (¬ 9223372036854775807 < e3.size + t2.size) := Lib.hid (by omega)
        have HZ4 : Hid (e4.size ≤ 300000 + 500000 * (k + 1)) := Lib.hid (by omega)
        have HT4 : Hid (e4.data.toList = teK er fo av ps (k + 1)) := Lib.hid (by
          rw [htk, ← HT.out, ← he4, ← he3, ← he2, ← he1, Go.Joins.data_append, Go.Joins.data_append, Go.Joins.data_append, Go.Joins.data_append, List.append_assoc, List.append_assoc, List.append_assoc]
          rfl)
        have HE1 := Lib.hid he1
        have HE2 := Lib.hid he2
        have HE3 := Lib.hid he3
        have HE4 := Lib.hid he4
        clear hx hy0 hy1 hpk htk hkk hg hcs hh1 hh2 ht1 ht2 he1 he2 he3 he4 hz1 hz2 hz3 hz4 hzt HT HZ
        go_upto_region 8 with (fail)
        refine wp_region_noPanic ?_
        obtain ⟨W0, rfl⟩ : ∃ W0 : World, W0 = wr := ⟨_, rfl⟩
        refine wp_region_held_drew (S := fun W => Below W0.heap.size W0 W) (by kernel_rfl) (Below.drew (Below.refl _ _)) (fun hHeld => ?_)
        have HH := Lib.hid hHeld
        refine wpAnyH_take (i := 0) (oi := { dst := some 27, op := Op.move (Operand.tmp 3), type := 9, pos := "ref.go:204", after := #[], guard := none }) (v := ?_) rfl (by kernel_rfl) (by kernel_rfl) (by kernel_rfl) (fun _ _ _ h => h) (Or.inl ⟨by rfl, ?_⟩) (by assumption) ?_
        rotate_left
        · intro W hSw
          clear hSw
          go_simp
          try with_reducible rfl
        simp only [Act.put, List.setIfInBounds_toArray, List.set_cons_zero, List.set_cons_succ]
        refine wpAnyH_take (i := 1) (oi := { dst := some 28, op := Op.binOp BinOp.add 9 (Operand.tmp 27) (Operand.const (Value.string { data := #[32] })) 9, type := 9, pos := "ref.go:204", after := #[{ on := 0, ground := Ground.data }], guard := none }) (v := ?_) rfl (by kernel_rfl) (by kernel_rfl) (by kernel_rfl) (fun _ _ _ h => h) (Or.inl ⟨by rfl, ?_⟩) (by assumption) ?_
        rotate_left
        · intro W hSw
          clear hSw
          have g1 := HG1.out
          go_simp
          try with_reducible rfl
        simp only [Act.put, List.setIfInBounds_toArray, List.set_cons_zero, List.set_cons_succ]
        try rw [HE1.out]
        refine wpAnyH_take (i := 2) (oi := { dst := some 29, op := Op.fieldAddr 37 (Operand.tmp 1) 3, type := 0, pos := "ref.go:204", after := #[], guard := none }) (v := ?_) rfl (by kernel_rfl) (by kernel_rfl) (by kernel_rfl) (fun _ _ _ h => h) (Or.inl ⟨by rfl, ?_⟩) (by assumption) ?_
        rotate_left
        · intro W hSw
          clear hSw
          go_simp
          try with_reducible rfl
        simp only [Act.put, List.setIfInBounds_toArray, List.set_cons_zero, List.set_cons_succ]
        refine wpAnyH_take (i := 3) (oi := { dst := some 30, op := Op.load 35 (Operand.tmp 29), type := 35, pos := "ref.go:204", after := #[{ on := 2, ground := Ground.data }], guard := none }) (v := ?_) rfl (by kernel_rfl) (by kernel_rfl) (by kernel_rfl) (fun _ _ _ h => h) (Or.inl ⟨by rfl, ?_⟩) (by assumption) ?_
        rotate_left
        · intro W hSw
          have x3 := (HX.out.later hSw).cell 3
          simp only [List.getElem?_toArray, List.getElem?_cons_zero, List.getElem?_cons_succ] at x3
          go_simp
          try with_reducible rfl
        simp only [Act.put, List.setIfInBounds_toArray, List.set_cons_zero, List.set_cons_succ]
        refine wpAnyH_take (i := 4) (oi := { dst := some 31, op := Op.move (Operand.tmp 4), type := 3, pos := "ref.go:204", after := #[], guard := none }) (v := ?_) rfl (by kernel_rfl) (by kernel_rfl) (by kernel_rfl) (fun _ _ _ h => h) (Or.inl ⟨by rfl, ?_⟩) (by assumption) ?_
        rotate_left
        · intro W hSw
          clear hSw
          go_simp
          try with_reducible rfl
        simp only [Act.put, List.setIfInBounds_toArray, List.set_cons_zero, List.set_cons_succ]
        refine wpAnyH_take (i := 5) (oi := { dst := some 32, op := Op.indexAddr 35 (Operand.tmp 30) (Operand.tmp 31), type := 0, pos := "ref.go:204", after := #[{ on := 3, ground := Ground.data }, { on := 4, ground := Ground.data }], guard := none }) (v := ?_) rfl (by kernel_rfl) (by kernel_rfl) (by kernel_rfl) (fun _ _ _ h => h) (Or.inl ⟨by rfl, ?_⟩) (by assumption) ?_
        rotate_left
        · intro W hSw
          clear hSw
          have i1 := HI.out
          go_simp
          try with_reducible rfl
        simp only [Act.put, List.setIfInBounds_toArray, List.set_cons_zero, List.set_cons_succ]
        refine wpAnyH_take (i := 6) (oi := { dst := some 33, op := Op.fieldAddr 42 (Operand.tmp 32) 0, type := 0, pos := "ref.go:204", after := #[{ on := 5, ground := Ground.data }], guard := none }) (v := ?_) rfl (by kernel_rfl) (by kernel_rfl) (by kernel_rfl) (fun _ _ _ h => h) (Or.inl ⟨by rfl, ?_⟩) (by assumption) ?_
        rotate_left
        · intro W hSw
          clear hSw
          go_simp
          try with_reducible rfl
        simp only [Act.put, List.setIfInBounds_toArray, List.set_cons_zero, List.set_cons_succ]
        refine wpAnyH_take (i := 7) (oi := { dst := some 34, op := Op.load 9 (Operand.tmp 33), type := 9, pos := "ref.go:204", after := #[{ on := 6, ground := Ground.data }], guard := none }) (v := ?_) rfl (by kernel_rfl) (by kernel_rfl) (by kernel_rfl) (fun _ _ _ h => h) (Or.inl ⟨by rfl, ?_⟩) (by assumption) ?_
        rotate_left
        · intro W hSw
          have y0 := (hSw.cell (p := ⟨g, off + k * 2, none⟩) HGL.out).trans HY0.out
          go_simp
          try with_reducible rfl
        simp only [Act.put, List.setIfInBounds_toArray, List.set_cons_zero, List.set_cons_succ]
        refine wpAnyH_take (i := 11) (oi := { dst := some 38, op := Op.fieldAddr 37 (Operand.tmp 1) 3, type := 0, pos := "ref.go:204", after := #[], guard := none }) (v := ?_) rfl (by kernel_rfl) (by kernel_rfl) (by kernel_rfl) (fun _ _ _ h => h) (Or.inl ⟨by rfl, ?_⟩) (by assumption) ?_
        rotate_left
        · intro W hSw
          clear hSw
          go_simp
          try with_reducible rfl
        simp only [Act.put, List.setIfInBounds_toArray, List.set_cons_zero, List.set_cons_succ]
        refine wpAnyH_take (i := 12) (oi := { dst := some 39, op := Op.load 35 (Operand.tmp 38), type := 35, pos := "ref.go:204", after := #[{ on := 11, ground := Ground.data }], guard := none }) (v := ?_) rfl (by kernel_rfl) (by kernel_rfl) (by kernel_rfl) (fun _ _ _ h => h) (Or.inl ⟨by rfl, ?_⟩) (by assumption) ?_
        rotate_left
        · intro W hSw
          have x3 := (HX.out.later hSw).cell 3
          simp only [List.getElem?_toArray, List.getElem?_cons_zero, List.getElem?_cons_succ] at x3
          go_simp
          try with_reducible rfl
        simp only [Act.put, List.setIfInBounds_toArray, List.set_cons_zero, List.set_cons_succ]
        refine wpAnyH_take (i := 13) (oi := { dst := some 40, op := Op.move (Operand.tmp 4), type := 3, pos := "ref.go:204", after := #[], guard := none }) (v := ?_) rfl (by kernel_rfl) (by kernel_rfl) (by kernel_rfl) (fun _ _ _ h => h) (Or.inl ⟨by rfl, ?_⟩) (by assumption) ?_
        rotate_left
        · intro W hSw
          clear hSw
          go_simp
          try with_reducible rfl
        simp only [Act.put, List.setIfInBounds_toArray, List.set_cons_zero, List.set_cons_succ]
        refine wpAnyH_take (i := 14) (oi := { dst := some 41, op := Op.indexAddr 35 (Operand.tmp 39) (Operand.tmp 40), type := 0, pos := "ref.go:204", after := #[{ on := 12, ground := Ground.data }, { on := 13, ground := Ground.data }], guard := none }) (v := ?_) rfl (by kernel_rfl) (by kernel_rfl) (by kernel_rfl) (fun _ _ _ h => h) (Or.inl ⟨by rfl, ?_⟩) (by assumption) ?_
        rotate_left
        · intro W hSw
          clear hSw
          have i1 := HI.out
          go_simp
          try with_reducible rfl
        simp only [Act.put, List.setIfInBounds_toArray, List.set_cons_zero, List.set_cons_succ]
        refine wpAnyH_take (i := 15) (oi := { dst := some 42, op := Op.fieldAddr 42 (Operand.tmp 41) 1, type := 0, pos := "ref.go:204", after := #[{ on := 14, ground := Ground.data }], guard := none }) (v := ?_) rfl (by kernel_rfl) (by kernel_rfl) (by kernel_rfl) (fun _ _ _ h => h) (Or.inl ⟨by rfl, ?_⟩) (by assumption) ?_
        rotate_left
        · intro W hSw
          clear hSw
          go_simp
          try with_reducible rfl
        simp only [Act.put, List.setIfInBounds_toArray, List.set_cons_zero, List.set_cons_succ]
        refine wpAnyH_take (i := 16) (oi := { dst := some 43, op := Op.load 9 (Operand.tmp 42), type := 9, pos := "ref.go:204", after := #[{ on := 15, ground := Ground.data }], guard := none }) (v := ?_) rfl (by kernel_rfl) (by kernel_rfl) (by kernel_rfl) (fun _ _ _ h => h) (Or.inl ⟨by rfl, ?_⟩) (by assumption) ?_
        rotate_left
        · intro W hSw
          have y1 := (hSw.cell (p := ⟨g, off + k * 2 + 1, none⟩) HGL.out).trans HY1.out
          go_simp
          try with_reducible rfl
        simp only [Act.put, List.setIfInBounds_toArray, List.set_cons_zero, List.set_cons_succ]
        refine wpAnyH_ready (rs := [8]) (by kernel_rfl) (by simp) (AllReadyH.cons (o := { dst := some 35, op := Op.call { callee := Callee.value (Operand.func 47), args := #[Operand.tmp 34], argTypes := #[9] }, type := 9, pos := "ref.go:204", after := #[{ on := 7, ground := Ground.data }], guard := none }) rfl (fun K hK => ?_) AllReadyH.nil)
        have HCL := Lib.hid (HU1.out W0.drew)
        go_simp
        refine HCL.out.mono ?_
        rintro e Wa ⟨rfl, hb⟩
        replace HH := Lib.hid (stepB HH.out hb)
        clear hb HCL hHeld
        refine hK.out _ _ HH.out (fun hHeld => ?_)
        clear hK K
        refine wpAnyH_take (i := 9) (oi := { dst := some 36, op := Op.binOp BinOp.add 9 (Operand.tmp 28) (Operand.tmp 35) 9, type := 9, pos := "ref.go:204", after := #[{ on := 1, ground := Ground.data }, { on := 8, ground := Ground.data }], guard := none }) (v := ?_) rfl (by kernel_rfl) (by kernel_rfl) (by kernel_rfl) (fun _ _ _ h => h) (Or.inl ⟨by rfl, ?_⟩) (by assumption) ?_
        rotate_left
        · intro W hSw
          clear hSw
          have g1 := HG2.out
          go_simp
          try with_reducible rfl
        simp only [Act.put, List.setIfInBounds_toArray, List.set_cons_zero, List.set_cons_succ]
        try rw [HE2.out]
        refine wpAnyH_take (i := 10) (oi := { dst := some 37, op := Op.binOp BinOp.add 9 (Operand.tmp 36) (Operand.const (Value.string { data := #[32] })) 9, type := 9, pos := "ref.go:204", after := #[{ on := 9, ground := Ground.data }], guard := none }) (v := ?_) rfl (by kernel_rfl) (by kernel_rfl) (by kernel_rfl) (fun _ _ _ h => h) (Or.inl ⟨by rfl, ?_⟩) (by assumption) ?_
        rotate_left
        · intro W hSw
          clear hSw
          have g1 := HG3.out
          go_simp
          try with_reducible rfl
        simp only [Act.put, List.setIfInBounds_toArray, List.set_cons_zero, List.set_cons_succ]
        try rw [HE3.out]
        refine wpAnyH_ready (rs := [17]) (by kernel_rfl) (by simp) (AllReadyH.cons (o := { dst := some 44, op := Op.call { callee := Callee.value (Operand.func 47), args := #[Operand.tmp 43], argTypes := #[9] }, type := 9, pos := "ref.go:204", after := #[{ on := 16, ground := Ground.data }, { on := 8, ground := Ground.chain }], guard := none }) rfl (fun K hK => ?_) AllReadyH.nil)
        have HCL := Lib.hid (HU2.out Wa)
        go_simp
        refine HCL.out.mono ?_
        rintro e Wb ⟨rfl, hb⟩
        replace HH := Lib.hid (stepB HH.out hb)
        clear hb HCL hHeld
        refine hK.out _ _ HH.out (fun hHeld => ?_)
        clear hK K
        refine wpAnyH_take (i := 18) (oi := { dst := some 45, op := Op.binOp BinOp.add 9 (Operand.tmp 37) (Operand.tmp 44) 9, type := 9, pos := "ref.go:204", after := #[{ on := 10, ground := Ground.data }, { on := 17, ground := Ground.data }], guard := none }) (v := ?_) rfl (by kernel_rfl) (by kernel_rfl) (by kernel_rfl) (fun _ _ _ h => h) (Or.inl ⟨by rfl, ?_⟩) (by assumption) ?_
        rotate_left
        · intro W hSw
          clear hSw
          have g1 := HG4.out
          go_simp
          try with_reducible rfl
        simp only [Act.put, List.setIfInBounds_toArray, List.set_cons_zero, List.set_cons_succ]
        try rw [HE4.out]
        refine wpAnyH_take (i := 19) (oi := { dst := some 3, op := Op.assign (Operand.tmp 45), type := 9, pos := "ref.go:204", after := #[{ on := 18, ground := Ground.data }, { on := 17, ground := Ground.chain }, { on := 0, ground := Ground.phase }, { on := 1, ground := Ground.phase }, { on := 2, ground := Ground.phase }, { on := 3, ground := Ground.phase }, { on := 4, ground := Ground.phase }, { on := 5, ground := Ground.phase }, { on := 6, ground := Ground.phase }, { on := 7, ground := Ground.phase }, { on := 8, ground := Ground.phase }, { on := 9, ground := Ground.phase }, { on := 10, ground := Ground.phase }, { on := 11, ground := Ground.phase }, { on := 12, ground := Ground.phase }, { on := 13, ground := Ground.phase }, { on := 14, ground := Ground.phase }, { on := 15, ground := Ground.phase }, { on := 16, ground := Ground.phase }, { on := 17, ground := Ground.phase }, { on := 18, ground := Ground.phase }], guard := none }) (v := ?_) rfl (by kernel_rfl) (by kernel_rfl) (by kernel_rfl) (fun _ _ _ h => h) (Or.inl ⟨by rfl, ?_⟩) (by assumption) ?_
        rotate_left
        · intro W hSw
          clear hSw
          go_simp
          try with_reducible rfl
        simp only [Act.put, List.setIfInBounds_toArray, List.set_cons_zero, List.set_cons_succ]
        refine wpAnyH_done (by kernel_rfl) (NoPanic.normal ?_) _
        have HF := Lib.hid (stepB HBW.out HH.out)
        clear hHeld HH HU1 HU2 HG1 HG2 HG3 HG4 HI HY0 HY1
        go_wp2
        go_roundw
        case rel => exact ⟨k + 1, e4, by omega, by go_num, rfl, HT4.out, HZ4.out, by rw [HWE.out]; exact HF.out⟩
        case measure => simp [intOf]; omega
      · obtain rfl : k = n := by omega
        have d1 : decide ((k : Int) < (k : Int)) = false := decide_eq_false (by omega)
        have HRT : Hid (R = t) := Lib.hid (by
          rw [HTE.out]
          exact data_inj (by rw [HT.out]; rfl))
        go_wp2
        go_ret
        exact ⟨by rw [HRT.out]; rfl, HB.out⟩
end Go.Proofs.YtkgdmdcnhbaidaaDoor
