/- NZ, OA, OB in one. -/
import Derived.Test.YtoinjnocopejjaaNX
import Derived.StillTailTactics
/- slices.Equal of pairs. -/
namespace Go.Proofs.Ytoinjnocopejjaa
open Go.ChangeShapes Go.WideShapes Go.ChangeAt Go.RowKit Go.Maps
set_option linter.unusedVariables false
set_option linter.unusedSimpArgs false
theorem idx31 (g off m c k : Nat) (i : Int) (hi : i = (k : Int)) (h : k < m) (W : World) : (Instr.indexAt 31 (.slice (some ⟨g, off, none⟩) m c) (.int .i64 i)).run Try.prog W = .ok (.pointer (some ⟨g, off + k * 2, none⟩)) W := by
  subst hi
  have h1 : (0 : Int) ≤ (k : Int) ∧ (k : Int) < (m : Int) := by omega
  go_simp
theorem tl_injP {x y : ByteArray} (h : x.toList = y.toList) : x = y := by
  rw [ByteArray.toList_eq, ByteArray.toList_eq] at h
  exact ByteArray.ext (Array.toList_inj.1 h)
theorem ne129 (p q : Pr) (w : World) : (binOp BinOp.neq 129 (.agg #[.string p.1, .string p.2]) (.agg #[.string q.1, .string q.2])).run Try.prog w = .ok (.bool (!decide (p = q))) w := by
  obtain ⟨a, b⟩ := p
  obtain ⟨c, d⟩ := q
  go_simp
  have k1 : (a.toList = c.toList) = (a = c) := propext ⟨tl_injP, fun e => by rw [e]⟩
  have k2 : (b.toList = d.toList) = (b = d) := propext ⟨tl_injP, fun e => by rw [e]⟩
  simp only [k1, k2]
  by_cases h1 : a = c <;> by_cases h2 : b = d <;> simp [h1, h2]
set_option maxRecDepth 100000 in
set_option maxHeartbeats 1600000 in
theorem equal_any (A A' : Option Addr) (n c n' c' : Nat) (L L' : List Pr) (w : World) (hn : n ≤ 100000) (h : RSl pvc 2 w A n L) (h' : RSl pvc 2 w A' n' L') : Calls Try.prog 73 #[.slice A n c, .slice A' n' c'] w fun e w' => e = .returned (.bool (decide (L = L'))) ∧ Below w.heap.size w w' := by
  have HR := Lib.hid h
  have HR' := Lib.hid h'
  have HN := Lib.hid hn
  have HL : Hid (L.length = n) := Lib.hid h.1
  have HL' : Hid (L'.length = n') := Lib.hid h'.1
  clear h h' hn
  by_cases hnn : n = n'
  · subst hnn
    have e0 : ((n : Int) != (n : Int)) = false := bne_self_eq_false _
    obtain ⟨b, hb⟩ : ∃ b, decide (L = L') = b := ⟨_, rfl⟩
    rw [hb]
    have HBB := Lib.hid hb
    clear hb
    go_enter Try.func73, Try.ntmps73
    go_wp2
    go_loopw [13] (fun i W => ∃ (k : Nat), k ≤ n ∧ i = .int .i64 k ∧ L.take k = L'.take k ∧ Below w.heap.size w W) (fun i _ => n - (intOf i).toNat)
    case atStart => exact ⟨0, Nat.zero_le _, rfl, rfl, Below.refl _ _⟩
    case round =>
      obtain ⟨k, hk, rfl, heq, hb⟩ := hrel
      have HB := Lib.hid hb
      have HE := Lib.hid heq
      clear hb heq
      by_cases hlt : k < n
      · have d2 : decide ((k : Int) < (n : Int)) = true := decide_eq_true (by omega)
        have wk : IntKind.i64.wrap ((k : Int) + 1) = (k : Int) + 1 := IntWalk.i64_in _ (by have := HN.out; omega)
        obtain ⟨g, off, rfl, hg, hc⟩ := HR.out.2 (by omega)
        obtain ⟨g', off', rfl, hg', hc'⟩ := HR'.out.2 (by omega)
        have hr : L[k]? = some (L[k]'(by rw [HL.out]; exact hlt)) := List.getElem?_eq_getElem _
        have hr' : L'[k]? = some (L'[k]'(by rw [HL'.out]; exact hlt)) := List.getElem?_eq_getElem _
        generalize L[k]'(by rw [HL.out]; exact hlt) = q at *
        generalize L'[k]'(by rw [HL'.out]; exact hlt) = q' at *
        obtain ⟨a, v⟩ := q
        obtain ⟨a', v'⟩ := q'
        have y0 := (HB.out.cell (p := ⟨g, off + k * 2 + 0, none⟩) hg).trans (hc k _ hr 0 (by decide))
        have y1 := (HB.out.cell (p := ⟨g, off + k * 2 + 1, none⟩) hg).trans (hc k _ hr 1 (by decide))
        have x0 := (HB.out.cell (p := ⟨g', off' + k * 2 + 0, none⟩) hg').trans (hc' k _ hr' 0 (by decide))
        have x1 := (HB.out.cell (p := ⟨g', off' + k * 2 + 1, none⟩) hg').trans (hc' k _ hr' 1 (by decide))
        simp only [pvc, List.getElem?_cons_zero, List.getElem?_cons_succ, Nat.add_zero] at y0 y1 x0 x1
        have i1 := idx31 g off n c k (k : Int) rfl hlt
        have i2 := idx31 g' off' n c' k (k : Int) rfl hlt
        have HT : Hid (L.take (k + 1) = L.take k ++ [(a, v)] ∧ L'.take (k + 1) = L'.take k ++ [(a', v')]) := Lib.hid ⟨by rw [List.take_add_one, hr]; rfl, by rw [List.take_add_one, hr']; rfl⟩
        have HQ : Hid (¬ (a = a' ∧ v = v') → b = false) := Lib.hid (fun hne => by
          rw [← HBB.out]
          refine decide_eq_false (fun e => hne ?_)
          rw [e, hr'] at hr
          simp only [Option.some.injEq, Prod.mk.injEq] at hr
          exact ⟨hr.1.symm, hr.2.symm⟩)
        clear hc hc' hg hg' hr hr'
        by_cases hq : (a, v) = (a', v')
        · have hne : ∀ W : World, (binOp BinOp.neq 129 (.agg #[.string a, .string v]) (.agg #[.string a', .string v'])).run Try.prog W = .ok (.bool false) W := fun W => by
            have := ne129 (a, v) (a', v') W
            rw [decide_eq_true hq] at this; exact this
          have HE2 : Hid (L.take (k + 1) = L'.take (k + 1)) := Lib.hid (by rw [HT.out.1, HT.out.2, HE.out, hq])
          clear HT HQ hq
          go_upto_region 6 with (fail)
          go_quiet (fail)
          rename_i nq
          have HB2 := Lib.hid (stepB HB.out (below_drewN (Below.refl wr.heap.size wr) nq))
          go_wp2
          go_roundw
          case rel => exact ⟨k + 1, by omega, rfl, HE2.out, HB2.out⟩
          case measure => simp [intOf]; omega
        · have hne : ∀ W : World, (binOp BinOp.neq 129 (.agg #[.string a, .string v]) (.agg #[.string a', .string v'])).run Try.prog W = .ok (.bool true) W := fun W => by
            have := ne129 (a, v) (a', v') W
            rw [decide_eq_false hq] at this; exact this
          have HF := Lib.hid (HQ.out (fun h => hq (by rw [h.1, h.2])))
          clear HT HQ hq
          go_upto_region 6 with (fail)
          go_quiet (fail)
          rename_i nq
          have HB2 := Lib.hid (stepB HB.out (below_drewN (Below.refl wr.heap.size wr) nq))
          go_wp2
          go_ret
          exact ⟨by rw [HF.out]; rfl, HB2.out⟩
      · have d2 : decide ((k : Int) < (n : Int)) = false := decide_eq_false (by omega)
        obtain rfl : k = n := by omega
        have HF : Hid (b = true) := Lib.hid (by
          rw [← HBB.out]
          refine decide_eq_true ?_
          have e := HE.out
          rw [List.take_of_length_le (by rw [HL.out]; exact Nat.le_refl _), List.take_of_length_le (by rw [HL'.out]; exact Nat.le_refl _)] at e
          exact e)
        go_wp2
        go_ret
        exact ⟨by rw [HF.out]; rfl, HB.out⟩
  · have e0 : ((n : Int) != (n' : Int)) = true := by rw [bne_iff_ne]; omega
    have HF : Hid (decide (L = L') = false) := Lib.hid (decide_eq_false (fun e => hnn (by rw [← HL.out, ← HL'.out, e])))
    rw [HF.out]
    go_enter Try.func73, Try.ntmps73
    go_wp2
    go_ret
    exact ⟨rfl, Below.refl _ _⟩
end Go.Proofs.Ytoinjnocopejjaa

/- Same. -/
namespace Go.Proofs.Ytoinjnocopejjaa
open Go.ChangeShapes Go.WideShapes Go.ChangeAt Go.RowKit Go.Maps
set_option linter.unusedVariables false
set_option linter.unusedSimpArgs false
theorem tl_eq {x y : ByteArray} (h : x = y) : (x.toList == y.toList) = true := by rw [h]; simp
theorem tl_ne {x y : ByteArray} (h : ¬ x = y) : (x.toList == y.toList) = false := by
  rw [beq_eq_false_iff_ne]
  exact fun e => h (tl_injP e)
set_option maxRecDepth 100000 in
set_option maxHeartbeats 1600000 in
theorem same_any (A A' : Option Addr) (n c n' c' : Nat) (a a' : As) (w : World) (hn : n ≤ 100000) (h : RSl pvc 2 w A n a.2.2.2) (h' : RSl pvc 2 w A' n' a'.2.2.2) : Calls Try.prog 39 #[.agg #[.int .i64 a.1, .bool a.2.1, .string a.2.2.1, .slice A n c], .agg #[.int .i64 a'.1, .bool a'.2.1, .string a'.2.2.1, .slice A' n' c']] w fun e w' => e = .returned (.bool (decide (a = a'))) ∧ Below w.heap.size w w' := by
  obtain ⟨e1, f1, v1, L⟩ := a
  obtain ⟨e2, f2, v2, L'⟩ := a'
  simp only at h h' ⊢
  obtain ⟨b, hb⟩ : ∃ b, decide ((e1, f1, v1, L) = (e2, f2, v2, L')) = b := ⟨_, rfl⟩
  rw [hb]
  have HBB := Lib.hid hb
  clear hb
  have hb2 : Below w.heap.size w ((w.alloc (.cells #[.int .i64 e1, .bool f1, .string v1, .slice A n c] 33)).alloc (.cells #[.int .i64 e2, .bool f2, .string v2, .slice A' n' c'] 33)) := ((Below.refl _ _).alloc (Nat.le_refl _) _).alloc (by simp) _
  have HB := Lib.hid hb2
  have K2 : Hid (Blk ((w.alloc (.cells #[.int .i64 e1, .bool f1, .string v1, .slice A n c] 33)).alloc (.cells #[.int .i64 e2, .bool f2, .string v2, .slice A' n' c'] 33)) w.heap.size #[.int .i64 e1, .bool f1, .string v1, .slice A n c] 33) := Lib.hid ((Blk.new w _ 33).alloc _)
  have K3 : Hid (Blk ((w.alloc (.cells #[.int .i64 e1, .bool f1, .string v1, .slice A n c] 33)).alloc (.cells #[.int .i64 e2, .bool f2, .string v2, .slice A' n' c'] 33)) (w.heap.size + 1) #[.int .i64 e2, .bool f2, .string v2, .slice A' n' c'] 33) := Lib.hid (Blk.new2 _ _ 33 (by simp))
  have HEQ : Hid (Calls Try.prog 73 #[.slice A n c, .slice A' n' c'] ((w.alloc (.cells #[.int .i64 e1, .bool f1, .string v1, .slice A n c] 33)).alloc (.cells #[.int .i64 e2, .bool f2, .string v2, .slice A' n' c'] 33)) fun e w' => e = .returned (.bool (decide (L = L'))) ∧ Below ((w.alloc (.cells #[.int .i64 e1, .bool f1, .string v1, .slice A n c] 33)).alloc (.cells #[.int .i64 e2, .bool f2, .string v2, .slice A' n' c'] 33)).heap.size ((w.alloc (.cells #[.int .i64 e1, .bool f1, .string v1, .slice A n c] 33)).alloc (.cells #[.int .i64 e2, .bool f2, .string v2, .slice A' n' c'] 33)) w') := Lib.hid (equal_any A A' n c n' c' L L' _ hn (h.later hb2) (h'.later hb2))
  clear hb2 h h' hn
  have z0 := K2.out.cell 0
  have z1 := K2.out.cell 1
  have z2 := K2.out.cell 2
  have z3 := K2.out.cell 3
  have y0 := K3.out.cell 0
  have y1 := K3.out.cell 1
  have y2 := K3.out.cell 2
  have y3 := K3.out.cell 3
  simp only [List.getElem?_toArray, List.getElem?_cons_zero, List.getElem?_cons_succ] at z0 z1 z2 z3 y0 y1 y2 y3
  by_cases he : e1 = e2
  · have g0 : (e1 == e2) = true := by rw [he]; exact beq_self_eq_true _
    by_cases hf : f1 = f2
    · have g1 : (f1 == f2) = true := by rw [hf]; exact beq_self_eq_true _
      by_cases hv : v1 = v2
      · have g2 := tl_eq hv
        have HX : Hid (decide (L = L') = b) := Lib.hid (by
          rw [← HBB.out]
          subst he hf hv
          by_cases hL : L = L'
          · rw [decide_eq_true hL, decide_eq_true (by rw [hL])]
          · rw [decide_eq_false hL, decide_eq_false (fun e => hL (by simp only [Prod.mk.injEq] at e; exact e.2.2.2))])
        rw [HX.out] at HEQ
        clear he hf hv HX
        go_enter Try.func39, Try.ntmps39
        go_upto_region 1 with (fail)
        generalize (w.alloc (.cells #[.int .i64 e1, .bool f1, .string v1, .slice A n c] 33)).alloc (.cells #[.int .i64 e2, .bool f2, .string v2, .slice A' n' c'] 33) = w2 at *
        go_wp2_with fail
        refine HEQ.out.mono ?_
        rintro e w3 ⟨rfl, hb3⟩
        have HB3 := Lib.hid (stepB HB.out hb3)
        clear hb3 HEQ
        go_wp2
        go_ret
        exact ⟨rfl, HB3.out⟩
      · have g2 := tl_ne hv
        have HX : Hid (b = false) := Lib.hid (by rw [← HBB.out]; exact decide_eq_false (fun e => hv (by simp only [Prod.mk.injEq] at e; exact e.2.2.1)))
        clear he hf hv HEQ
        go_enter Try.func39, Try.ntmps39
        go_upto_region 1 with (fail)
        generalize (w.alloc (.cells #[.int .i64 e1, .bool f1, .string v1, .slice A n c] 33)).alloc (.cells #[.int .i64 e2, .bool f2, .string v2, .slice A' n' c'] 33) = w2 at *
        go_wp2
        go_ret
        exact ⟨by rw [HX.out]; rfl, HB.out⟩
    · have g1 : (f1 == f2) = false := beq_eq_false_iff_ne.2 hf
      have HX : Hid (b = false) := Lib.hid (by rw [← HBB.out]; exact decide_eq_false (fun e => hf (by simp only [Prod.mk.injEq] at e; exact e.2.1)))
      clear he hf HEQ
      go_enter Try.func39, Try.ntmps39
      go_upto_region 1 with (fail)
      generalize (w.alloc (.cells #[.int .i64 e1, .bool f1, .string v1, .slice A n c] 33)).alloc (.cells #[.int .i64 e2, .bool f2, .string v2, .slice A' n' c'] 33) = w2 at *
      go_wp2
      go_ret
      exact ⟨by rw [HX.out]; rfl, HB.out⟩
  · have g0 : (e1 == e2) = false := beq_eq_false_iff_ne.2 he
    have HX : Hid (b = false) := Lib.hid (by rw [← HBB.out]; exact decide_eq_false (fun e => he (by simp only [Prod.mk.injEq] at e; exact e.1)))
    clear he HEQ
    go_enter Try.func39, Try.ntmps39
    go_upto_region 1 with (fail)
    generalize (w.alloc (.cells #[.int .i64 e1, .bool f1, .string v1, .slice A n c] 33)).alloc (.cells #[.int .i64 e2, .bool f2, .string v2, .slice A' n' c'] 33) = w2 at *
    go_wp2
    go_ret
    exact ⟨by rw [HX.out]; rfl, HB.out⟩
end Go.Proofs.Ytoinjnocopejjaa

/- The document's Answers. -/
namespace Go.Proofs.Ytoinjnocopejjaa
open Go.ChangeShapes Go.WideShapes Go.ChangeAt Go.RowKit Go.Maps
set_option linter.unusedVariables false
set_option linter.unusedSimpArgs false
set_option maxRecDepth 100000 in
set_option maxHeartbeats 1600000 in
theorem answers_any (A A' : Option Addr) (n c n' c' : Nat) (a a' : As) (w : World) (hn : n ≤ 100000) (h : RSl pvc 2 w A n a.2.2.2) (h' : RSl pvc 2 w A' n' a'.2.2.2) : Calls Try.prog 37 #[.agg #[.int .i64 a.1, .bool a.2.1, .string a.2.2.1, .slice A n c], .agg #[.int .i64 a'.1, .bool a'.2.1, .string a'.2.2.1, .slice A' n' c']] w fun e w' => e = .returned (.bool (decide (a = a'))) ∧ Below w.heap.size w w' := by
  obtain ⟨e1, f1, v1, L⟩ := a
  obtain ⟨e2, f2, v2, L'⟩ := a'
  simp only at h h' ⊢
  obtain ⟨b, hb⟩ : ∃ b, decide ((e1, f1, v1, L) = (e2, f2, v2, L')) = b := ⟨_, rfl⟩
  rw [hb]
  have HBB := Lib.hid hb
  clear hb
  have hb2 : Below w.heap.size w ((w.alloc (.cells #[.int .i64 e1, .bool f1, .string v1, .slice A n c] 33)).alloc (.cells #[.int .i64 e2, .bool f2, .string v2, .slice A' n' c'] 33)) := ((Below.refl _ _).alloc (Nat.le_refl _) _).alloc (by simp) _
  have HB := Lib.hid hb2
  have K2 : Hid (Blk ((w.alloc (.cells #[.int .i64 e1, .bool f1, .string v1, .slice A n c] 33)).alloc (.cells #[.int .i64 e2, .bool f2, .string v2, .slice A' n' c'] 33)) w.heap.size #[.int .i64 e1, .bool f1, .string v1, .slice A n c] 33) := Lib.hid ((Blk.new w _ 33).alloc _)
  have K3 : Hid (Blk ((w.alloc (.cells #[.int .i64 e1, .bool f1, .string v1, .slice A n c] 33)).alloc (.cells #[.int .i64 e2, .bool f2, .string v2, .slice A' n' c'] 33)) (w.heap.size + 1) #[.int .i64 e2, .bool f2, .string v2, .slice A' n' c'] 33) := Lib.hid (Blk.new2 _ _ 33 (by simp))
  have HR := Lib.hid (h.later hb2)
  have HR' := Lib.hid (h'.later hb2)
  have HN := Lib.hid hn
  have HL : Hid (L.length = n) := Lib.hid h.1
  have HL' : Hid (L'.length = n') := Lib.hid h'.1
  clear hb2 h h' hn
  have z0 := K2.out.cell 0
  have z1 := K2.out.cell 1
  have z2 := K2.out.cell 2
  have z3 := K2.out.cell 3
  have y0 := K3.out.cell 0
  have y1 := K3.out.cell 1
  have y2 := K3.out.cell 2
  have y3 := K3.out.cell 3
  simp only [List.getElem?_toArray, List.getElem?_cons_zero, List.getElem?_cons_succ] at z0 z1 z2 z3 y0 y1 y2 y3
  by_cases he : e1 = e2
  · have g0 : (e1 != e2) = false := by rw [he]; exact bne_self_eq_false _
    by_cases hf : f1 = f2
    · have g1 : (f1 != f2) = false := by rw [hf]; exact bne_self_eq_false _
      have g1' : (f1 == f2) = true := by rw [hf]; exact beq_self_eq_true _
      by_cases hv : v1 = v2
      · have g2 := tl_eq hv
        have g2' : (v1.toList != v2.toList) = false := by rw [hv]; exact bne_self_eq_false _
        by_cases hnn : n = n'
        · have HX : Hid (decide (L = L') = b) := Lib.hid (by
            rw [← HBB.out]
            subst he hf hv
            by_cases hL : L = L'
            · rw [decide_eq_true hL, decide_eq_true (by rw [hL])]
            · rw [decide_eq_false hL, decide_eq_false (fun e => hL (by simp only [Prod.mk.injEq] at e; exact e.2.2.2))])
          clear he hf hv
          replace HBB := HX
          subst hnn
          have g3 : ((n : Int) != (n : Int)) = false := bne_self_eq_false _
          clear HX
          go_enter Try.func37, Try.ntmps37
          go_upto_region 1 with (fail)
          generalize (w.alloc (.cells #[.int .i64 e1, .bool f1, .string v1, .slice A n c] 33)).alloc (.cells #[.int .i64 e2, .bool f2, .string v2, .slice A' n c'] 33) = w2 at *
          go_wp2
          clear z0 z1 z2 z3 y0 y1 y2 y3
          go_loopw [5] (fun i W => ∃ (k : Nat), k ≤ n ∧ i = .int .i64 k ∧ L.take k = L'.take k ∧ Below w2.heap.size w2 W) (fun i _ => n - (intOf i).toNat)
          case atStart => exact ⟨0, Nat.zero_le _, rfl, rfl, Below.refl _ _⟩
          case round =>
            obtain ⟨k, hk, rfl, heq, hb⟩ := hrel
            have HBW := Lib.hid hb
            have HE := Lib.hid heq
            clear heq
            have z3 := (K2.out.later hb).cell 3
            have y3 := (K3.out.later hb).cell 3
            simp only [List.getElem?_toArray, List.getElem?_cons_zero, List.getElem?_cons_succ] at z3 y3
            clear hb
            by_cases hlt : k < n
            · have d2 : decide ((k : Int) < (n : Int)) = true := decide_eq_true (by omega)
              have wk : IntKind.i64.wrap ((k : Int) + 1) = (k : Int) + 1 := IntWalk.i64_in _ (by have := HN.out; omega)
              obtain ⟨g, off, rfl, hg, hc⟩ := (HR.out).2 (by omega)
              obtain ⟨g', off', rfl, hg', hc'⟩ := HR'.out.2 (by omega)
              have hr : L[k]? = some (L[k]'(by rw [HL.out]; exact hlt)) := List.getElem?_eq_getElem _
              have hr' : L'[k]? = some (L'[k]'(by rw [HL'.out]; exact hlt)) := List.getElem?_eq_getElem _
              generalize L[k]'(by rw [HL.out]; exact hlt) = q at *
              generalize L'[k]'(by rw [HL'.out]; exact hlt) = q' at *
              obtain ⟨a, v⟩ := q
              obtain ⟨a', v'⟩ := q'
              have y0 := (HBW.out.cell (p := ⟨g, off + k * 2 + 0, none⟩) hg).trans (hc k _ hr 0 (by decide))
              have y1 := (HBW.out.cell (p := ⟨g, off + k * 2 + 1, none⟩) hg).trans (hc k _ hr 1 (by decide))
              have x0 := (HBW.out.cell (p := ⟨g', off' + k * 2 + 0, none⟩) hg').trans (hc' k _ hr' 0 (by decide))
              have x1 := (HBW.out.cell (p := ⟨g', off' + k * 2 + 1, none⟩) hg').trans (hc' k _ hr' 1 (by decide))
              simp only [pvc, List.getElem?_cons_zero, List.getElem?_cons_succ, Nat.add_zero] at y0 y1 x0 x1
              have i1 := idx31 g off n c k (k : Int) rfl hlt
              have i2 := idx31 g' off' n c' k (k : Int) rfl hlt
              have HT : Hid (L.take (k + 1) = L.take k ++ [(a, v)] ∧ L'.take (k + 1) = L'.take k ++ [(a', v')]) := Lib.hid ⟨by rw [List.take_add_one, hr]; rfl, by rw [List.take_add_one, hr']; rfl⟩
              have HQ : Hid (¬ (a = a' ∧ v = v') → b = false) := Lib.hid (fun hne => by
                rw [← HBB.out]
                refine decide_eq_false (fun e => hne ?_)
                rw [e, hr'] at hr
                simp only [Option.some.injEq, Prod.mk.injEq] at hr
                exact ⟨hr.1.symm, hr.2.symm⟩)
              clear hc hc' hg hg' hr hr'
              by_cases hq : (a, v) = (a', v')
              · have hne : ∀ W : World, (binOp BinOp.neq 129 (.agg #[.string a, .string v]) (.agg #[.string a', .string v'])).run Try.prog W = .ok (.bool false) W := fun W => by
                  have := ne129 (a, v) (a', v') W
                  rw [decide_eq_true hq] at this; exact this
                have HE2 : Hid (L.take (k + 1) = L'.take (k + 1)) := Lib.hid (by rw [HT.out.1, HT.out.2, HE.out, hq])
                clear HT HQ hq
                go_upto_region 6 with (fail)
                go_quiet (fail)
                rename_i nq
                have HB2 := Lib.hid (stepB HBW.out (below_drewN (Below.refl wr.heap.size wr) nq))
                go_wp2
                go_roundw
                case rel => exact ⟨k + 1, by omega, rfl, HE2.out, HB2.out⟩
                case measure => simp [intOf]; omega
              · have hne : ∀ W : World, (binOp BinOp.neq 129 (.agg #[.string a, .string v]) (.agg #[.string a', .string v'])).run Try.prog W = .ok (.bool true) W := fun W => by
                  have := ne129 (a, v) (a', v') W
                  rw [decide_eq_false hq] at this; exact this
                have HF := Lib.hid (HQ.out (fun h => hq (by rw [h.1, h.2])))
                clear HT HQ hq
                go_upto_region 6 with (fail)
                go_quiet (fail)
                rename_i nq
                have HB2 := Lib.hid (stepB HBW.out (below_drewN (Below.refl wr.heap.size wr) nq))
                go_wp2
                go_ret
                exact ⟨by rw [HF.out]; rfl, HB.out.trans (HB2.out.mono HB.out.size)⟩
            · have d2 : decide ((k : Int) < (n : Int)) = false := decide_eq_false (by omega)
              obtain rfl : k = n := by omega
              have HF : Hid (b = true) := Lib.hid (by
                rw [← HBB.out]
                refine decide_eq_true ?_
                have e := HE.out
                rw [List.take_of_length_le (by rw [HL.out]; exact Nat.le_refl _), List.take_of_length_le (by rw [HL'.out]; exact Nat.le_refl _)] at e
                exact e)
              go_wp2
              go_ret
              exact ⟨by rw [HF.out]; rfl, HB.out.trans (HBW.out.mono HB.out.size)⟩
        · have g3 : ((n : Int) != (n' : Int)) = true := by rw [bne_iff_ne]; omega
          have HX : Hid (b = false) := Lib.hid (by rw [← HBB.out]; exact decide_eq_false (fun e => hnn (by rw [← HL.out, ← HL'.out, (by simp only [Prod.mk.injEq] at e; exact e.2.2.2 : L = L')])))
          clear he hf hv hnn
          go_enter Try.func37, Try.ntmps37
          go_upto_region 1 with (fail)
          generalize (w.alloc (.cells #[.int .i64 e1, .bool f1, .string v1, .slice A n c] 33)).alloc (.cells #[.int .i64 e2, .bool f2, .string v2, .slice A' n' c'] 33) = w2 at *
          go_wp2
          go_ret
          exact ⟨by rw [HX.out]; rfl, HB.out⟩
      · have g2 := tl_ne hv
        have g2' : (v1.toList != v2.toList) = true := by rw [bne, g2]; rfl
        have HX : Hid (b = false) := Lib.hid (by rw [← HBB.out]; exact decide_eq_false (fun e => hv (by simp only [Prod.mk.injEq] at e; exact e.2.2.1)))
        clear he hf hv
        go_enter Try.func37, Try.ntmps37
        go_upto_region 1 with (fail)
        generalize (w.alloc (.cells #[.int .i64 e1, .bool f1, .string v1, .slice A n c] 33)).alloc (.cells #[.int .i64 e2, .bool f2, .string v2, .slice A' n' c'] 33) = w2 at *
        go_wp2
        go_ret
        exact ⟨by rw [HX.out]; rfl, HB.out⟩
    · have g1 : (f1 != f2) = true := by rw [bne_iff_ne]; exact hf
      have g1' : (f1 == f2) = false := beq_eq_false_iff_ne.2 hf
      have HX : Hid (b = false) := Lib.hid (by rw [← HBB.out]; exact decide_eq_false (fun e => hf (by simp only [Prod.mk.injEq] at e; exact e.2.1)))
      clear he hf
      go_enter Try.func37, Try.ntmps37
      go_upto_region 1 with (fail)
      generalize (w.alloc (.cells #[.int .i64 e1, .bool f1, .string v1, .slice A n c] 33)).alloc (.cells #[.int .i64 e2, .bool f2, .string v2, .slice A' n' c'] 33) = w2 at *
      go_wp2
      go_ret
      exact ⟨by rw [HX.out]; rfl, HB.out⟩
  · have g0 : (e1 != e2) = true := by rw [bne_iff_ne]; exact he
    have HX : Hid (b = false) := Lib.hid (by rw [← HBB.out]; exact decide_eq_false (fun e => he (by simp only [Prod.mk.injEq] at e; exact e.1)))
    clear he
    go_enter Try.func37, Try.ntmps37
    go_upto_region 1 with (fail)
    generalize (w.alloc (.cells #[.int .i64 e1, .bool f1, .string v1, .slice A n c] 33)).alloc (.cells #[.int .i64 e2, .bool f2, .string v2, .slice A' n' c'] 33) = w2 at *
    go_wp2
    go_ret
    exact ⟨by rw [HX.out]; rfl, HB.out⟩
end Go.Proofs.Ytoinjnocopejjaa
