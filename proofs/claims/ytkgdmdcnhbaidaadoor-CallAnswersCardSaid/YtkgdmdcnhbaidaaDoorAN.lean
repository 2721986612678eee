/- The document's Answers: are two answers the same? -/
import Derived.Test.YtkgdmdcnhbaidaaDoorRD
import Derived.Test.YtkgdmdcnhbaidaaDoorLG
import Derived.StillTailTactics
namespace Go.Proofs.YtkgdmdcnhbaidaaDoor
open Go.ChangeShapes Go.WideShapes Go.ChangeAt Go.RowKit
set_option linter.unusedVariables false
set_option linter.unusedSimpArgs false

def Bl (b : Bool) (w : World) (e : Ending) (w' : World) : Prop := e = .returned (.bool b) ∧ Below w.heap.size w w'
theorem tl_inj {x y : ByteArray} (h : x.toList = y.toList) : x = y := by
  rw [ByteArray.toList_eq, ByteArray.toList_eq] at h
  exact ByteArray.ext (Array.toList_inj.1 h)
theorem seq_yes {x y : ByteArray} (h : x = y) : (x.toList == y.toList) = true := by rw [h]; simp
theorem seq_no {x y : ByteArray} (h : ¬ x = y) : (x.toList == y.toList) = false := by
  rw [beq_eq_false_iff_ne]
  exact fun e => h (tl_inj e)
theorem ne42 (p q : Pr) (w : World) : (binOp BinOp.neq 42 (.agg #[.string p.1, .string p.2]) (.agg #[.string q.1, .string q.2])).run Tryd.prog w = .ok (.bool (!decide (p = q))) w := by
  obtain ⟨a, b⟩ := p
  obtain ⟨c, d⟩ := q
  go_simp
  have k1 : (a.toList = c.toList) = (a = c) := propext ⟨tl_inj, fun e => by rw [e]⟩
  have k2 : (b.toList = d.toList) = (b = d) := propext ⟨tl_inj, fun e => by rw [e]⟩
  simp only [k1, k2]
  by_cases h1 : a = c <;> by_cases h2 : b = d <;> simp [h1, h2]
theorem take_succ_eq {α : Type} {l m : List α} {k : Nat} {x y : α} (hx : l[k]? = some x) (hy : m[k]? = some y) (h : l.take k = m.take k) (e : x = y) : l.take (k + 1) = m.take (k + 1) := by
  rw [List.take_add_one, List.take_add_one, hx, hy, h, e]
set_option maxRecDepth 100000 in
set_option maxHeartbeats 4000000 in
theorem ans_any (er er2 : Int) (fo fo2 : Bool) (va va2 : ByteArray) (A A2 : Option Addr) (n n2 c c2 : Nat) (ps ps2 : List Pr) (w : World) (h : RSl pvc 2 w A n ps) (h2 : RSl pvc 2 w A2 n2 ps2) (hn : n ≤ 100000) : Calls Tryd.prog 41 #[.agg #[.int .i64 er, .bool fo, .string va, .slice A n c], .agg #[.int .i64 er2, .bool fo2, .string va2, .slice A2 n2 c2]] w (Bl (decide (((er, fo, va, ps) : As) = (er2, fo2, va2, ps2))) w) := by
  obtain ⟨r, hr⟩ : ∃ r, decide (((er, fo, va, ps) : As) = (er2, fo2, va2, ps2)) = r := ⟨_, rfl⟩
  rw [hr]
  have HR := Lib.hid hr
  have HL : Hid (ps.length = n ∧ ps2.length = n2) := ⟨h.1, h2.1⟩
  have HB : Hid (Below w.heap.size w ((w.alloc (.cells #[.int .i64 er, .bool fo, .string va, .slice A n c] 37)).alloc (.cells #[.int .i64 er2, .bool fo2, .string va2, .slice A2 n2 c2] 37))) := ((Below.refl _ _).alloc (Nat.le_refl _) _).alloc (by simp) _
  have HK1 : Hid (Blk ((w.alloc (.cells #[.int .i64 er, .bool fo, .string va, .slice A n c] 37)).alloc (.cells #[.int .i64 er2, .bool fo2, .string va2, .slice A2 n2 c2] 37)) w.heap.size #[.int .i64 er, .bool fo, .string va, .slice A n c] 37) := (Blk.new w _ 37).alloc _
  have HK2 : Hid (Blk ((w.alloc (.cells #[.int .i64 er, .bool fo, .string va, .slice A n c] 37)).alloc (.cells #[.int .i64 er2, .bool fo2, .string va2, .slice A2 n2 c2] 37)) (w.heap.size + 1) #[.int .i64 er2, .bool fo2, .string va2, .slice A2 n2 c2] 37) := Blk.new2 _ _ 37 (by simp)
  have HP := Lib.hid h
  have HP2 := Lib.hid h2
  clear hr h h2
  by_cases h1 : er = er2
  · have q1 : (er != er2) = false := by rw [h1]; simp
    by_cases h2 : fo = fo2
    · subst h2
      by_cases h3 : va = va2
      · have q3 : (va.toList == va2.toList) = true := seq_yes h3
        by_cases h4 : n = n2
        · have q4 : ((n : Int) != (n2 : Int)) = false := by rw [h4]; simp
          have HE : Hid (decide (ps = ps2) = r) := by
            show _ = _
            rw [← HR.out, h1, h3]
            by_cases h4 : ps = ps2 <;> simp [h4]
          have HN2 : Hid (n2 = n) := h4.symm
          clear h1 h3 h4 HR
          obtain ⟨qa, hqa⟩ : ∃ q, w.heap.size = q := ⟨_, rfl⟩
          rw [hqa] at HK1 HK2
          go_enter Tryd.func41, Tryd.ntmps41
          go_wp2
          try rw [hqa]
          clear hqa
          go_loopw [5] (fun i W => ∃ k : Nat, k ≤ n ∧ i = .int .i64 k ∧ ps.take k = ps2.take k ∧ Blk W qa #[.int .i64 er, .bool fo, .string va, .slice A n c] 37 ∧ Blk W (qa + 1) #[.int .i64 er2, .bool fo, .string va2, .slice A2 n2 c2] 37 ∧ Below w.heap.size w W) (fun i _ => n - (intOf i).toNat)
          case atStart => exact ⟨0, Nat.zero_le _, rfl, by simp, HK1.out, HK2.out, HB.out⟩
          case round =>
            obtain ⟨k, hk, rfl, ht, hb1, hb2, hb⟩ := hrel
            have HT := Lib.hid ht
            have HA := Lib.hid hb1
            have HC := Lib.hid hb2
            have HBW := Lib.hid hb
            clear ht hb1 hb2 hb HK1 HK2 HB
            have z3 := HA.out.cell 3
            have v3 := HC.out.cell 3
            simp only [List.getElem?_toArray, List.getElem?_cons_zero, List.getElem?_cons_succ] at z3 v3
            by_cases hlt : k < n
            · have d1 : decide ((k : Int) < (n : Int)) = true := decide_eq_true (by omega)
              have wk : IntKind.i64.wrap ((k : Int) + 1) = (k : Int) + 1 := IntWalk.i64_in _ (by omega)
              obtain ⟨g, off, e1, hg, hc⟩ := (HP.out.later HBW.out).2 (by omega)
              obtain ⟨g2, off2, e2, hg2, hc2⟩ := (HP2.out.later HBW.out).2 (by have := HN2.out; omega)
              subst e1 e2
              have i5 := idx35 g off n c k (k : Int) rfl hlt
              have i6 := idx35 g2 off2 n2 c2 k (k : Int) rfl (by have := HN2.out; omega)
              have hx : ps[k]? = some (ps[k]'(by rw [HL.out.1]; exact hlt)) := List.getElem?_eq_getElem _
              have hy : ps2[k]? = some (ps2[k]'(by rw [HL.out.2, HN2.out]; exact hlt)) := List.getElem?_eq_getElem _
              have x0 := hc k _ hx 0 (by decide)
              have x1 := hc k _ hx 1 (by decide)
              have y0 := hc2 k _ hy 0 (by decide)
              have y1 := hc2 k _ hy 1 (by decide)
              have HX := Lib.hid hx
              have HY := Lib.hid hy
              clear hc hc2 hx hy hg hg2
              generalize ps[k]'(by rw [HL.out.1]; exact hlt) = p1 at *
              generalize ps2[k]'(by rw [HL.out.2, HN2.out]; exact hlt) = p2 at *
              obtain ⟨a, b⟩ := p1
              obtain ⟨a2, b2⟩ := p2
              simp only [pvc, List.getElem?_cons_zero, List.getElem?_cons_succ, Nat.add_zero] at x0 x1 y0 y1
              have qe := ne42 (a, b) (a2, b2)
              simp only at qe
              by_cases he : ((a, b) : Pr) = (a2, b2)
              · rw [decide_eq_true he] at qe
                have HEE := Lib.hid he
                clear he
                go_upto_region 6 with (fail)
                go_quiet (fail)
                clear x0 x1 y0 y1 i5 i6 qe z3 v3
                have hbn := below_drewN (Below.refl wr.heap.size wr) nq
                have HBn := Lib.hid (stepB HBW.out hbn)
                have HAn := Lib.hid (HA.out.later hbn)
                have HCn := Lib.hid (HC.out.later hbn)
                clear hbn
                go_wp2
                go_roundw
                case rel => exact ⟨k + 1, by omega, by go_num, take_succ_eq HX.out HY.out HT.out HEE.out, HAn.out, HCn.out, HBn.out⟩
                case measure => simp [intOf]; omega
              · rw [decide_eq_false he] at qe
                have HEE : Hid (r = false) := by
                  show _ = _
                  rw [← HE.out]
                  refine decide_eq_false (fun e => he ?_)
                  have h1 := HX.out
                  rw [e, HY.out] at h1
                  exact (Option.some.inj h1).symm
                clear he
                go_upto_region 6 with (fail)
                go_quiet (fail)
                clear x0 x1 y0 y1 i5 i6 qe z3 v3
                have hbn := below_drewN (Below.refl wr.heap.size wr) nq
                have HBn := Lib.hid (stepB HBW.out hbn)
                clear hbn
                go_wp2
                go_ret
                exact ⟨by rw [HEE.out]; rfl, HBn.out⟩
            · obtain rfl : k = n := by omega
              have d1 : decide ((k : Int) < (k : Int)) = false := decide_eq_false (by omega)
              have HEE : Hid (r = true) := by
                show _ = _
                rw [← HE.out]
                refine decide_eq_true ?_
                have h1 := HT.out
                rw [List.take_of_length_le (by rw [HL.out.1]; exact Nat.le_refl _), List.take_of_length_le (by rw [HL.out.2, HN2.out]; exact Nat.le_refl _)] at h1
                exact h1
              go_wp2
              go_ret
              exact ⟨by rw [HEE.out]; rfl, HBW.out⟩
        · have q4 : ((n : Int) != (n2 : Int)) = true := by simp; omega
          have HE : Hid (r = false) := by
            show _ = _
            rw [← HR.out]
            exact decide_eq_false (fun e => h4 (by simp only [Prod.mk.injEq] at e; rw [← HL.out.1, ← HL.out.2, e.2.2.2]))
          clear h1 h3 h4
          go_enter Tryd.func41, Tryd.ntmps41
          go_wp2
          go_ret
          exact ⟨by rw [HE.out]; rfl, HB.out⟩
      · have q3 : (va.toList == va2.toList) = false := seq_no h3
        have HE : Hid (r = false) := by
          show _ = _
          rw [← HR.out]
          exact decide_eq_false (fun e => h3 (by simp only [Prod.mk.injEq] at e; exact e.2.2.1))
        clear h1 h3
        go_enter Tryd.func41, Tryd.ntmps41
        go_wp2
        go_ret
        exact ⟨by rw [HE.out]; rfl, HB.out⟩
    ·
      have HE : Hid (r = false) := by
        show _ = _
        rw [← HR.out]
        exact decide_eq_false (fun e => h2 (by simp only [Prod.mk.injEq] at e; exact e.2.1))
      obtain rfl : fo2 = !fo := by cases fo <;> cases fo2 <;> simp_all
      clear h1 h2
      go_enter Tryd.func41, Tryd.ntmps41
      go_wp2
      go_ret
      exact ⟨by rw [HE.out]; rfl, HB.out⟩
  · have q1 : (er != er2) = true := by simpa using h1
    have HE : Hid (r = false) := by
      show _ = _
      rw [← HR.out]
      exact decide_eq_false (fun e => h1 (by simp only [Prod.mk.injEq] at e; exact e.1))
    clear h1
    go_enter Tryd.func41, Tryd.ntmps41
    go_wp2
    go_ret
    exact ⟨by rw [HE.out]; rfl, HB.out⟩
set_option maxRecDepth 100000 in
set_option maxHeartbeats 16000000 in
theorem answers_any (er er2 : Int) (fo fo2 : Bool) (va va2 : ByteArray) (A A2 : Option Addr) (n n2 c c2 : Nat) (ps ps2 : List Pr) (w : World) (h : RSl pvc 2 w A n ps) (h2 : RSl pvc 2 w A2 n2 ps2) (hn : n ≤ 100000) : Calls Tryd.prog 18 #[.agg #[.int .i64 er, .bool fo, .string va, .slice A n c], .agg #[.int .i64 er2, .bool fo2, .string va2, .slice A2 n2 c2]] w (Bl (decide (((er, fo, va, ps) : As) = (er2, fo2, va2, ps2))) w) := by
  have HB : Hid (Below w.heap.size w ((w.alloc (.cells #[.int .i64 er, .bool fo, .string va, .slice A n c] 37)).alloc (.cells #[.int .i64 er2, .bool fo2, .string va2, .slice A2 n2 c2] 37))) := ((Below.refl _ _).alloc (Nat.le_refl _) _).alloc (by simp) _
  have HK1 : Hid (Blk ((w.alloc (.cells #[.int .i64 er, .bool fo, .string va, .slice A n c] 37)).alloc (.cells #[.int .i64 er2, .bool fo2, .string va2, .slice A2 n2 c2] 37)) w.heap.size #[.int .i64 er, .bool fo, .string va, .slice A n c] 37) := (Blk.new w _ 37).alloc _
  have HK2 : Hid (Blk ((w.alloc (.cells #[.int .i64 er, .bool fo, .string va, .slice A n c] 37)).alloc (.cells #[.int .i64 er2, .bool fo2, .string va2, .slice A2 n2 c2] 37)) (w.heap.size + 1) #[.int .i64 er2, .bool fo2, .string va2, .slice A2 n2 c2] 37) := Blk.new2 _ _ 37 (by simp)
  have HP := Lib.hid (h.later HB.out)
  have HP2 := Lib.hid (h2.later HB.out)
  obtain ⟨r, hr⟩ : ∃ r, decide (((er, fo, va, ps) : As) = (er2, fo2, va2, ps2)) = r := ⟨_, rfl⟩
  have HR := Lib.hid hr
  rw [hr]
  clear h h2 hr
  go_enter Tryd.func18, Tryd.ntmps18
  go_upto_region 1 with (fail)
  generalize ((w.alloc (.cells #[.int .i64 er, .bool fo, .string va, .slice A n c] 37)).alloc (.cells #[.int .i64 er2, .bool fo2, .string va2, .slice A2 n2 c2] 37)) = w2 at *
  obtain ⟨px, hpx⟩ : ∃ x, w.heap.size = x := ⟨_, rfl⟩
  have HPX := Lib.hid hpx
  rw [hpx] at HK1 HK2 ⊢
  clear hpx
  have HC := Lib.hid (ans_any er er2 fo fo2 va va2 A A2 n n2 c c2 ps ps2 w2 HP.out HP2.out hn)
  rw [HR.out] at HC
  have HD := HB
  have x0 := HK1.out.cell 0
  have x1 := HK1.out.cell 1
  have x2 := HK1.out.cell 2
  have x3 := HK1.out.cell 3
  have y0 := HK2.out.cell 0
  have y1 := HK2.out.cell 1
  have y2 := HK2.out.cell 2
  have y3 := HK2.out.cell 3
  simp only [List.getElem?_toArray, List.getElem?_cons_zero, List.getElem?_cons_succ] at x0 x1 x2 x3 y0 y1 y2 y3
  clear HK1 HK2 HP HP2 HB HR
  go_wp2_with fail
  refine HC.out.mono ?_
  rintro e w3 ⟨rfl, hb⟩
  have HB3 := Lib.hid (stepB HD.out hb)
  clear hb HC HD
  go_wp2
  go_ret
  exact ⟨rfl, by have := HPX.out; exact HB3.out⟩
end Go.Proofs.YtkgdmdcnhbaidaaDoor
