/- The same pairs, answers, events, histories. -/
import Derived.Test.YtgbcncfgpdlmiaaH
namespace Go.Proofs.Ytgbcncfgpdlmiaa
open Go.ChangeShapes Go.WideShapes Go.ChangeAt Go.RowKit Go.Maps
set_option linter.unusedVariables false
set_option linter.unusedSimpArgs false

instance decEv : DecidableEq Ev := fun a b => decidable_of_iff (a.1 = b.1 ∧ a.2.1 = b.2.1 ∧ a.2.2.1 = b.2.2.1 ∧ a.2.2.2 = b.2.2.2) ⟨fun h => Prod.ext h.1 (Prod.ext h.2.1 (Prod.ext h.2.2.1 h.2.2.2)), fun h => by rw [h]; exact ⟨rfl, rfl, rfl, rfl⟩⟩
theorem tl_inj {x y : ByteArray} (h : x.toList = y.toList) : x = y := by
  rw [ByteArray.toList_eq, ByteArray.toList_eq] at h
  exact ByteArray.ext (Array.toList_inj.1 h)
theorem seq_yes {x y : ByteArray} (h : x = y) : (x.toList == y.toList) = true := by rw [h]; simp
theorem seq_no {x y : ByteArray} (h : ¬ x = y) : (x.toList == y.toList) = false := by
  rw [beq_eq_false_iff_ne]
  exact fun e => h (tl_inj e)
theorem seq_dec (x y : ByteArray) : (x.toList == y.toList) = decide (x = y) := by
  by_cases h : x = y
  · rw [seq_yes h, decide_eq_true h]
  · rw [seq_no h, decide_eq_false h]
theorem ne53 (p q : Pr) (w : World) : (binOp BinOp.neq 53 (.agg #[.string p.1, .string p.2]) (.agg #[.string q.1, .string q.2])).run Try.prog w = .ok (.bool (!decide (p = q))) w := by
  obtain ⟨a, b⟩ := p
  obtain ⟨c, d⟩ := q
  go_simp
  have k1 : (a.toList = c.toList) = (a = c) := propext ⟨tl_inj, fun e => by rw [e]⟩
  have k2 : (b.toList = d.toList) = (b = d) := propext ⟨tl_inj, fun e => by rw [e]⟩
  simp only [k1, k2]
  by_cases h1 : a = c <;> by_cases h2 : b = d <;> simp [h1, h2]
theorem idx29 (g off m c k : Nat) (i : Int) (hi : i = (k : Int)) (h : k < m) (W : World) : (Instr.indexAt 29 (.slice (some ⟨g, off, none⟩) m c) (.int .i64 i)).run Try.prog W = .ok (.pointer (some ⟨g, off + k * 2, none⟩)) W := by
  subst hi
  have h1 : (0 : Int) ≤ (k : Int) ∧ (k : Int) < (m : Int) := by omega
  go_simp
theorem take_succ_eq {α : Type} {l m : List α} {k : Nat} {x y : α} (hx : l[k]? = some x) (hy : m[k]? = some y) (h : l.take k = m.take k) (e : x = y) : l.take (k + 1) = m.take (k + 1) := by
  rw [List.take_add_one, List.take_add_one, hx, hy, h, e]
set_option maxRecDepth 100000 in
set_option maxHeartbeats 4000000 in
theorem eqp_any (A A2 : Option Addr) (n n2 c c2 : Nat) (ps ps2 : List Pr) (w : World) (h : PO w (A, n, c) ps) (h2 : PO w (A2, n2, c2) ps2) (hn : n ≤ 100000) : Calls Try.prog 57 #[.slice A n c, .slice A2 n2 c2] w fun e w' => e = .returned (.bool (decide (ps = ps2))) ∧ Below w.heap.size w w' := by
  have HL : Hid (ps.length = n ∧ ps2.length = n2) := ⟨h.rd.1, h2.rd.1⟩
  obtain ⟨r, hr⟩ : ∃ r, decide (ps = ps2) = r := ⟨_, rfl⟩
  rw [hr]
  have HR := Lib.hid hr
  have HP := Lib.hid h
  have HP2 := Lib.hid h2
  clear hr h h2
  by_cases hnn : n = n2
  · subst hnn
    have q1 : ((n : Int) != (n : Int)) = false := by simp
    go_enter Try.func57, Try.ntmps57
    go_wp2
    go_loopw [5, 13] (fun u i W => ∃ k : Nat, k ≤ n ∧ i = .int .i64 k ∧ ps.take k = ps2.take k ∧ Below w.heap.size w W) (fun _ i _ => n - (intOf i).toNat)
    case atStart => exact ⟨0, Nat.zero_le _, rfl, by simp, Below.refl _ _⟩
    case round =>
      obtain ⟨k, hk, rfl, ht, hb⟩ := hrel
      have HT := Lib.hid ht
      have HB := Lib.hid hb
      clear ht hb
      by_cases hlt : k < n
      · have d1 : decide ((k : Int) < (n : Int)) = true := decide_eq_true (by omega)
        have wk : IntKind.i64.wrap ((k : Int) + 1) = (k : Int) + 1 := IntWalk.i64_in _ (by omega)
        obtain ⟨g, off, e1, hg, hc⟩ := (HP.out.later HB.out).rd.2 (by simp only; omega)
        obtain ⟨g2, off2, e2, hg2, hc2⟩ := (HP2.out.later HB.out).rd.2 (by simp only; omega)
        simp only at e1 e2
        subst e1 e2
        have i5 := idx29 g off n c k (k : Int) rfl hlt
        have i6 := idx29 g2 off2 n c2 k (k : Int) rfl hlt
        have hx : ps[k]? = some (ps[k]'(by rw [HL.out.1]; exact hlt)) := List.getElem?_eq_getElem _
        have hy : ps2[k]? = some (ps2[k]'(by rw [HL.out.2]; exact hlt)) := List.getElem?_eq_getElem _
        have x0 := hc k _ hx 0 (by decide)
        have x1 := hc k _ hx 1 (by decide)
        have y0 := hc2 k _ hy 0 (by decide)
        have y1 := hc2 k _ hy 1 (by decide)
        have HX := Lib.hid hx
        have HY := Lib.hid hy
        clear hc hc2 hx hy hg hg2
        generalize ps[k]'(by rw [HL.out.1]; exact hlt) = p1 at *
        generalize ps2[k]'(by rw [HL.out.2]; exact hlt) = p2 at *
        obtain ⟨a, b⟩ := p1
        obtain ⟨a2, b2⟩ := p2
        simp only [prc, List.getElem?_cons_zero, List.getElem?_cons_succ, Nat.add_zero] at x0 x1 y0 y1
        have qe := ne53 (a, b) (a2, b2)
        simp only at qe
        by_cases he : ((a, b) : Pr) = (a2, b2)
        · rw [decide_eq_true he] at qe
          have HE := Lib.hid he
          clear he
          go_upto_region 6 with (fail)
          go_quiet (fail)
          clear x0 x1 y0 y1 i5 i6 qe
          have hbn := below_drewN (Below.refl wr.heap.size wr) nq
          have HBn := Lib.hid (stepB HB.out hbn)
          clear hbn
          go_wp2
          go_roundw
          case rel => exact ⟨k + 1, by omega, by go_num, take_succ_eq HX.out HY.out HT.out HE.out, HBn.out⟩
          case measure => simp [intOf]; omega
        · rw [decide_eq_false he] at qe
          have HE : Hid (r = false) := by
            show _ = _
            rw [← HR.out]
            refine decide_eq_false (fun e => he ?_)
            have h1 := HX.out
            rw [e, HY.out] at h1
            exact (Option.some.inj h1).symm
          clear he
          go_upto_region 6 with (fail)
          go_quiet (fail)
          clear x0 x1 y0 y1 i5 i6 qe
          have hbn := below_drewN (Below.refl wr.heap.size wr) nq
          have HBn := Lib.hid (stepB HB.out hbn)
          clear hbn
          go_wp2
          go_ret
          exact ⟨by rw [HE.out]; rfl, HBn.out⟩
      · obtain rfl : k = n := by omega
        have d1 : decide ((k : Int) < (k : Int)) = false := decide_eq_false (by omega)
        have HE : Hid (r = true) := by
          show _ = _
          rw [← HR.out]
          refine decide_eq_true ?_
          have h1 := HT.out
          rw [List.take_of_length_le (by rw [HL.out.1]; exact Nat.le_refl _), List.take_of_length_le (by rw [HL.out.2]; exact Nat.le_refl _)] at h1
          exact h1
        go_wp2
        go_ret
        exact ⟨by rw [HE.out]; rfl, HB.out⟩
  · have q1 : ((n : Int) != (n2 : Int)) = true := by simp; omega
    have HE : Hid (r = false) := by
      show _ = _
      rw [← HR.out]
      refine decide_eq_false (fun e => hnn ?_)
      rw [← HL.out.1, ← HL.out.2, e]
    clear hnn
    go_enter Try.func57, Try.ntmps57
    go_wp2
    go_ret
    exact ⟨by rw [HE.out]; rfl, Below.refl _ _⟩
def Bl (b : Bool) (w : World) (e : Ending) (w' : World) : Prop := e = .returned (.bool b) ∧ Below w.heap.size w w'
set_option maxRecDepth 100000 in
set_option maxHeartbeats 4000000 in
theorem eqa_any (er er2 : Int) (fo fo2 : Bool) (va va2 : ByteArray) (A A2 : Option Addr) (n n2 c c2 : Nat) (ps ps2 : List Pr) (w : World) (h : PO w (A, n, c) ps) (h2 : PO w (A2, n2, c2) ps2) (hn : n ≤ 100000) : Calls Try.prog 51 #[.agg #[.int .i64 er, .bool fo, .string va, .slice A n c], .agg #[.int .i64 er2, .bool fo2, .string va2, .slice A2 n2 c2]] w (Bl (decide (((er, fo, va, ps) : An) = (er2, fo2, va2, ps2))) w) := by
  obtain ⟨r, hr⟩ : ∃ r, decide (((er, fo, va, ps) : An) = (er2, fo2, va2, ps2)) = r := ⟨_, rfl⟩
  rw [hr]
  have HR := Lib.hid hr
  have HB : Hid (Below w.heap.size w ((w.alloc (.cells #[.int .i64 er, .bool fo, .string va, .slice A n c] 31)).alloc (.cells #[.int .i64 er2, .bool fo2, .string va2, .slice A2 n2 c2] 31))) := ((Below.refl _ _).alloc (Nat.le_refl _) _).alloc (by simp) _
  have HK1 : Hid (Blk ((w.alloc (.cells #[.int .i64 er, .bool fo, .string va, .slice A n c] 31)).alloc (.cells #[.int .i64 er2, .bool fo2, .string va2, .slice A2 n2 c2] 31)) w.heap.size #[.int .i64 er, .bool fo, .string va, .slice A n c] 31) := (Blk.new w _ 31).alloc _
  have HK2 : Hid (Blk ((w.alloc (.cells #[.int .i64 er, .bool fo, .string va, .slice A n c] 31)).alloc (.cells #[.int .i64 er2, .bool fo2, .string va2, .slice A2 n2 c2] 31)) (w.heap.size + 1) #[.int .i64 er2, .bool fo2, .string va2, .slice A2 n2 c2] 31) := Blk.new2 _ _ 31 (by simp)
  have HQ := Lib.hid (eqp_any A A2 n n2 c c2 ps ps2 ((w.alloc (.cells #[.int .i64 er, .bool fo, .string va, .slice A n c] 31)).alloc (.cells #[.int .i64 er2, .bool fo2, .string va2, .slice A2 n2 c2] 31)) (h.later HB.out) (h2.later HB.out) hn)
  clear hr h h2
  by_cases h1 : er = er2
  · by_cases h2 : fo = fo2
    · by_cases h3 : va = va2
      · have HE : Hid (decide (ps = ps2) = r) := by
          show _ = _
          rw [← HR.out, h1, h2, h3]
          by_cases h4 : ps = ps2 <;> simp [h4]
        rw [HE.out] at HQ
        have q1 : (er == er2) = true := by rw [h1]; simp
        have q2 : (fo == fo2) = true := by rw [h2]; simp
        have q3 : (va.toList == va2.toList) = true := seq_yes h3
        clear h1 h2 h3
        go_enter Try.func51, Try.ntmps51
        go_wp2_with fail
        refine HQ.out.mono ?_
        rintro e w3 ⟨rfl, hb⟩
        have HB3 := Lib.hid (stepB HB.out hb)
        clear hb
        go_wp2
        go_ret
        exact ⟨rfl, HB3.out⟩
      · have q1 : (er == er2) = true := by rw [h1]; simp
        have q2 : (fo == fo2) = true := by rw [h2]; simp
        clear h1 h2
        have HE : Hid (r = false) := by
          show _ = _
          rw [← HR.out]
          exact decide_eq_false (fun e => h3 (by simp only [Prod.mk.injEq] at e; exact e.2.2.1))
        have q3 : (va.toList == va2.toList) = false := seq_no h3
        clear h3
        go_enter Try.func51, Try.ntmps51
        go_wp2
        go_ret
        exact ⟨by rw [HE.out]; rfl, HB.out⟩
    · have q1 : (er == er2) = true := by rw [h1]; simp
      clear h1
      have HE : Hid (r = false) := by
        show _ = _
        rw [← HR.out]
        exact decide_eq_false (fun e => h2 (by simp only [Prod.mk.injEq] at e; exact e.2.1))
      have q2 : (fo == fo2) = false := by rw [beq_eq_false_iff_ne]; exact h2
      clear h2
      go_enter Try.func51, Try.ntmps51
      go_wp2
      go_ret
      exact ⟨by rw [HE.out]; rfl, HB.out⟩
  · have HE : Hid (r = false) := by
      show _ = _
      rw [← HR.out]
      exact decide_eq_false (fun e => h1 (by simp only [Prod.mk.injEq] at e; exact e.1))
    have q1 : (er == er2) = false := by rw [beq_eq_false_iff_ne]; exact h1
    clear h1
    go_enter Try.func51, Try.ntmps51
    go_wp2
    go_ret
    exact ⟨by rw [HE.out]; rfl, HB.out⟩
set_option maxRecDepth 100000 in
set_option maxHeartbeats 4000000 in
theorem eqe_any (wh t cl er wh2 t2 cl2 er2 : Int) (fo fo2 : Bool) (va va2 : ByteArray) (A A2 : Option Addr) (n n2 c c2 : Nat) (ps ps2 : List Pr) (w : World) (h : PO w (A, n, c) ps) (h2 : PO w (A2, n2, c2) ps2) (hn : n ≤ 100000) : Calls Try.prog 38 #[.agg #[.int .u8 wh, .int .i64 t, .int .i64 cl, .int .i64 er, .bool fo, .string va, .slice A n c], .agg #[.int .u8 wh2, .int .i64 t2, .int .i64 cl2, .int .i64 er2, .bool fo2, .string va2, .slice A2 n2 c2]] w (Bl (decide (((wh, t, cl, er, fo, va, ps) : Ev) = (wh2, t2, cl2, er2, fo2, va2, ps2))) w) := by
  obtain ⟨r, hr⟩ : ∃ r, decide (((wh, t, cl, er, fo, va, ps) : Ev) = (wh2, t2, cl2, er2, fo2, va2, ps2)) = r := ⟨_, rfl⟩
  rw [hr]
  have HR := Lib.hid hr
  have HB : Hid (Below w.heap.size w ((w.alloc (.cells #[.int .u8 wh, .int .i64 t, .int .i64 cl, .int .i64 er, .bool fo, .string va, .slice A n c] 40)).alloc (.cells #[.int .u8 wh2, .int .i64 t2, .int .i64 cl2, .int .i64 er2, .bool fo2, .string va2, .slice A2 n2 c2] 40))) := ((Below.refl _ _).alloc (Nat.le_refl _) _).alloc (by simp) _
  have HK1 : Hid (Blk ((w.alloc (.cells #[.int .u8 wh, .int .i64 t, .int .i64 cl, .int .i64 er, .bool fo, .string va, .slice A n c] 40)).alloc (.cells #[.int .u8 wh2, .int .i64 t2, .int .i64 cl2, .int .i64 er2, .bool fo2, .string va2, .slice A2 n2 c2] 40)) w.heap.size #[.int .u8 wh, .int .i64 t, .int .i64 cl, .int .i64 er, .bool fo, .string va, .slice A n c] 40) := (Blk.new w _ 40).alloc _
  have HK2 : Hid (Blk ((w.alloc (.cells #[.int .u8 wh, .int .i64 t, .int .i64 cl, .int .i64 er, .bool fo, .string va, .slice A n c] 40)).alloc (.cells #[.int .u8 wh2, .int .i64 t2, .int .i64 cl2, .int .i64 er2, .bool fo2, .string va2, .slice A2 n2 c2] 40)) (w.heap.size + 1) #[.int .u8 wh2, .int .i64 t2, .int .i64 cl2, .int .i64 er2, .bool fo2, .string va2, .slice A2 n2 c2] 40) := Blk.new2 _ _ 40 (by simp)
  have HQ := Lib.hid (eqa_any er er2 fo fo2 va va2 A A2 n n2 c c2 ps ps2 ((w.alloc (.cells #[.int .u8 wh, .int .i64 t, .int .i64 cl, .int .i64 er, .bool fo, .string va, .slice A n c] 40)).alloc (.cells #[.int .u8 wh2, .int .i64 t2, .int .i64 cl2, .int .i64 er2, .bool fo2, .string va2, .slice A2 n2 c2] 40)) (h.later HB.out) (h2.later HB.out) hn)
  clear hr h h2
  by_cases h1 : wh = wh2
  · by_cases h2 : t = t2
    · by_cases h3 : cl = cl2
      · have HE : Hid (decide (((er, fo, va, ps) : An) = (er2, fo2, va2, ps2)) = r) := by
          show _ = _
          rw [← HR.out, h1, h2, h3]
          by_cases h4 : ((er, fo, va, ps) : An) = (er2, fo2, va2, ps2)
          · rw [h4]; simp
          · rw [decide_eq_false h4, decide_eq_false (fun e => h4 (by simpa using e))]
        rw [HE.out] at HQ
        have q1 : (wh == wh2) = true := by rw [h1]; simp
        have q2 : (t == t2) = true := by rw [h2]; simp
        have q3 : (cl == cl2) = true := by rw [h3]; simp
        clear h1 h2 h3
        go_enter Try.func38, Try.ntmps38
        go_wp2_with fail
        refine HQ.out.mono ?_
        rintro e w3 ⟨rfl, hb⟩
        have HB3 := Lib.hid (stepB HB.out hb)
        clear hb
        go_wp2
        go_ret
        exact ⟨rfl, HB3.out⟩
      · have q1 : (wh == wh2) = true := by rw [h1]; simp
        have q2 : (t == t2) = true := by rw [h2]; simp
        clear h1 h2
        have HE : Hid (r = false) := by
          show _ = _
          rw [← HR.out]
          exact decide_eq_false (fun e => h3 (by simp only [Prod.mk.injEq] at e; exact e.2.2.1))
        have q3 : (cl == cl2) = false := by rw [beq_eq_false_iff_ne]; exact h3
        clear h3
        go_enter Try.func38, Try.ntmps38
        go_wp2
        go_ret
        exact ⟨by rw [HE.out]; rfl, HB.out⟩
    · have q1 : (wh == wh2) = true := by rw [h1]; simp
      clear h1
      have HE : Hid (r = false) := by
        show _ = _
        rw [← HR.out]
        exact decide_eq_false (fun e => h2 (by simp only [Prod.mk.injEq] at e; exact e.2.1))
      have q2 : (t == t2) = false := by rw [beq_eq_false_iff_ne]; exact h2
      clear h2
      go_enter Try.func38, Try.ntmps38
      go_wp2
      go_ret
      exact ⟨by rw [HE.out]; rfl, HB.out⟩
  · have HE : Hid (r = false) := by
      show _ = _
      rw [← HR.out]
      exact decide_eq_false (fun e => h1 (by simp only [Prod.mk.injEq] at e; exact e.1))
    have q1 : (wh == wh2) = false := by rw [beq_eq_false_iff_ne]; exact h1
    clear h1
    go_enter Try.func38, Try.ntmps38
    go_wp2
    go_ret
    exact ⟨by rw [HE.out]; rfl, HB.out⟩
set_option maxRecDepth 100000 in
set_option maxHeartbeats 4000000 in
theorem eqf_any (A B : Option Addr) (n m c d : Nat) (Rs Qs : List RE) (w : World) (h : EvS w A n Rs) (h2 : EvS w B m Qs) (hp : ∀ r ∈ Rs, r.2.2.1 ≤ 100000) (hn : n ≤ 100000) : Calls Try.prog 39 #[.slice A n c, .slice B m d, .func (.func 38) #[] #[]] w (Bl (decide (Rs.map Prod.fst = Qs.map Prod.fst)) w) := by
  have HL : Hid (Rs.length = n ∧ Qs.length = m) := ⟨h.rd.1, h2.rd.1⟩
  obtain ⟨r, hr⟩ : ∃ r, decide (Rs.map Prod.fst = Qs.map Prod.fst) = r := ⟨_, rfl⟩
  rw [hr]
  have HR := Lib.hid hr
  have HP := Lib.hid h
  have HP2 := Lib.hid h2
  have HPN := Lib.hid hp
  clear hr h h2 hp
  by_cases hnn : n = m
  · subst hnn
    have q1 : ((n : Int) != (n : Int)) = false := by simp
    go_enter Try.func39, Try.ntmps39
    go_wp2
    go_loopw [7, 17] (fun u i W => ∃ k : Nat, k ≤ n ∧ i = .int .i64 k ∧ (Rs.map Prod.fst).take k = (Qs.map Prod.fst).take k ∧ Below w.heap.size w W) (fun _ i _ => n - (intOf i).toNat)
    case atStart => exact ⟨0, Nat.zero_le _, rfl, by simp, Below.refl _ _⟩
    case round =>
      obtain ⟨k, hk, rfl, ht, hb⟩ := hrel
      have HT := Lib.hid ht
      have HB := Lib.hid hb
      clear ht hb
      by_cases hlt : k < n
      · have d1 : decide ((k : Int) < (n : Int)) = true := decide_eq_true (by omega)
        have wk : IntKind.i64.wrap ((k : Int) + 1) = (k : Int) + 1 := IntWalk.i64_in _ (by omega)
        obtain ⟨g, off, rfl, hg, hc⟩ := (HP.out.later HB.out).rd.2 (by omega)
        obtain ⟨g2, off2, rfl, hg2, hc2⟩ := (HP2.out.later HB.out).rd.2 (by omega)
        have i5 := idx32 g off n c k (k : Int) rfl hlt
        have i6 := idx32 g2 off2 n d k (k : Int) rfl hlt
        have hx : Rs[k]? = some (Rs[k]'(by rw [HL.out.1]; exact hlt)) := List.getElem?_eq_getElem _
        have hy : Qs[k]? = some (Qs[k]'(by rw [HL.out.2]; exact hlt)) := List.getElem?_eq_getElem _
        have hp1 := (HP.out.later HB.out).po _ (List.mem_of_getElem? hx)
        have hp2 := (HP2.out.later HB.out).po _ (List.mem_of_getElem? hy)
        have hn1 := HPN.out _ (List.mem_of_getElem? hx)
        have HX : Hid ((Rs.map Prod.fst)[k]? = some (Rs[k]'(by rw [HL.out.1]; exact hlt)).1) := by show _ = _; rw [List.getElem?_map, hx]; rfl
        have HY : Hid ((Qs.map Prod.fst)[k]? = some (Qs[k]'(by rw [HL.out.2]; exact hlt)).1) := by show _ = _; rw [List.getElem?_map, hy]; rfl
        generalize Rs[k]'(by rw [HL.out.1]; exact hlt) = r1 at *
        generalize Qs[k]'(by rw [HL.out.2]; exact hlt) = r2 at *
        obtain ⟨⟨wh, t, cl, er, fo, va, ps⟩, A1, n1, c1⟩ := r1
        obtain ⟨⟨wh2, t2, cl2, er2, fo2, va2, ps2⟩, A2, n2, c2⟩ := r2
        have hbx : Below wr.heap.size wr (wr.alloc (.cells #[.int .u8 wh, .int .i64 t, .int .i64 cl, .int .i64 er, .bool fo, .string va, .slice A1 n1 c1] 40)) := (Below.refl _ _).alloc (Nat.le_refl _) _
        have hby : Below wr.heap.size wr ((wr.alloc (.cells #[.int .u8 wh, .int .i64 t, .int .i64 cl, .int .i64 er, .bool fo, .string va, .slice A1 n1 c1] 40)).alloc (.cells #[.int .u8 wh2, .int .i64 t2, .int .i64 cl2, .int .i64 er2, .bool fo2, .string va2, .slice A2 n2 c2] 40)) := hbx.alloc hbx.size _
        have HBY := Lib.hid (stepB HB.out hby)
        have HQ := Lib.hid (eqe_any wh t cl er wh2 t2 cl2 er2 fo fo2 va va2 A1 A2 n1 n2 c1 c2 ps ps2 ((wr.alloc (.cells #[.int .u8 wh, .int .i64 t, .int .i64 cl, .int .i64 er, .bool fo, .string va, .slice A1 n1 c1] 40)).alloc (.cells #[.int .u8 wh2, .int .i64 t2, .int .i64 cl2, .int .i64 er2, .bool fo2, .string va2, .slice A2 n2 c2] 40)) (hp1.later hby) (hp2.later hby) hn1)
        have y6' := fun i hi => (hby.cell (p := ⟨g2, off2 + k * 7 + i, none⟩) hg2).trans (hc2 k _ hy i hi)
        have y5' := fun i hi => (hbx.cell (p := ⟨g2, off2 + k * 7 + i, none⟩) hg2).trans (hc2 k _ hy i hi)
        have x0 := hc k _ hx 0 (by decide)
        have y0 := y5' 0 (by decide)
        have x1 := hc k _ hx 1 (by decide)
        have y1 := y5' 1 (by decide)
        have x2 := hc k _ hx 2 (by decide)
        have y2 := y5' 2 (by decide)
        have x3 := hc k _ hx 3 (by decide)
        have y3 := y5' 3 (by decide)
        have x4 := hc k _ hx 4 (by decide)
        have y4 := y5' 4 (by decide)
        have x5 := hc k _ hx 5 (by decide)
        have y5 := y5' 5 (by decide)
        have x6 := hc k _ hx 6 (by decide)
        have y6 := y5' 6 (by decide)
        simp only [evc, hdv, List.getElem?_cons_zero, List.getElem?_cons_succ, Nat.add_zero] at x0 x1 x2 x3 x4 x5 x6 y0 y1 y2 y3 y4 y5 y6
        simp only at HX HY
        clear hc hc2 hx hy hg hg2 hp1 hp2 hn1 y6' y5' hbx hby
        by_cases he : ((wh, t, cl, er, fo, va, ps) : Ev) = (wh2, t2, cl2, er2, fo2, va2, ps2)
        · rw [decide_eq_true he] at HQ
          have HE := Lib.hid he
          clear he
          go_wp2_with fail
          refine HQ.out.mono ?_
          rintro e w9 ⟨rfl, hb⟩
          have HB9 := Lib.hid (stepB HBY.out hb)
          clear hb x0 x1 x2 x3 x4 x5 x6 y0 y1 y2 y3 y4 y5 y6 i5 i6
          go_wp2
          go_roundw
          case rel => exact ⟨k + 1, by omega, by go_num, take_succ_eq HX.out HY.out HT.out HE.out, HB9.out⟩
          case measure => simp [intOf]; omega
        · rw [decide_eq_false he] at HQ
          have HE : Hid (r = false) := by
            show _ = _
            rw [← HR.out]
            refine decide_eq_false (fun e => he ?_)
            have h1 := HX.out
            rw [e, HY.out] at h1
            exact (Option.some.inj h1).symm
          clear he
          go_wp2_with fail
          refine HQ.out.mono ?_
          rintro e w9 ⟨rfl, hb⟩
          have HB9 := Lib.hid (stepB HBY.out hb)
          clear hb x0 x1 x2 x3 x4 x5 x6 y0 y1 y2 y3 y4 y5 y6 i5 i6
          go_wp2
          go_ret
          exact ⟨by rw [HE.out]; rfl, HB9.out⟩
      · obtain rfl : k = n := by omega
        have d1 : decide ((k : Int) < (k : Int)) = false := decide_eq_false (by omega)
        have HE : Hid (r = true) := by
          show _ = _
          rw [← HR.out]
          refine decide_eq_true ?_
          have h1 := HT.out
          rw [List.take_of_length_le (by rw [List.length_map, HL.out.1]; exact Nat.le_refl _), List.take_of_length_le (by rw [List.length_map, HL.out.2]; exact Nat.le_refl _)] at h1
          exact h1
        go_wp2
        go_ret
        exact ⟨by rw [HE.out]; rfl, HB.out⟩
  · have q1 : ((n : Int) != (m : Int)) = true := by simp; omega
    have HE : Hid (r = false) := by
      show _ = _
      rw [← HR.out]
      refine decide_eq_false (fun e => hnn ?_)
      have := congrArg List.length e
      rw [List.length_map, List.length_map, HL.out.1, HL.out.2] at this
      exact this
    clear hnn
    go_enter Try.func39, Try.ntmps39
    go_wp2
    go_ret
    exact ⟨by rw [HE.out]; rfl, Below.refl _ _⟩
set_option maxRecDepth 100000 in
set_option maxHeartbeats 4000000 in
theorem same_any (A B : Option Addr) (n m c d : Nat) (Rs Qs : List RE) (w : World) (h : EvS w A n Rs) (h2 : EvS w B m Qs) (hp : ∀ r ∈ Rs, r.2.2.1 ≤ 100000) (hn : n ≤ 100000) : Calls Try.prog 19 #[.slice A n c, .slice B m d] w (Bl (decide (Rs.map Prod.fst = Qs.map Prod.fst)) w) := by
  have HQ := Lib.hid (eqf_any A B n m c d Rs Qs w h h2 hp hn)
  generalize decide (Rs.map Prod.fst = Qs.map Prod.fst) = r at *
  clear h h2
  go_enter Try.func19, Try.ntmps19
  go_wp2_with fail
  refine HQ.out.mono ?_
  rintro e w1 ⟨rfl, hb⟩
  have HB := Lib.hid hb
  clear hb
  go_wp2
  go_ret
  exact ⟨rfl, HB.out⟩
end Go.Proofs.Ytgbcncfgpdlmiaa
