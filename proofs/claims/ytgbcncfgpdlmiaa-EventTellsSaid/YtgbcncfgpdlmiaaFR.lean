/- A history in new memory. -/
import Derived.Test.YtgbcncfgpdlmiaaG
namespace Go.Proofs.Ytgbcncfgpdlmiaa
open Go.ChangeShapes Go.WideShapes Go.ChangeAt Go.RowKit Go.Maps
set_option linter.unusedVariables false
set_option linter.unusedSimpArgs false

set_option maxRecDepth 100000 in
set_option maxHeartbeats 4000000 in
theorem fresh_any (A : Option Addr) (n c : Nat) (Rs : List RE) (w : World) (h : EvS w A n Rs) (hn : n ≤ 100000) (hp : ∀ r ∈ Rs, r.2.2.1 ≤ 100000) : Calls Try.prog 28 #[.slice A n c] w (OwdEnd (Rs.map Prod.fst) w) := by
  have HS := Lib.hid h
  have HP0 := Lib.hid hp
  have HLN : Hid (Rs.length = n) := h.rd.1
  clear h hp
  go_enter Try.func28, Try.ntmps28
  go_wp2
  go_loopw [3, 4] (fun o i W => ∃ (k : Nat) (v : Value) (Rs' : List RE), k ≤ n ∧ i = .int .i64 k ∧ v = o ∧ EvO W w.heap.size v Rs'.length Rs' ∧ Rs'.map Prod.fst = (Rs.map Prod.fst).take k ∧ Rs'.length ≤ k ∧ Below w.heap.size w W) (fun _ i _ => n - (intOf i).toNat)
  case atStart => exact ⟨0, _, [], Nat.zero_le _, rfl, rfl, EvO.nil _ _, by rw [List.take_zero]; rfl, Nat.le_refl _, Below.refl _ _⟩
  case round =>
    obtain ⟨k, v, Rs', hk, rfl, rfl, ho, hm, hrl, hb⟩ := hrel
    have HO := Lib.hid ho
    have HMR := Lib.hid hm
    have HBW := Lib.hid hb
    clear ho hm hb
    by_cases hlt : k < n
    · have d1 : decide ((k : Int) < (n : Int)) = true := decide_eq_true (by omega)
      have wk : IntKind.i64.wrap ((k : Int) + 1) = (k : Int) + 1 := IntWalk.i64_in _ (by omega)
      obtain ⟨g, off, rfl, hg, hc⟩ := (HS.out.later HBW.out).rd.2 (by omega)
      have i5 := idx32 g off n c k (k : Int) rfl hlt
      have hrk : Rs[k]? = some (Rs[k]'(by rw [HLN.out]; exact hlt)) := List.getElem?_eq_getElem _
      have HPK := Lib.hid ((HS.out.later HBW.out).po _ (List.mem_of_getElem? hrk))
      have hn1 := HP0.out _ (List.mem_of_getElem? hrk)
      have HKE : Hid ((Rs.map Prod.fst).take (k + 1) = (Rs.map Prod.fst).take k ++ [(Rs[k]'(by rw [HLN.out]; exact hlt)).1]) := by
        show _ = _
        rw [List.take_add_one, List.getElem?_map, hrk]; rfl
      generalize Rs[k]'(by rw [HLN.out]; exact hlt) = r at *
      obtain ⟨⟨wh, t, cl, er, fo, va, ps⟩, A1, n1, c1⟩ := r
      have x0 := hc k _ hrk 0 (by decide)
      have x1 := hc k _ hrk 1 (by decide)
      have x2 := hc k _ hrk 2 (by decide)
      have x3 := hc k _ hrk 3 (by decide)
      have x4 := hc k _ hrk 4 (by decide)
      have x5 := hc k _ hrk 5 (by decide)
      have x6 := hc k _ hrk 6 (by decide)
      simp only [evc, hdv, List.getElem?_cons_zero, List.getElem?_cons_succ, Nat.add_zero] at x0 x1 x2 x3 x4 x5 x6
      simp only at hn1 HPK HKE
      have hbx : Below wr.heap.size wr (wr.alloc (.cells #[.int .u8 wh, .int .i64 t, .int .i64 cl, .int .i64 er, .bool fo, .string va, .slice A1 n1 c1] 40)) := (Below.refl _ _).alloc (Nat.le_refl _) _
      have HP := Lib.hid (HPK.out.later hbx)
      have HBX := Lib.hid (stepB HBW.out hbx)
      have HOX := Lib.hid (HO.out.later hbx)
      have HBK : Hid (Blk (wr.alloc (.cells #[.int .u8 wh, .int .i64 t, .int .i64 cl, .int .i64 er, .bool fo, .string va, .slice A1 n1 c1] 40)) wr.heap.size #[.int .u8 wh, .int .i64 t, .int .i64 cl, .int .i64 er, .bool fo, .string va, .slice A1 n1 c1] 40) := Blk.new _ _ _
      have HWQ : Hid (w.heap.size ≤ wr.heap.size) := HBW.out.size
      have HOL0 : Hid (∀ r ∈ Rs', ∀ i, r.2.1.map (fun a => a.block) = some i → i < wr.heap.size) := fun r hr i e => ((HO.out.po r hr).lt i e).2
      have HOV0 : Hid (∀ i, v.ownBlock = some i → i < wr.heap.size) := fun i e => (HO.out.lt i e).2
      clear hc hrk hg HPK hbx HO HBW
      go_upto_region 6 with (fail)
      clear x0 x1 x2 x3 x4 x5 x6 i5
      obtain ⟨q, hq⟩ : ∃ q, wr.heap.size = q := ⟨_, rfl⟩
      have HSZ : Hid ((wr.alloc (.cells #[.int .u8 wh, .int .i64 t, .int .i64 cl, .int .i64 er, .bool fo, .string va, .slice A1 n1 c1] 40)).heap.size = q + 1) := by show _ = _; rw [← hq]; simp
      have HOL : Hid (∀ r ∈ Rs', ∀ i, r.2.1.map (fun a => a.block) = some i → i < q) := by rw [← hq]; exact HOL0.out
      have HOV : Hid (∀ i, v.ownBlock = some i → i < q) := by rw [← hq]; exact HOV0.out
      clear HOL0 HOV0
      rw [hq] at HBK HWQ
      rw [hq]
      generalize wr.alloc (.cells #[.int .u8 wh, .int .i64 t, .int .i64 cl, .int .i64 er, .bool fo, .string va, .slice A1 n1 c1] 40) = wx at *
      clear hq
      have c6 := HBK.out.cell 6
      simp only [List.getElem?_toArray, List.getElem?_cons_zero, List.getElem?_cons_succ] at c6
      have hby : Below wx.heap.size wx (wx.alloc (.cells #[] 53)) := (Below.refl _ _).alloc (Nat.le_refl _) _
      have HF : Hid (ROwn prc 2 (wx.alloc (.cells #[] 53)) (q + 1) 53 (.slice (some ⟨q + 1, 0, none⟩) 0 0) 0 []) := ROwn.fresh wx 53 (by rw [HSZ.out]; exact Nat.le_refl _) HSZ.out
      have HP2 := Lib.hid (HP.out.later hby)
      have HB2 := Lib.hid (stepB HBX.out hby)
      have HO2 := Lib.hid (HOX.out.later hby)
      have HBK2 := Lib.hid (HBK.out.later hby)
      have hsz : wx.heap.size = q + 1 := HSZ.out
      have HZ2 : Hid (q + 1 ≤ (wx.alloc (.cells #[] 53)).heap.size) := by show _ ≤ _; have := HSZ.out; simp; omega
      clear hby HP HBX HOX HBK
      go_wp2_with (first
        | (at_builtin; refine append_row elemPr rfl (.tmp 16) (.tmp 19) rfl (q + 1) (.slice (some ⟨q + 1, 0, none⟩) 0 0) 0 [] (by first | rfl | simp [hsz]) HF.out A1 n1 c1 ps rfl HP2.out.rd HP2.out.nil (by omega) (by decide) HZ2.out ?_; intro v1 w1 ho1)
        | fail)
      intro hg1
      obtain ⟨A2, c2, rfl, hl1, hn2⟩ := ho1.sl
      have hz : 0 + n1 = n1 := Nat.zero_add n1
      have HO1 : Hid (ROwn prc 2 w1 (q + 1) 53 (.slice A2 n1 c2) n1 ps) := by
        have := ho1
        rw [Nat.zero_add, List.nil_append] at this
        exact this
      rw [hz] at hl1 hn2
      rw [hz]
      have HB1 : Hid (Below w.heap.size w w1) := HB2.out.grown hg1 HB2.out.size (fun j e => Nat.le_trans HWQ.out (Nat.le_trans (Nat.le_succ q) (HF.out.lt j e).1))
      have HOE1 : Hid (EvO w1 w.heap.size v Rs'.length Rs') := ⟨HO2.out.row.kept hg1 (fun i e e2 => by
          have h1 := (HO2.out.lt i e).2
          obtain ⟨cur, hc⟩ := HO2.out.row.tag i e
          obtain ⟨cur2, hc2⟩ := HF.out.tag i e2.symm
          rw [hc] at hc2
          simp at hc2), fun r hr => (HO2.out.po r hr).keep hg1.size (fun i e => hg1.block i ((HO2.out.po r hr).lt i e).2 (fun e2 => by
          have h3 := (HOL.out r hr i e)
          have h4 := (HF.out.lt i e2.symm).1
          omega))⟩
      have HBK1 : Hid (Blk w1 q #[.int .u8 wh, .int .i64 t, .int .i64 cl, .int .i64 er, .bool fo, .string va, .slice A1 n1 c1] 40) := HBK2.out.grown hg1 (fun e => by
        have h4 := (HF.out.lt q e.symm).1
        omega)
      have HPO : Hid (POn w1 (q + 1) (A2, n1, c2) ps) := ⟨⟨HO1.out.rsl prc_len, hl1, fun e => by have := hn2 e; exact ⟨this.1, this.2⟩⟩, fun g e => by
        have e2 : (Value.slice A2 n1 c2).ownBlock = some g := by cases A2 with
          | none => cases e
          | some a => exact e
        exact ⟨(HO1.out.lt g e2).1, HO1.out.tag g e2⟩⟩
      have f6 := HBK1.out.frozen 6
      have c6 := HBK1.out.cell 6
      simp only [List.getElem?_toArray, List.getElem?_cons_zero, List.getElem?_cons_succ] at c6
      have HBK3 : Hid (Blk (w1.setCell ⟨q, 6, none⟩ (.slice A2 n1 c2)) q #[.int .u8 wh, .int .i64 t, .int .i64 cl, .int .i64 er, .bool fo, .string va, .slice A2 n1 c2] 40) := HBK1.out.set (j := 6) (.slice A2 n1 c2)
      have HB3 : Hid (Below w.heap.size w (w1.setCell ⟨q, 6, none⟩ (.slice A2 n1 c2))) := Below.setCell (p := ⟨q, 6, none⟩) HB1.out HWQ.out _
      have HPO3 : Hid (POn (w1.setCell ⟨q, 6, none⟩ (.slice A2 n1 c2)) w.heap.size (A2, n1, c2) ps) := (HPO.out.keep (by simp) (fun g e => (grown_set w1 q 6 _).block g (HPO.out.lt g e).2 (fun e2 => by
        have h1 := (HPO.out.lt g e).1
        have h3 := Option.some.inj e2
        omega))).base (Nat.le_trans HWQ.out (Nat.le_succ q))
      have HO3 : Hid (EvO (w1.setCell ⟨q, 6, none⟩ (.slice A2 n1 c2)) w.heap.size v Rs'.length Rs') := ⟨HOE1.out.row.keepS (fun i e => (grown_set w1 q 6 _).block i (HOE1.out.lt i e).2 (fun e2 => by
          have h1 := (HOV.out i e)
          have h3 := Option.some.inj e2
          omega)), fun r hr => (HOE1.out.po r hr).keep (by simp) (fun i e => (grown_set w1 q 6 _).block i ((HOE1.out.po r hr).lt i e).2 (fun e2 => by
          have h1 := (HOL.out r hr i e)
          have h3 := Option.some.inj e2
          omega))⟩
      clear ho1 hg1 hl1 hn2 hz hsz HF HP2 HB2 HO2 HBK2 HO1 HB1 HOE1 HBK1 HPO
      go_upto_region 7 with (fail)
      generalize w1.setCell ⟨q, 6, none⟩ (.slice A2 n1 c2) = w2 at *
      clear c6 f6
      have c0 := HBK3.out.cell 0
      have c1' := HBK3.out.cell 1
      have c2' := HBK3.out.cell 2
      have c3' := HBK3.out.cell 3
      have c4 := HBK3.out.cell 4
      have c5 := HBK3.out.cell 5
      have c6 := HBK3.out.cell 6
      simp only [List.getElem?_toArray, List.getElem?_cons_zero, List.getElem?_cons_succ] at c0 c1' c2' c3' c4 c5 c6
      have hby : Below w2.heap.size w2 (w2.alloc (.cells #[.int .u8 wh, .int .i64 t, .int .i64 cl, .int .i64 er, .bool fo, .string va, .slice A2 n1 c2] 40)) := (Below.refl _ _).alloc (Nat.le_refl _) _
      have HX3 : Hid (RSl evc 7 (w2.alloc (.cells #[.int .u8 wh, .int .i64 t, .int .i64 cl, .int .i64 er, .bool fo, .string va, .slice A2 n1 c2] 40)) (some ⟨w2.heap.size, 0, none⟩) 1 [((wh, t, cl, er, fo, va, ps), (A2, n1, c2))]) := Blk.rsl (x := ((wh, t, cl, er, fo, va, ps), (A2, n1, c2))) (Blk.new w2 _ 40)
      have HO4 := Lib.hid (HO3.out.later hby)
      have HP4 := Lib.hid (HPO3.out.later hby)
      have HB4 := Lib.hid (stepB HB3.out hby)
      clear hby HBK3
      obtain ⟨Av, cv, hv, _, _⟩ := HO4.out.row.sl
      subst hv
      go_wp2_with (first
        | (at_builtin; refine append_row1 elemEv rfl (.tmp 23) (.tmp 25) rfl w.heap.size (.slice Av Rs'.length cv) Rs'.length Rs' rfl HO4.out.row w2.heap.size 1 ((wh, t, cl, er, fo, va, ps), (A2, n1, c2)) rfl HX3.out (by omega) (by decide) HB4.out.size ?_; intro A4 c4_ w4 ho4 hg4 hn4)
        | fail)
      intro hl4
      have HO5 := Lib.hid (HO4.out.more hg4 HP4.out ho4)
      have HB5 : Hid (Below w.heap.size w w4) := HB4.out.grown hg4 HB4.out.size (fun j e => (HO4.out.lt j e).1)
      clear ho4 hg4 hn4 hl4 HX3 HO3 HP4 HB3 HO4 HPO3 HB4 c0 c1' c2' c3' c4 c5 c6
      go_wp2
      go_roundw
      case rel => exact ⟨k + 1, _, Rs' ++ [((wh, t, cl, er, fo, va, ps), (A2, n1, c2))], by omega, by go_num, rfl, by rw [List.length_append]; exact HO5.out, by rw [List.map_append, HMR.out, HKE.out]; rfl, by simp; omega, HB5.out⟩
      case measure => simp [intOf]; omega
    · obtain rfl : k = n := by omega
      have d1 : decide ((k : Int) < (k : Int)) = false := decide_eq_false (by omega)
      have HME : Hid (Rs'.map Prod.fst = Rs.map Prod.fst) := by
        show _ = _
        rw [HMR.out, List.take_of_length_le (by rw [List.length_map, HLN.out]; exact Nat.le_refl _)]
      obtain ⟨Av, cv, hv, _, _⟩ := HO.out.row.sl
      subst hv
      go_wp2
      go_ret
      exact ⟨Av, cv, _, Rs', rfl, HO.out, HME.out, HBW.out⟩
end Go.Proofs.Ytgbcncfgpdlmiaa
