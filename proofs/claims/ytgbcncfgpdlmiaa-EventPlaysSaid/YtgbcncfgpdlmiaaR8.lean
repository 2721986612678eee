/-
Whatever comes to a recorder: each answer, what it has, and what is under way, are the document's; what was handed in, and what is told, may be written over. For any number of tasks, any steps.
-/
import Derived.Test.YtgbcncfgpdlmiaaPY
import Derived.Test.YtgbcncfgpdlmiaaU7
import Derived.Test.YtgbcncfgpdlmiaaNV
import Derived.Test.YtgbcncfgpdlmiaaRows
namespace Go.Proofs.Ytgbcncfgpdlmiaa.eventPlays
open Go.ChangeShapes Go.WideShapes Go.ChangeAt Go.RowKit Go.Maps
set_option linter.unusedVariables false
set_option linter.unusedSimpArgs false

theorem own : ownKnob Try.prog.godebug = none := by kernel_rfl
theorem laidOut : laidOutB Try.prog = true := by kernel_rfl

theorem works_x (w : World) : Calls Try.prog 11 #[] w (Bl true w) := works_any w
theorem eq22n (w : World) : (binOp .eql 22 (.pointer none) (.pointer none)).run Try.prog w = .ok (.bool true) w := by go_simp
/-- the boxes of a step, beside the recorder and the document's history -/
structure Bx (w : World) (tasks : Int) (p : Nat) (v : Value) (Rs : List RE) (xv : Value) (nx : Nat) (Xs : List RE) (qs qo : Nat) (cs co : Array Value) (hd : Hd) (W : World) : Prop where
  i : XRi w tasks p v Rs xv nx Xs W
  s : Blk W qs cs 50
  o : Blk W qo co 50
  h : Wp W w.heap.size hd
theorem Bx.set53 {w W : World} {tasks : Int} {p nx qs qo g o : Nat} {v xv u : Value} {Rs Xs : List RE} {cs co c : Array Value} {hd : Hd} (h : Bx w tasks p v Rs xv nx Xs qs qo cs co hd W) (hg : Blk W g c 53) (hB : w.heap.size ≤ g) (hne : ∀ r ∈ Rs, ∀ i, r.2.1.map (fun a => a.block) = some i → i ≠ g) : Bx w tasks p v Rs xv nx Xs qs qo cs co hd (W.setCell ⟨g, o, none⟩ u) :=
  ⟨h.i.set hg (by decide) (by decide) hB hne, h.s.other (by rintro rfl; exact absurd (blk_inj h.s hg).2 (by decide)) u, h.o.other (by rintro rfl; exact absurd (blk_inj h.o hg).2 (by decide)) u, h.h.set hg⟩
set_option maxRecDepth 100000 in
set_option maxHeartbeats 16000000 in
theorem walk (tasks : Int) (A1_ : Option Addr) (m1 c1_ : Nat) (S1 : List SE) (w : World) (h1 : StS w A1_ m1 S1) (hm1 : m1 ≤ maxLen) : Calls Try.prog 4 #[.int .i64 tasks, .slice A1_ m1 c1_] w (Bl true w) := by
  have HS1 : Hid (∀ W, Below w.heap.size w W → StS W A1_ m1 S1) := fun W hb => h1.later hb
  have HL1 : Hid (S1.length = m1) := h1.rd.1
  have HM1 := Lib.hid hm1
  have e22 := eq22n
  clear h1 hm1
  go_enter Try.func4, Try.ntmps4
  go_wp2_with fail
  refine (large_any A1_ m1 c1_ S1 w (HS1.out _ (Below.refl _ _)) HM1.out).mono ?_
  rintro e w2 ⟨r, rfl, hb, hr⟩
  have HB2 := Lib.hid hb
  have HR1 := Lib.hid hr
  clear hb hr
  cases r with
  | true =>
    go_wp2_with fail
    refine (works_x _).mono ?_
    rintro e w3 ⟨rfl, hb⟩
    have HB3 := Lib.hid (stepB HB2.out hb)
    clear hb
    go_wp2
    go_ret
    exact ⟨rfl, HB3.out⟩
  | false =>
    have hn1 : m1 ≤ 200 := (HR1.out rfl).1
    have HN1_ : Hid (∀ s ∈ S1, s.2.2.1 < 3000) := (HR1.out rfl).2
    clear HR1 HM1
    have HRN : Hid (∀ W, Calls Try.prog 22 #[.int .i64 tasks, .slice none 0 0] W (Bl (decide (1 ≤ tasks ∧ tasks ≤ 6)) W)) := fun W => by
      have := rlegalA_any tasks none 0 0 [] W ⟨RSl.nil W none, fun r hr => by cases hr⟩ (by omega) (fun r hr => by cases hr) (fun r hr => by cases hr)
      rw [List.map_nil, legal_nil] at this
      exact this
    by_cases ht : 1 ≤ tasks ∧ tasks ≤ 6
    · rw [decide_eq_true ht] at HRN
      have HT := Lib.hid ht
      go_wp2_with fail
      refine (new_any tasks w2 ht.1 ht.2).mono ?_
      rintro e w4 ⟨p, rfl, hr, hb⟩
      have HI4 : Hid (XRi w tasks p (.slice none 0 0) [] (.slice none 0 0) 0 [] w4) := ⟨hr.base HB2.out.size, ROwn.nil0 _ _ _, (fun r hr => by cases hr), (fun k e => by cases e), stepB HB2.out hb⟩
      clear hr hb HB2 ht
      go_wp2_with fail
      refine (HRN.out _).mono ?_
      rintro e w5 ⟨rfl, hb⟩
      have HI5 := Lib.hid (HI4.out.later hb)
      clear hb HI4 HRN
      go_wp2
      go_loopw [7, 8] (fun v7 i8 W => ∃ (k : Nat) (xv : Value) (L : List Ev), k ≤ m1 ∧ i8 = .int .i64 k ∧ xv = v7 ∧ XR w tasks p L xv W ∧ Bd L k ∧ legalR tasks [] L = true) (fun _ i _ => m1 - (intOf i).toNat)
      case atStart => exact ⟨0, _, [], Nat.zero_le _, rfl, rfl, ⟨_, _, _, _, HI5.out, rfl, rfl⟩, Bd.nil, rfl⟩
      case round =>
        clear HI5
        obtain ⟨wz, rfl⟩ : ∃ wz : World, wz = wr := ⟨_, rfl⟩
        obtain ⟨k, xv, L, hk, rfl, rfl, ⟨v, Rs, nx, Xs, hi, hrl, hxl⟩, hbd, hlg⟩ := hrel
        have HI := Lib.hid hi
        have HRL := Lib.hid hrl
        have HXL := Lib.hid hxl
        have HBD := Lib.hid hbd
        have HLG := Lib.hid hlg
        clear hi hrl hxl hbd hlg
        by_cases hlt : k < m1
        · have d1 : decide ((k : Int) < (m1 : Int)) = true := decide_eq_true (by omega)
          have wk : IntKind.i64.wrap ((k : Int) + 1) = (k : Int) + 1 := IntWalk.i64_in _ (by omega)
          obtain ⟨g, off, hAe, hg, hc⟩ := (HS1.out _ HI.out.b).rd.2 (by omega)
          subst hAe
          have i5 := idx47 g off m1 c1_ k (k : Int) rfl hlt
          have hrk : S1[k]? = some (S1[k]'(by rw [HL1.out]; exact hlt)) := List.getElem?_eq_getElem _
          have HPK : Hid (∀ W, Below w.heap.size w W → PO W (S1[k]'(by rw [HL1.out]; exact hlt)).2 (S1[k]'(by rw [HL1.out]; exact hlt)).1.2.2.2.2.2) := fun W hb => (HS1.out W hb).po _ (List.mem_of_getElem? hrk)
          have hn3 := HN1_.out _ (List.mem_of_getElem? hrk)
          generalize S1[k]'(by rw [HL1.out]; exact hlt) = s at *
          obtain ⟨⟨wh, t, er, fo, va, ps⟩, A1, n1, c1⟩ := s
          have x0 := hc k _ hrk 0 (by decide)
          have x1 := hc k _ hrk 1 (by decide)
          have x2 := hc k _ hrk 2 (by decide)
          have x3 := hc k _ hrk 3 (by decide)
          have x4 := hc k _ hrk 4 (by decide)
          have x5 := hc k _ hrk 5 (by decide)
          simp only [stc, hdv, List.getElem?_cons_zero, List.getElem?_cons_succ, Nat.add_zero] at x0 x1 x2 x3 x4 x5
          simp only at hn3 HPK
          have HPL : Hid (ps.length ≤ 100000) := by
            have := (HPK.out _ HI.out.b).rd.1
            show _ ≤ _
            simp only at this
            omega
          have HN1 : Hid (n1 ≤ 100000) := by show _ ≤ _; omega
          have hby : Below wz.heap.size wz (wz.alloc (.cells #[.int .u8 wh, .int .i64 t, .int .i64 er, .bool fo, .string va, .slice A1 n1 c1] 50)) := (Below.refl _ _).alloc (Nat.le_refl _) _
          have HI1 := Lib.hid (HI.out.later hby)
          have HBS : Hid (Blk (wz.alloc (.cells #[.int .u8 wh, .int .i64 t, .int .i64 er, .bool fo, .string va, .slice A1 n1 c1] 50)) wz.heap.size #[.int .u8 wh, .int .i64 t, .int .i64 er, .bool fo, .string va, .slice A1 n1 c1] 50) := Blk.new _ _ _
          have HWQ : Hid (w.heap.size ≤ wz.heap.size) := HI.out.b.size
          clear hc hrk hg hn3 hby HI
          go_upto_region 11 with (fail)
          clear x0 x1 x2 x3 x4 x5 i5
          generalize wz.alloc (.cells #[.int .u8 wh, .int .i64 t, .int .i64 er, .bool fo, .string va, .slice A1 n1 c1] 50) = w3 at *
          generalize wz.heap.size = qs at *
          go_cut [72] (fun s72 W => s72 = .bool (decide (wh < 1 ∨ 3 < wh)) ∧ w3 = W)
          case first =>
            have c0 := HBS.out.cell 0
            simp only [List.getElem?_toArray, List.getElem?_cons_zero] at c0
            by_cases e1 : wh < 1
            · have d2 : decide (wh < 1) = true := decide_eq_true e1
              have d3 : decide (wh < 1 ∨ 3 < wh) = true := decide_eq_true (Or.inl e1)
              have HD3 := Lib.hid d3
              clear e1 d3
              go_wp2
              go_meet
              exact ⟨by rw [HD3.out], rfl⟩
            · have d2 : decide (wh < 1) = false := decide_eq_false e1
              by_cases e3 : 3 < wh
              · have d4 : decide ((3 : Int) < wh) = true := decide_eq_true e3
                have d3 : decide (wh < 1 ∨ 3 < wh) = true := decide_eq_true (Or.inr e3)
                have HD3 := Lib.hid d3
                clear e1 e3 d3
                go_wp2
                go_meet
                exact ⟨by rw [HD3.out], rfl⟩
              · have d4 : decide ((3 : Int) < wh) = false := decide_eq_false e3
                have d3 : decide (wh < 1 ∨ 3 < wh) = false := decide_eq_false (by omega)
                have HD3 := Lib.hid d3
                clear e1 e3 d3
                go_wp2
                go_meet
                exact ⟨by rw [HD3.out], rfl⟩
          case rest =>
          obtain ⟨rfl, rfl⟩ := hcut
          go_upto_if 72 with (fail)
          go_cut [9] (fun s9 W => s9 = .pointer (some ⟨qs, 0, none⟩) ∧ XRi w tasks p v Rs xv nx Xs W ∧ Blk W qs #[.int .u8 (whX wh), .int .i64 t, .int .i64 er, .bool fo, .string va, .slice A1 n1 c1] 50)
          case first =>
            by_cases e1 : wh < 1 ∨ 3 < wh
            · have d3 : decide (wh < 1 ∨ 3 < wh) = true := decide_eq_true e1
              have HX : Hid (whX wh = 3) := if_pos e1
              rw [d3]
              have f0 := HBS.out.frozen 0
              have c0 := HBS.out.cell 0
              simp only [List.getElem?_toArray, List.getElem?_cons_zero] at c0
              have HB2 : Hid (Blk (w3.setCell ⟨qs, 0, none⟩ (.int .u8 3)) qs #[.int .u8 3, .int .i64 t, .int .i64 er, .bool fo, .string va, .slice A1 n1 c1] 50) := HBS.out.set (j := 0) (.int .u8 3)
              have HI2 : Hid (XRi w tasks p v Rs xv nx Xs (w3.setCell ⟨qs, 0, none⟩ (.int .u8 3))) := HI1.out.set HBS.out (by decide) (by decide) HWQ.out (HI1.out.ne HBS.out (by decide))
              clear e1 d3
              go_wp2
              go_meet
              exact ⟨rfl, HI2.out, by rw [HX.out]; exact HB2.out⟩
            · have d3 : decide (wh < 1 ∨ 3 < wh) = false := decide_eq_false e1
              have HX : Hid (whX wh = wh) := if_neg e1
              rw [d3]
              clear e1 d3
              go_wp2
              go_meet
              exact ⟨rfl, HI1.out, by rw [HX.out]; exact HBS.out⟩
          case rest =>
          obtain ⟨rfl, hi, hs⟩ := hcut
          obtain ⟨w4, rfl⟩ : ∃ w : World, w = wc := ⟨_, rfl⟩
          have HI4 := Lib.hid hi
          have HBS4 := Lib.hid hs
          have HWX := Lib.hid (whX_in wh)
          clear hi hs HI1 HBS
          generalize whX wh = wx at *
          have b0 := HBS4.out.cell 0
          have b1 := HBS4.out.cell 1
          have b2 := HBS4.out.cell 2
          have b3 := HBS4.out.cell 3
          have b4 := HBS4.out.cell 4
          have b5 := HBS4.out.cell 5
          simp only [List.getElem?_toArray, List.getElem?_cons_zero, List.getElem?_cons_succ] at b0 b1 b2 b3 b4 b5
          have hby : Below w4.heap.size w4 (w4.alloc (.cells #[.int .u8 wx, .int .i64 t, .int .i64 er, .bool fo, .string va, .slice A1 n1 c1] 50)) := (Below.refl _ _).alloc (Nat.le_refl _) _
          have HI5 := Lib.hid (HI4.out.later hby)
          have HBS5 := Lib.hid (HBS4.out.later hby)
          have HBO5 : Hid (Blk (w4.alloc (.cells #[.int .u8 wx, .int .i64 t, .int .i64 er, .bool fo, .string va, .slice A1 n1 c1] 50)) w4.heap.size #[.int .u8 wx, .int .i64 t, .int .i64 er, .bool fo, .string va, .slice A1 n1 c1] 50) := Blk.new _ _ _
          have HQN : Hid (qs ≠ w4.heap.size) := by have := HBS4.out.lt; show _ ≠ _; omega
          have HWO : Hid (w.heap.size ≤ w4.heap.size) := HI4.out.b.size
          have HSZ : Hid ((w4.alloc (.cells #[.int .u8 wx, .int .i64 t, .int .i64 er, .bool fo, .string va, .slice A1 n1 c1] 50)).heap.size = w4.heap.size + 1) := by show _ = _; simp
          clear hby HI4 HBS4
          go_upto_region 14 with (fail)
          clear b0 b1 b2 b3 b4 b5
          generalize w4.alloc (.cells #[.int .u8 wx, .int .i64 t, .int .i64 er, .bool fo, .string va, .slice A1 n1 c1] 50) = w5 at *
          generalize w4.heap.size = qo at *
          have hby : Below w5.heap.size w5 (w5.alloc (.cells #[] 53)) := (Below.refl _ _).alloc (Nat.le_refl _) _
          have c5 := HBS5.out.cell 5
          have c5a := (HBS5.out.later hby).cell 5
          simp only [List.getElem?_toArray, List.getElem?_cons_zero, List.getElem?_cons_succ] at c5 c5a
          have HF : Hid (ROwn prc 2 (w5.alloc (.cells #[] 53)) (qo + 1) 53 (.slice (some ⟨qo + 1, 0, none⟩) 0 0) 0 []) := ROwn.fresh w5 53 (by rw [HSZ.out]; exact Nat.le_refl _) HSZ.out
          have HP2 := Lib.hid (HPK.out _ (stepB HI5.out.b hby))
          have HZ2 : Hid (qo + 1 ≤ (w5.alloc (.cells #[] 53)).heap.size) := by show _ ≤ _; have := HSZ.out; simp; omega
          have HBY := Lib.hid hby
          have hsz : w5.heap.size = qo + 1 := HSZ.out
          have hn1 := HN1.out
          clear hby
          go_wp2_with (first
            | (at_builtin; refine append_row elemPr rfl (.tmp 75) (.tmp 78) rfl (qo + 1) (.slice (some ⟨qo + 1, 0, none⟩) 0 0) 0 [] (by first | rfl | simp [hsz]) HF.out A1 n1 c1 ps rfl HP2.out.rd HP2.out.nil (by omega) (by decide) HZ2.out ?_; intro v1 w1 ho1)
            | fail)
          intro hg1
          obtain ⟨A2, c2, rfl, hl1, hn2⟩ := ho1.sl
          have hz : 0 + n1 = n1 := Nat.zero_add n1
          have HO1 : Hid (ROwn prc 2 w1 (qo + 1) 53 (.slice A2 n1 c2) n1 ps) := by
            have := ho1
            rw [Nat.zero_add, List.nil_append] at this
            exact this
          rw [hz] at hl1 hn2
          rw [hz]
          have hb51 : Below w5.heap.size w5 w1 := HBY.out.grown hg1 HBY.out.size (fun j e => by have := (HF.out.lt j e).1; omega)
          have HI7 := Lib.hid (HI5.out.later hb51)
          have HBS7 := Lib.hid (HBS5.out.later hb51)
          have HBO7 := Lib.hid (HBO5.out.later hb51)
          have HPO : Hid (POn w1 (qo + 1) (A2, n1, c2) ps) := ⟨⟨HO1.out.rsl prc_len, hl1, fun e => by have := hn2 e; exact ⟨this.1, this.2⟩⟩, fun g e => by
            have e2 : (Value.slice A2 n1 c2).ownBlock = some g := by cases A2 with
              | none => cases e
              | some a => exact e
            exact ⟨(HO1.out.lt g e2).1, HO1.out.tag g e2⟩⟩
          have HLT5 : Hid (∀ r ∈ Rs, ∀ i, r.2.1.map (fun a => a.block) = some i → i < qo + 1) := fun r hr i e => by have := ((HI5.out.r.row.po r hr).lt i e).2; rw [HSZ.out] at this; exact this
          have f5 := HBO7.out.frozen 5
          have c5 := HBO7.out.cell 5
          simp only [List.getElem?_toArray, List.getElem?_cons_zero, List.getElem?_cons_succ] at c5
          have HBO8 : Hid (Blk (w1.setCell ⟨qo, 5, none⟩ (.slice A2 n1 c2)) qo #[.int .u8 wx, .int .i64 t, .int .i64 er, .bool fo, .string va, .slice A2 n1 c2] 50) := HBO7.out.set (j := 5) (.slice A2 n1 c2)
          have HBS8 : Hid (Blk (w1.setCell ⟨qo, 5, none⟩ (.slice A2 n1 c2)) qs #[.int .u8 wx, .int .i64 t, .int .i64 er, .bool fo, .string va, .slice A1 n1 c1] 50) := HBS7.out.other HQN.out _
          have HI8 : Hid (XRi w tasks p v Rs xv nx Xs (w1.setCell ⟨qo, 5, none⟩ (.slice A2 n1 c2))) := HI7.out.set HBO7.out (by decide) (by decide) HWO.out (HI7.out.ne HBO7.out (by decide))
          have HPO8 : Hid (POn (w1.setCell ⟨qo, 5, none⟩ (.slice A2 n1 c2)) (qo + 1) (A2, n1, c2) ps) := HPO.out.keep (by simp) (fun g e => (grown_set w1 qo 5 _).block g (HPO.out.lt g e).2 (fun e2 => by
            have h1 := (HPO.out.lt g e).1
            have h3 := Option.some.inj e2
            omega))
          clear c5a ho1 hg1 hl1 hn2 hz hsz HF HP2 HZ2 HBY HO1 hb51 HI7 HBS7 HBO7 HPO HI5 HBS5 HBO5 HSZ
          go_upto_region 15 with (fail)
          generalize w1.setCell ⟨qo, 5, none⟩ (.slice A2 n1 c2) = w8 at *
          clear c5 f5
          have c0 := HBO8.out.cell 0
          have c1' := HBO8.out.cell 1
          have c2' := HBO8.out.cell 2
          have c3 := HBO8.out.cell 3
          have c4 := HBO8.out.cell 4
          have c5 := HBO8.out.cell 5
          simp only [List.getElem?_toArray, List.getElem?_cons_zero, List.getElem?_cons_succ] at c0 c1' c2' c3 c4 c5
          have HBL : Hid (Rs.length ≤ 100000) := HBD.out.lenR HRL.out (by omega)
          go_wp2_with fail
          refine (do_any2 w.heap.size p tasks v Rs w8 HI8.out.r HI8.out.b.size HT.out.2 wx t er fo va ps A2 n1 c2 (fun W hf => (hf.pon HI8.out.r HPO8.out).po) HN1.out HBL.out).mono ?_
          rintro e w9 ⟨rfl, v', Rs', k1, k2, k3, k4, k5⟩
          rw [HRL.out, doW_in HWX.out, doA_in HWX.out] at k2
          rw [HRL.out, doW_in HWX.out]
          have HI9 := Lib.hid (HI8.out.do k1 k3 k4)
          have HBS9 := Lib.hid (k3.blk HI8.out.r HBS8.out (by decide) (by decide))
          have HBO9 := Lib.hid (k3.blk HI8.out.r HBO8.out (by decide) (by decide))
          have HW9 : Hid (Wp w9 w.heap.size (A2, n1, c2)) := ((k3.pon HI8.out.r HPO8.out).base (Nat.le_trans HWO.out (Nat.le_succ qo))).wp
          have HNE : Hid (∀ r ∈ Rs', ∀ i, r.2.1.map (fun a => a.block) = some i → ∀ g o, A2 = some ⟨g, o, none⟩ → i ≠ g) := fun r hr i e g o e2 => by
            have hgl := HPO8.out.lt g (by rw [e2]; rfl)
            rcases k5 r hr with h | h
            · have := HLT5.out r h i e; omega
            · have := h i e; omega
          have HR9 := Lib.hid k2
          have HBX : Hid (Bx w tasks p v' Rs' xv nx Xs qs qo #[.int .u8 wx, .int .i64 t, .int .i64 er, .bool fo, .string va, .slice A1 n1 c1] #[.int .u8 wx, .int .i64 t, .int .i64 er, .bool fo, .string va, .slice A2 n1 c2] (A2, n1, c2) w9) := ⟨HI9.out, HBS9.out, HBO9.out, HW9.out⟩
          obtain ⟨z, hz⟩ : ∃ z, addC tasks L wx t = z := ⟨_, rfl⟩
          obtain ⟨L2, hL2⟩ : ∃ L2, addL tasks L wx t (nxA wx (er, fo, va, ps)) = L2 := ⟨_, rfl⟩
          rw [hz]
          rw [hL2] at HR9
          have HZ := Lib.hid hz
          have HL2 := Lib.hid hL2
          have HBD2 : Hid (Bd L2 (k + 1)) := by
            have := HBD.out.doS (tasks := tasks) (s := ((wx, t, er, fo, va, ps), (A1, n1, c1))) HPL.out
            rw [doS_in HWX.out, hL2] at this
            exact this
          have HLG2 : Hid (legalR tasks [] L2 = true) := by
            have := legal_do2 (tasks := tasks) ((wx, t, er, fo, va, ps), (A1, n1, c1)) HLG.out
            rw [doS_in HWX.out, hL2] at this
            exact this
          clear k1 k2 k3 k4 k5 hz hL2 c0 c1' c2' c3 c4 c5 HI8 HBS8 HBO8 HPO8 HI9 HBS9 HBO9 HW9 HLT5 HBL HRL
          go_wp2
          go_loopw [12] (fun i12 W => ∃ j : Nat, j ≤ n1 ∧ i12 = .int .i64 j ∧ Bx w tasks p v' Rs' xv nx Xs qs qo #[.int .u8 wx, .int .i64 t, .int .i64 er, .bool fo, .string va, .slice A1 n1 c1] #[.int .u8 wx, .int .i64 t, .int .i64 er, .bool fo, .string va, .slice A2 n1 c2] (A2, n1, c2) W) (fun i _ => n1 - (intOf i).toNat)
          case atStart => exact ⟨0, Nat.zero_le _, rfl, HBX.out⟩
          case round =>
            clear HBX
            obtain ⟨wa, rfl⟩ : ∃ wa : World, wa = wr := ⟨_, rfl⟩
            obtain ⟨j, hj, rfl, hbx⟩ := hrel
            have HBX := Lib.hid hbx
            have hn1 := HN1.out
            have o5 := hbx.o.cell 5
            simp only [List.getElem?_toArray, List.getElem?_cons_zero, List.getElem?_cons_succ] at o5
            clear hbx
            by_cases hlj : j < n1
            · have d5 : decide ((j : Int) < (n1 : Int)) = true := decide_eq_true (by omega)
              have wj : IntKind.i64.wrap ((j : Int) + 1) = (j : Int) + 1 := IntWalk.i64_in _ (by omega)
              obtain ⟨g3, off3, cur3, hA3, hB3, hk3, ⟨u3, hu3⟩, _⟩ := HBX.out.h.at_ hlj
              simp only at hA3
              have HBX3 : Hid (Bx w tasks p v' Rs' xv nx Xs qs qo #[.int .u8 wx, .int .i64 t, .int .i64 er, .bool fo, .string va, .slice A1 n1 c1] #[.int .u8 wx, .int .i64 t, .int .i64 er, .bool fo, .string va, .slice A2 n1 c2] (A2, n1, c2) (wa.setCell ⟨g3, off3 + j * 2, none⟩ (.string { data := #[115, 112, 111, 105, 108, 116] }))) := HBX.out.set53 hk3 hB3 (fun r hr i e => HNE.out r hr i e g3 off3 hA3)
              subst hA3
              have i6 := idx29 g3 off3 n1 c2 j (j : Int) rfl hlj
              have f3 := hk3.frozen (off3 + j * 2)
              clear hk3 hB3 HBX
              go_wp2
              go_roundw
              case rel => exact ⟨j + 1, by omega, by go_num, HBX3.out⟩
              case measure => simp [intOf]; omega
            · obtain rfl : j = n1 := by omega
              have d5 : decide ((j : Int) < (j : Int)) = false := decide_eq_false (by omega)
              have HI11 := Lib.hid HBX.out.i
              have HBS11 := Lib.hid HBX.out.s
              clear HBX HNE
              obtain ⟨Ax, cx, hxv, _, hxn⟩ := HI11.out.x.sl
              subst hxv
              have HXN := Lib.hid hxn
              clear hxn
              have c0 := HBS11.out.cell 0
              have c1' := HBS11.out.cell 1
              have c2' := HBS11.out.cell 2
              have c3 := HBS11.out.cell 3
              have c4 := HBS11.out.cell 4
              have c5 := HBS11.out.cell 5
              simp only [List.getElem?_toArray, List.getElem?_cons_zero, List.getElem?_cons_succ] at c0 c1' c2' c3 c4 c5
              have HXLE : Hid (Xs.length = nx) := HI11.out.x.1
              have hnx : nx ≤ 10000 := by
                have h1 := HBD.out.len
                have h2 := congrArg List.length HXL.out
                rw [List.length_map] at h2
                have := HXLE.out
                omega
              have HXP : Hid (∀ r ∈ Xs, r.2.2.1 ≤ 100000) := fun r hr => by
                have h1 := (HI11.out.xp r hr _ HI11.out.b).rd.1
                have h2 := HBD.out.prs r.1 (by rw [← HXL.out]; exact List.mem_map_of_mem hr)
                omega
              have HXW : Hid (∀ r ∈ Xs, 0 ≤ r.1.1 ∧ r.1.1 ≤ 255) := fun r hr => by
                have h2 := (legal_what L HLG.out r.1 (by rw [← HXL.out]; exact List.mem_map_of_mem hr)).1
                omega
              have HNX := Lib.hid (rnext_any tasks Ax nx cx Xs wx t er fo va ps A1 j c1 wa HI11.out.evs hnx HXN.out HXP.out HN1.out HXW.out (by have := HWX.out; omega) (fun W hb => HPK.out W (stepB HI11.out.b hb)))
              rw [HXL.out] at HNX
              clear HXP HXW hnx
              go_wp2_with fail
              refine HNX.out.mono ?_
              rintro e w12 ⟨b, hbe, hb, A3, n3, c3', rfl, hf, hto⟩
              obtain ⟨Xs3, hXs3⟩ : ∃ Xs3, (if b then Xs ++ [((wx, t, ((cnt L t / 3 : Nat) : Int), nxA wx (er, fo, va, ps)), nxH wx (A1, j, c1))] else Xs) = Xs3 := ⟨_, rfl⟩
              have HI12 : Hid (XRi w tasks p v' Rs' (.slice A3 n3 c3') n3 Xs3 w12) := by
                rw [← hXs3]
                exact HI11.out.next hb (fun W hb => nx_po (HPK.out W hb)) hf hto
              rw [List.map_append, HXL.out] at hbe
              have hbz : b = decide (z = 0) := by
                rw [hbe, ← HZ.out]
                exact legal_next HLG.out HT.out HWX.out
              have HX3 : Hid (Xs3.map Prod.fst = L2) := by
                show _ = _
                rw [← hXs3, ← HL2.out]
                unfold addL
                rw [HZ.out]
                by_cases h0 : z = 0
                · rw [hbz, decide_eq_true h0, if_pos rfl, if_pos h0, List.map_append, HXL.out]; rfl
                · rw [hbz, decide_eq_false h0, if_neg h0]
                  exact HXL.out
              have HBZ := Lib.hid hbz
              have HBS12 := Lib.hid (HBS11.out.later hb)
              clear o5 hbe hb hf hto hXs3 hbz HNX HI11 HBS11 c0 c1' c2' c3 c4 c5 HXLE HXN
              go_upto_region 22 with (fail)
              have c1' := HBS12.out.cell 1
              simp only [List.getElem?_toArray, List.getElem?_cons_zero, List.getElem?_cons_succ] at c1'
              go_cut [119] (fun s119 W => s119 = .bool (decide (t < 0 ∨ tasks ≤ t)) ∧ w12 = W)
              case first =>
                by_cases e1 : t < 0
                · have d6 : decide (t < 0) = true := decide_eq_true e1
                  have d3 : decide (t < 0 ∨ tasks ≤ t) = true := decide_eq_true (Or.inl e1)
                  have HD3 := Lib.hid d3
                  clear e1 d3
                  go_wp2
                  go_meet
                  exact ⟨by rw [HD3.out], rfl⟩
                · have d6 : decide (t < 0) = false := decide_eq_false e1
                  by_cases e3 : tasks ≤ t
                  · have d4 : decide (tasks ≤ t) = true := decide_eq_true e3
                    have d3 : decide (t < 0 ∨ tasks ≤ t) = true := decide_eq_true (Or.inr e3)
                    have HD3 := Lib.hid d3
                    clear e1 e3 d3
                    go_wp2
                    go_meet
                    exact ⟨by rw [HD3.out], rfl⟩
                  · have d4 : decide (tasks ≤ t) = false := decide_eq_false e3
                    have d3 : decide (t < 0 ∨ tasks ≤ t) = false := decide_eq_false (by omega)
                    have HD3 := Lib.hid d3
                    clear e1 e3 d3
                    go_wp2
                    go_meet
                    exact ⟨by rw [HD3.out], rfl⟩
              case rest =>
              obtain ⟨rfl, rfl⟩ := hcut
              go_upto_if 119 with (fail)
              go_cut [15] (fun s15 W => s15 = .int .i64 z ∧ w12 = W)
              case first =>
                have HZ1 : Hid ((t < 0 ∨ tasks ≤ t → z = 1) ∧ (¬ (t < 0 ∨ tasks ≤ t) → z = 0 ∨ z = 7)) := by
                  show _ ∧ _
                  rw [← HZ.out]
                  unfold addC
                  refine ⟨fun h => if_pos h, fun h => ?_⟩
                  rw [if_neg h]
                  split
                  · exact Or.inl rfl
                  · exact Or.inr rfl
                by_cases e1 : t < 0 ∨ tasks ≤ t
                · have d3 : decide (t < 0 ∨ tasks ≤ t) = true := decide_eq_true e1
                  have HZE : Hid (z = 1) := HZ1.out.1 e1
                  rw [d3]
                  clear e1 d3
                  go_wp2
                  go_meet
                  exact ⟨by rw [HZE.out], rfl⟩
                · have d3 : decide (t < 0 ∨ tasks ≤ t) = false := decide_eq_false e1
                  have HZE := Lib.hid (HZ1.out.2 e1)
                  rw [d3]
                  clear e1 d3
                  cases b with
                  | true =>
                    have HZ0 : Hid (z = 0) := by
                      show _ = _
                      exact of_decide_eq_true HBZ.out.symm
                    go_wp2
                    go_meet
                    exact ⟨by rw [HZ0.out], rfl⟩
                  | false =>
                    have HZ7 : Hid (z = 7) := by
                      rcases HZE.out with h | h
                      · exact absurd h (of_decide_eq_false HBZ.out.symm)
                      · exact h
                    go_wp2
                    go_meet
                    exact ⟨by rw [HZ7.out], rfl⟩
              case rest =>
              obtain ⟨rfl, rfl⟩ := hcut
              have q1 : (z != z) = false := by simp
              have HRL2 : Hid (Rs'.length ≤ 100000) := HBD2.out.lenR HR9.out (by omega)
              have HRP2 : Hid (∀ r ∈ Rs', r.2.2.1 ≤ 100000) := HBD2.out.np HR9.out HI12.out.r.row
              have HEV := Lib.hid (fun W (h : XRi w tasks p v' Rs' (.slice A3 n3 c3') n3 Xs3 W) => events_any w.heap.size p tasks v' Rs' W h.r HRL2.out HRP2.out)
              rw [HR9.out] at HEV
              clear HBZ c1' HZ HL2 HBD HLG HXL HPL
              go_wp2_with fail
              refine (HEV.out _ HI12.out).mono ?_
              rintro e w13 ⟨A4, c4', n4, Rs4, rfl, ho4, hm4, hb⟩
              have HI13 := Lib.hid (HI12.out.later hb)
              have HBS13 := Lib.hid (HBS12.out.later hb)
              have HN4 : Hid (n4 ≤ 100000) := by
                have h1 := HBD2.out.lenR hm4 (by omega)
                rw [ho4.row.1] at h1
                exact h1
              have HP4 : Hid (∀ r ∈ Rs4, r.2.2.1 ≤ 100000) := HBD2.out.np hm4 ho4
              have HO4 := Lib.hid ho4
              have HSM : Hid (decide (Rs4.map Prod.fst = Xs3.map Prod.fst) = true) := decide_eq_true (by rw [hm4, HX3.out])
              clear ho4 hm4 hb HI12 HBS12
              go_wp2_with fail
              refine (rsame_any A4 A3 n4 n3 c4' c3' Rs4 Xs3 w13 HO4.out.evs HI13.out.evs HP4.out HN4.out).mono ?_
              rintro e w14 ⟨rfl, hb⟩
              rw [HSM.out]
              have HI14 := Lib.hid (HI13.out.later hb)
              have HBS14 := Lib.hid (HBS13.out.later hb)
              have c1' := HBS14.out.cell 1
              simp only [List.getElem?_toArray, List.getElem?_cons_zero, List.getElem?_cons_succ] at c1'
              have HUN := Lib.hid (under_any w.heap.size p tasks v' Rs' w14 HI14.out.r HT.out.2 HRL2.out t)
              rw [HR9.out, rundV_of (fun h => legal_none HLG2.out h)] at HUN
              obtain ⟨⟨ua, ub, uc⟩, hu⟩ : ∃ u, rundV L2 t = u := ⟨_, rfl⟩
              rw [hu] at HUN
              have HU := Lib.hid hu
              unfold unV at HUN
              simp only at HUN
              clear hb hu HI13 HBS13 HO4 HP4 HN4 HSM q1
              go_wp2_with fail
              refine HUN.out.mono ?_
              rintro e w15 ⟨rfl, hb⟩
              have HI15 := Lib.hid (HI14.out.later hb)
              have HBS15 := Lib.hid (HBS14.out.later hb)
              clear c1'
              have c1' := HBS15.out.cell 1
              simp only [List.getElem?_toArray, List.getElem?_cons_zero, List.getElem?_cons_succ] at c1'
              have HN3 : Hid (n3 ≤ 100000) := by
                have h1 := HI15.out.x.1
                have h2 := congrArg List.length HX3.out
                rw [List.length_map] at h2
                have h3 := HBD2.out.len
                show _ ≤ _
                omega
              have HUR := Lib.hid (runder_any A3 n3 c3' Xs3 t w15 HI15.out.evs HN3.out)
              rw [HX3.out, HU.out] at HUR
              unfold unV at HUR
              simp only at HUR
              clear hb HI14 HBS14 HUN HN3
              go_wp2_with fail
              refine HUR.out.mono ?_
              rintro e w16 ⟨rfl, hb⟩
              have HI16 := Lib.hid (HI15.out.later hb)
              have q1 : (ua != ua) = false := by simp
              have q2 : (ub != ub) = false := by cases ub <;> rfl
              have q3 : (uc != uc) = false := by cases uc <;> rfl
              clear hb HI15 HBS15 HUR c1'
              go_wp2_with fail
              refine (HEV.out _ HI16.out).mono ?_
              rintro e w17 ⟨At, ct, nt, Tr, rfl, hot, hmt, hb⟩
              have HI17 := Lib.hid (HI16.out.later hb)
              have HNT : Hid (nt ≤ 100000) := by
                have h1 := HBD2.out.lenR hmt (by omega)
                rw [hot.row.1] at h1
                exact h1
              have HTP : Hid (∀ h ∈ Tr.map Prod.snd, h.2.1 ≤ 100000) := fun h hh => by
                obtain ⟨r, hr, rfl⟩ := List.mem_map.1 hh
                exact HBD2.out.np hmt hot r hr
              have HWT : Hid (Wtn w17 w16.heap.size At nt (Tr.map Prod.snd) ∧ Below w16.heap.size w16 w17) := ⟨hot.wtn, hb⟩
              generalize Tr.map Prod.snd = Hs at *
              have hnt := HNT.out
              clear hot hmt hb HEV q1 q2 q3 HI17
              go_wp2
              go_loopw [23] (fun i W => ∃ a : Nat, a ≤ nt ∧ i = .int .i64 a ∧ Wtn W w16.heap.size At nt Hs ∧ Below w16.heap.size w16 W) (fun i _ => nt - (intOf i).toNat)
              case atStart => exact ⟨0, Nat.zero_le _, rfl, HWT.out.1, HWT.out.2⟩
              case round =>
                clear HWT
                obtain ⟨wb, rfl⟩ : ∃ wb : World, wb = wr := ⟨_, rfl⟩
                obtain ⟨a, ha, rfl, hwt, hb⟩ := hrel
                have HWT := Lib.hid hwt
                have HBT := Lib.hid hb
                clear hwt hb
                by_cases hla : a < nt
                · have d7 : decide ((a : Int) < (nt : Int)) = true := decide_eq_true (by omega)
                  have wa1 : IntKind.i64.wrap ((a : Int) + 1) = (a : Int) + 1 := IntWalk.i64_in _ (by omega)
                  obtain ⟨g, cur, h, hAx, hgB, hgk, hhx, ⟨u, hu⟩, _, _⟩ := HWT.out.at_ hla
                  obtain ⟨A5, n5, c5⟩ := h
                  subst hAx
                  have HHX := Lib.hid hhx
                  have HN5 : Hid (n5 ≤ 100000) := HTP.out _ (List.mem_of_getElem? hhx)
                  have i5 := idx32 g 0 nt ct a (a : Int) rfl hla
                  simp only [Nat.zero_add] at i5
                  have f0 := hgk.frozen (a * 7 + 1)
                  have HT1 : Hid (Wtn (wb.setCell ⟨g, a * 7 + 1, none⟩ (.int .i64 (-7))) w16.heap.size (some ⟨g, 0, none⟩) nt Hs) := HWT.out.set40 hgk
                  have HB1 : Hid (Below w16.heap.size w16 (wb.setCell ⟨g, a * 7 + 1, none⟩ (.int .i64 (-7)))) := Below.setCell (p := ⟨g, a * 7 + 1, none⟩) HBT.out hgB _
                  clear hgk hhx hgB HWT HBT
                  go_wp2
                  clear hu f0
                  go_loopw [24] (fun i W => ∃ j : Nat, j ≤ n5 ∧ i = .int .i64 j ∧ Wtn W w16.heap.size (some ⟨g, 0, none⟩) nt Hs ∧ Below w16.heap.size w16 W) (fun i _ => n5 - (intOf i).toNat)
                  case atStart => exact ⟨0, Nat.zero_le _, rfl, HT1.out, HB1.out⟩
                  case round =>
                    clear HT1 HB1
                    obtain ⟨wc2, rfl⟩ : ∃ wc2 : World, wc2 = wr := ⟨_, rfl⟩
                    obtain ⟨y, hy, rfl, hwt, hb⟩ := hrel
                    have HWT := Lib.hid hwt
                    have HBT := Lib.hid hb
                    clear hwt hb
                    have hn5 := HN5.out
                    obtain ⟨g2, cur2, h2, hAx, _, _, hhx, _, hc6, hwp⟩ := HWT.out.at_ hla
                    cases hAx
                    rw [HHX.out] at hhx
                    obtain rfl := Option.some.inj hhx
                    simp only [hdv] at hc6
                    by_cases hly : y < n5
                    · have d8 : decide ((y : Int) < (n5 : Int)) = true := decide_eq_true (by omega)
                      have wy : IntKind.i64.wrap ((y : Int) + 1) = (y : Int) + 1 := IntWalk.i64_in _ (by omega)
                      obtain ⟨g3, off3, cur3, hA3, hB3, hk3, ⟨u3, hu3⟩, _⟩ := hwp.at_ hly
                      simp only at hA3
                      subst hA3
                      have i6 := idx29 g3 off3 n5 c5 y (y : Int) rfl hly
                      have f3 := hk3.frozen (off3 + y * 2)
                      have HT3 : Hid (Wtn (wc2.setCell ⟨g3, off3 + y * 2, none⟩ (.string { data := #[115, 112, 111, 105, 108, 116] })) w16.heap.size (some ⟨g, 0, none⟩) nt Hs) := HWT.out.set53 hk3
                      have HB3 : Hid (Below w16.heap.size w16 (wc2.setCell ⟨g3, off3 + y * 2, none⟩ (.string { data := #[115, 112, 111, 105, 108, 116] }))) := Below.setCell (p := ⟨g3, off3 + y * 2, none⟩) HBT.out hB3 _
                      clear hk3 hB3 hwp hhx HWT HBT
                      go_wp2
                      go_roundw
                      case rel => exact ⟨y + 1, by omega, by go_num, HT3.out, HB3.out⟩
                      case measure => simp [intOf]; omega
                    · obtain rfl : y = n5 := by omega
                      have d8 : decide ((y : Int) < (y : Int)) = false := decide_eq_false (by omega)
                      clear hwp hhx
                      go_wp2
                      go_roundw
                      case rel => exact ⟨a + 1, by omega, by go_num, HWT.out, HBT.out⟩
                      case measure => simp [intOf]; omega
                · obtain rfl : a = nt := by omega
                  have d7 : decide ((a : Int) < (a : Int)) = false := decide_eq_false (by omega)
                  have HIE := Lib.hid (HI16.out.later HBT.out)
                  clear HWT HBT HI16
                  go_wp2
                  go_roundw
                  case rel => exact ⟨k + 1, _, L2, by omega, by go_num, rfl, ⟨_, _, _, _, HIE.out, HR9.out, HX3.out⟩, HBD2.out, HLG2.out⟩
                  case measure => simp [intOf]; omega
        · obtain rfl : k = m1 := by omega
          have d1 : decide ((k : Int) < (k : Int)) = false := decide_eq_false (by omega)
          have HB5 := Lib.hid HI.out.b
          clear HI HRL HXL HBD HLG
          go_wp2_with fail
          refine (works_x _).mono ?_
          rintro e w6 ⟨rfl, hb⟩
          have HB6 := Lib.hid (stepB HB5.out hb)
          clear hb
          go_wp2
          go_ret
          exact ⟨rfl, HB6.out⟩
    · rw [decide_eq_false ht] at HRN
      go_wp2_with fail
      refine (new_no tasks w2 ht).mono ?_
      rintro e w4 ⟨rfl, rfl⟩
      go_wp2_with fail
      refine (HRN.out _).mono ?_
      rintro e w5 ⟨rfl, hb⟩
      have HB5 := Lib.hid (stepB HB2.out hb)
      clear hb
      go_wp2_with fail
      refine (HRN.out _).mono ?_
      rintro e w6 ⟨rfl, hb⟩
      have HB6 := Lib.hid (stepB HB5.out hb)
      clear hb
      go_wp2_with fail
      refine (works_x _).mono ?_
      rintro e w7 ⟨rfl, hb⟩
      have HB7 := Lib.hid (stepB HB6.out hb)
      clear hb
      go_wp2
      go_ret
      exact ⟨rfl, HB7.out⟩


set_option maxRecDepth 100000 in
theorem lifted (os : Os) (started : os.Started) (H : Type) (enc : TypeId × Value → H) :
    ReturnsInHanded {} Try.checked os 4 .any (Rows.eventPlaysSpec.pre6 enc Try.prog Try.f4 Rows.eventPlaysRow.domain false) (Rows.eventPlaysSpec.post enc Try.prog Try.f4 false true false false) := by
  refine returnsInHanded_of_change_sized (C := Try.checked) own started (by kernel_rfl) Try.func4
    (ChangeSpec.witness6 (enc := enc) (C := Try.checked) false ⟨#[], #[.int .i64 0, .slice none 0 0], []⟩ 8 (by kernel_rfl) (by kernel_rfl) (by kernel_rfl) (by kernel_rfl)) ?_
  intro W base args ds gs before hval0 hW _ hsz _
  have hval : ∀ (j : Nat) t v, Try.f4.params[j]? = some t → args[j]? = some v → Value.okWide Try.prog W .any base t v := hval0
  have hW' := hW
  obtain ⟨p, q, hA0, hV, hbef, _, _⟩ := hW
  have hA : DataW.TrodAll enc Try.prog W 0 (fun _ => true) true Try.f4.params.toList args.toList ds p := hA0
  rw [Try.params4] at hA hval
  obtain ⟨v0, vs0, d0, ds0, p0, q0, hargs, rfl, rfl, h0, r0⟩ := trodAll_cons hA
  obtain ⟨v1, vs1, d1, ds1, p1, q1, rfl, rfl, rfl, h1, r1⟩ := trodAll_cons r0
  obtain ⟨rfl, rfl, rfl⟩ := trodAll_nil r1
  obtain rfl : args = #[v0, v1] := by cases args; simp_all
  obtain ⟨rfl, rfl⟩ := trodVars_none hV
  obtain ⟨a0, rfl, _, _, w0⟩ := open_int Try.underlying3 (hval 0 3 v0 rfl rfl) h0
  obtain ⟨A1, n1, c1, S1, rfl, st1, mx1, _, _⟩ := open_steps (hval 1 47 v1 rfl rfl) h1
  refine (walk a0 A1 n1 c1 S1 W st1 mx1).mono fun e W' ⟨he, hb⟩ => ?_
  subst he
  exact ⟨_, rfl, law_post laidOut (of_decide_eq_true (by kernel_rfl)) rfl Try.underlying4 rfl rfl hW' hb⟩

theorem over : Rows.eventPlaysRow.holds Try.pinned (OpenSpec.ofChange Rows.eventPlaysSpec) :=
  OpenClaim.holds_of_wide 4 Try.f4 rfl rfl rfl rfl rfl rfl rfl ⟨rfl, rfl, rfl, rfl, rfl⟩ rfl rfl rfl rfl rfl (by kernel_rfl) Try.func4 (by kernel_rfl)
    (of_decide_eq_true (by kernel_rfl)) (by unfold Func.isWrapper; first | (rw [if_pos (by decide +kernel)]; kernel_rfl) | (rw [if_neg (by decide +kernel)]; exact ⟨rfl, rfl⟩))
    (fun os started H enc _ => lifted os started H enc)

end Go.Proofs.Ytgbcncfgpdlmiaa.eventPlays
namespace Go.Proofs.Ytgbcncfgpdlmiaa
theorem eventPlays_holds : Rows.EventPlaysSaid := eventPlays.over
end Go.Proofs.Ytgbcncfgpdlmiaa
