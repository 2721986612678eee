/-
Each beginning of a legal history is legal; with the events of one task alone, or without these, it is. For any history, how much of it, which task.
-/
import Derived.Test.YtgbcncfgpdlmiaaRB
import Derived.Test.YtgbcncfgpdlmiaaRows
namespace Go.Proofs.Ytgbcncfgpdlmiaa.eventParts
open Go.ChangeShapes Go.WideShapes Go.ChangeAt Go.RowKit Go.Maps
set_option linter.unusedVariables false
set_option linter.unusedSimpArgs false

theorem own : ownKnob Try.prog.godebug = none := by kernel_rfl
theorem laidOut : laidOutB Try.prog = true := by kernel_rfl

theorem works_x (w : World) : Calls Try.prog 11 #[] w (Bl true w) := works_any w
theorem legalR_take (tasks : Int) (k : Nat) : ∀ (L P : List Ev), legalR tasks P L = true → legalR tasks P (L.take k) = true := by
  induction k with
  | zero => exact fun L P _ => by rw [List.take_zero]; rfl
  | succ k ih =>
    intro L P h
    cases L with
    | nil => exact h
    | cons e L =>
      rw [List.take_succ_cons]
      unfold legalR at h ⊢
      rw [Bool.and_eq_true] at h ⊢
      exact ⟨h.1, ih _ _ h.2⟩
theorem okE_cnt {tasks : Int} {P P' : List Ev} {e : Ev} (h : cnt P e.2.1 = cnt P' e.2.1) : okE tasks P e = okE tasks P' e := by
  unfold okE nextE
  rw [h]
theorem legalR_filter (tasks : Int) (g : Int → Bool) : ∀ (L P P' : List Ev), (∀ t, g t = true → cnt P t = cnt P' t) → legalR tasks P L = true → legalR tasks P' (L.filter (fun e => g e.2.1)) = true := by
  intro L
  induction L with
  | nil => exact fun P P' _ _ => rfl
  | cons e L ih =>
    intro P P' hc h
    unfold legalR at h
    rw [Bool.and_eq_true] at h
    by_cases hg : g e.2.1 = true
    · rw [List.filter_cons_of_pos (by exact hg)]
      unfold legalR
      rw [Bool.and_eq_true]
      exact ⟨by rw [← okE_cnt (hc _ hg)]; exact h.1, ih _ _ (fun t ht => by rw [cnt_app, cnt_app, hc t ht]) h.2⟩
    · rw [List.filter_cons_of_neg (by exact hg)]
      refine ih _ _ (fun t ht => ?_) h.2
      rw [cnt_app, hc t ht, if_neg (fun e2 => hg (by rw [e2]; exact ht))]; rfl
/-- a task's events among the first k ones; the others -/
def ownL (t : Int) (Rs : List RE) (k : Nat) : List RE := (Rs.take k).filter (fun r => decide (r.1.2.1 = t))
def othL (t : Int) (Rs : List RE) (k : Nat) : List RE := (Rs.take k).filter (fun r => !decide (r.1.2.1 = t))
theorem ownL_yes {t : Int} {Rs : List RE} {k : Nat} {r : RE} (h : Rs[k]? = some r) (e : r.1.2.1 = t) : ownL t Rs (k + 1) = ownL t Rs k ++ [r] ∧ othL t Rs (k + 1) = othL t Rs k := by
  unfold ownL othL
  rw [List.take_add_one, h]
  simp [List.filter_append, e]
theorem ownL_no {t : Int} {Rs : List RE} {k : Nat} {r : RE} (h : Rs[k]? = some r) (e : ¬ r.1.2.1 = t) : ownL t Rs (k + 1) = ownL t Rs k ∧ othL t Rs (k + 1) = othL t Rs k ++ [r] := by
  unfold ownL othL
  rw [List.take_add_one, h]
  simp [List.filter_append, e]
theorem ownL_len (t : Int) (Rs : List RE) (k : Nat) : (ownL t Rs k).length ≤ k ∧ (othL t Rs k).length ≤ k := by
  constructor
  · exact Nat.le_trans (List.length_filter_le _ _) (by rw [List.length_take]; omega)
  · exact Nat.le_trans (List.length_filter_le _ _) (by rw [List.length_take]; omega)
theorem own_fst (g : Int → Bool) (Rs : List RE) : (Rs.filter (fun r => g r.1.2.1)).map Prod.fst = (Rs.map Prod.fst).filter (fun e => g e.2.1) := by
  rw [List.filter_map]; rfl
theorem legalL_of {tasks : Int} {L : List Ev} (h : legalL tasks L = true) : (1 ≤ tasks ∧ tasks ≤ 6) ∧ legalR tasks [] L = true := by
  unfold legalL at h
  rw [Bool.and_eq_true, decide_eq_true_eq] at h
  exact h
theorem legalL_to {tasks : Int} {L : List Ev} (h : 1 ≤ tasks ∧ tasks ≤ 6) (h2 : legalR tasks [] L = true) : legalL tasks L = true := by
  unfold legalL
  rw [h2, decide_eq_true h]; rfl
set_option maxRecDepth 100000 in
set_option maxHeartbeats 16000000 in
theorem walk (tasks : Int) (A : Option Addr) (m c : Nat) (Rs : List RE) (x t : Int) (w : World) (h1 : EvS w A m Rs) (hm1 : m ≤ maxLen) (hc1 : m ≤ c) (hn1 : A = none → m = 0 ∧ c = 0) : Calls Try.prog 7 #[.int .i64 tasks, .slice A m c, .int .i64 x, .int .i64 t] w (Bl true w) := by
  have HS : Hid (∀ W, Below w.heap.size w W → EvS W A m Rs) := fun W hb => h1.later hb
  have HL : Hid (Rs.length = m) := h1.rd.1
  have HM := Lib.hid hm1
  have HC := Lib.hid hc1
  have HN := Lib.hid hn1
  clear h1 hm1 hc1 hn1
  go_enter Try.func7, Try.ntmps7
  go_wp2_with fail
  refine (works_x w).mono ?_
  rintro e w1 ⟨rfl, hb⟩
  have HB1 := Lib.hid hb
  clear hb
  go_wp2_with fail
  refine (wide_any A m c Rs w1 (HS.out _ HB1.out) HM.out).mono ?_
  rintro e w2 ⟨r, rfl, hb, hr⟩
  have HB2 := Lib.hid (stepB HB1.out hb)
  have HR1 := Lib.hid hr
  clear hb hr
  cases r with
  | true =>
    go_wp2_with fail
    refine (works_x _).mono ?_
    rintro e w3 ⟨rfl, hb⟩
    have HB3 := Lib.hid (stepB HB2.out hb)
    clear hb
    go_wp2
    go_ret
    exact ⟨rfl, HB3.out⟩
  | false =>
    have hm : m < 3000 := (HR1.out rfl).1
    have HP : Hid (∀ r ∈ Rs, r.2.2.1 ≤ 100000) := fun r hr => by have := (HR1.out rfl).2 r hr; omega
    clear HR1 HM HB1
    go_wp2_with fail
    refine (legal_any tasks A m c Rs w2 (HS.out _ HB2.out) HP.out (by omega)).mono ?_
    rintro e w3 ⟨rfl, hb⟩
    have HB3 := Lib.hid (stepB HB2.out hb)
    clear hb HB2
    obtain ⟨b, hbe⟩ : ∃ b, legalL tasks (Rs.map Prod.fst) = b := ⟨_, rfl⟩
    rw [hbe]
    cases b with
    | false =>
      clear hbe
      go_wp2_with fail
      refine (works_x _).mono ?_
      rintro e w4 ⟨rfl, hb⟩
      have HB4 := Lib.hid (stepB HB3.out hb)
      clear hb
      go_wp2
      go_ret
      exact ⟨rfl, HB4.out⟩
    | true =>
      have HT := Lib.hid (legalL_of hbe).1
      have HG := Lib.hid (legalL_of hbe).2
      have wm : IntKind.i64.wrap ((m : Int) + 1) = (m : Int) + 1 := IntWalk.i64_in _ (by omega)
      have um : IntKind.u64.wrap ((m : Int) + 1) = (m : Int) + 1 := by unfold IntKind.wrap; simp [IntKind.bits, IntKind.signed]; omega
      obtain ⟨z, hz⟩ : ∃ z, IntKind.u64.wrap x = z := ⟨_, rfl⟩
      have hz0 : 0 ≤ z := by rw [← hz]; unfold IntKind.wrap; simp [IntKind.bits, IntKind.signed]; omega
      obtain ⟨k0, hk0, hzk⟩ : ∃ k0 : Nat, k0 ≤ m ∧ wrap64 (z % ((m : Int) + 1)) = (k0 : Int) := by
        have h1 := Int.emod_nonneg z (show (m : Int) + 1 ≠ 0 by omega)
        have h2 := Int.emod_lt_of_pos z (show (0 : Int) < (m : Int) + 1 by omega)
        refine ⟨(z % ((m : Int) + 1)).toNat, by omega, ?_⟩
        rw [Int.toNat_of_nonneg h1]
        exact IntWalk.wrap64_in _ (by omega)
      clear hbe
      go_wp2
      rw [hzk]
      clear hzk um wm hz hz0
      go_loopw [9, 10, 11] (fun o1 o2 i W => ∃ (k : Nat) (v1 v2 : Value), k ≤ m ∧ i = .int .i64 k ∧ v1 = o1 ∧ v2 = o2 ∧ ROwn evc 7 W w.heap.size 40 v1 (ownL t Rs k).length (ownL t Rs k) ∧ ROwn evc 7 W w.heap.size 40 v2 (othL t Rs k).length (othL t Rs k) ∧ (∀ i, v2.ownBlock = some i → v1.ownBlock ≠ some i) ∧ Below w.heap.size w W) (fun _ _ i _ => m - (intOf i).toNat)
      case atStart => exact ⟨0, _, _, Nat.zero_le _, rfl, rfl, rfl, ROwn.nil0 _ _ _, ROwn.nil0 _ _ _, (fun i e => by cases e), HB3.out⟩
      case round =>
        obtain ⟨k, v1, v2, hk, rfl, rfl, rfl, ho, hp, hd, hb⟩ := hrel
        have HO := Lib.hid ho
        have HPP := Lib.hid hp
        have HD0 := Lib.hid hd
        have HBW := Lib.hid hb
        clear ho hp hd hb HB3
        by_cases hlt : k < m
        · have d1 : decide ((k : Int) < (m : Int)) = true := decide_eq_true (by omega)
          have wk : IntKind.i64.wrap ((k : Int) + 1) = (k : Int) + 1 := IntWalk.i64_in _ (by omega)
          have HLE : Hid ((ownL t Rs k).length < 3000 ∧ (othL t Rs k).length < 3000) := by
            have := ownL_len t Rs k
            show _ ∧ _
            omega
          obtain ⟨g, off, hAe, hg, hc⟩ := (HS.out _ HBW.out).rd.2 (by omega)
          subst hAe
          have i5 := idx32 g off m c k (k : Int) rfl hlt
          have hrk : Rs[k]? = some (Rs[k]'(by rw [HL.out]; exact hlt)) := List.getElem?_eq_getElem _
          have HRK := Lib.hid hrk
          generalize Rs[k]'(by rw [HL.out]; exact hlt) = r at *
          obtain ⟨⟨wh, t2, cl, er, fo, va, ps⟩, A1, n1, c1⟩ := r
          have x0 := hc k _ hrk 0 (by decide)
          have x1 := hc k _ hrk 1 (by decide)
          have x2 := hc k _ hrk 2 (by decide)
          have x3 := hc k _ hrk 3 (by decide)
          have x4 := hc k _ hrk 4 (by decide)
          have x5 := hc k _ hrk 5 (by decide)
          have x6 := hc k _ hrk 6 (by decide)
          simp only [evc, hdv, List.getElem?_cons_zero, List.getElem?_cons_succ, Nat.add_zero] at x0 x1 x2 x3 x4 x5 x6
          obtain ⟨r, hre⟩ : ∃ r : RE, r = ((wh, t2, cl, er, fo, va, ps), (A1, n1, c1)) := ⟨_, rfl⟩
          have HRE := Lib.hid hre
          rw [← hre] at HRK
          have hby : Below wr.heap.size wr (wr.alloc (.cells #[.int .u8 wh, .int .i64 t2, .int .i64 cl, .int .i64 er, .bool fo, .string va, .slice A1 n1 c1] 40)) := (Below.refl _ _).alloc (Nat.le_refl _) _
          have HX3 : Hid (RSl evc 7 (wr.alloc (.cells #[.int .u8 wh, .int .i64 t2, .int .i64 cl, .int .i64 er, .bool fo, .string va, .slice A1 n1 c1] 40)) (some ⟨wr.heap.size, 0, none⟩) 1 [r]) := by
            subst hre
            exact Blk.rsl (x := ((wh, t2, cl, er, fo, va, ps), (A1, n1, c1))) (Blk.new wr _ 40)
          have HB3 := Lib.hid (stepB HBW.out hby)
          clear hc hrk hg hre
          by_cases ht : t2 = t
          · have d2 : (t2 == t) = true := by rw [ht]; simp
            have HY := Lib.hid (ownL_yes (t := t) HRK.out (by rw [HRE.out]; exact ht))
            have HO3 := Lib.hid (HO.out.later hby)
            have HP3 := Lib.hid (HPP.out.later hby)
            have HD := HD0
            obtain ⟨Av, cv, hv, _, _⟩ := HO3.out.sl
            subst hv
            clear ht hby HD0 HO HPP
            go_wp2_with (first
              | (at_builtin; refine append_row1 elemEv rfl (.tmp 46) (.tmp 51) rfl w.heap.size (.slice Av (ownL t Rs k).length cv) (ownL t Rs k).length (ownL t Rs k) rfl HO3.out wr.heap.size 1 r rfl HX3.out (by have := HLE.out; omega) (by decide) HB3.out.size ?_; intro A4 c4 w4 ho4 hg4 hn4)
              | fail)
            intro hl4
            have HB4 : Hid (Below w.heap.size w w4) := HB3.out.grown hg4 HB3.out.size (fun j e => (HO3.out.lt j e).1)
            have HO4 := Lib.hid ho4
            have HP4 : Hid (ROwn evc 7 w4 w.heap.size 40 v2 (othL t Rs k).length (othL t Rs k)) := HP3.out.kept hg4 (fun i e e2 => HD.out i e e2.symm)
            have HD4 : Hid (∀ i, v2.ownBlock = some i → (Value.slice A4 ((ownL t Rs k).length + 1) c4).ownBlock ≠ some i) := fun i e e2 => by
              rcases hn4 i e2 with h | h
              · exact HD.out i e h
              · have := (HP3.out.lt i e).2; omega
            clear ho4 hg4 hn4 hl4 HX3 HO3 HB3 HP3 HD
            go_wp2
            go_roundw
            case rel => exact ⟨k + 1, _, _, by omega, by go_num, rfl, rfl, by rw [HY.out.1, List.length_append]; exact HO4.out, by rw [HY.out.2]; exact HP4.out, HD4.out, HB4.out⟩
            case measure => simp [intOf]; omega
          · have d2 : (t2 == t) = false := by simp [ht]
            have HY := Lib.hid (ownL_no (t := t) HRK.out (by rw [HRE.out]; exact ht))
            have HO3 := Lib.hid (HPP.out.later hby)
            have HP3 := Lib.hid (HO.out.later hby)
            have HD : Hid (∀ i, v1.ownBlock = some i → v2.ownBlock ≠ some i) := fun i e e2 => HD0.out i e2 e
            obtain ⟨Av, cv, hv, _, _⟩ := HO3.out.sl
            subst hv
            clear ht hby HD0 HO HPP
            go_wp2_with (first
              | (at_builtin; refine append_row1 elemEv rfl (.tmp 53) (.tmp 58) rfl w.heap.size (.slice Av (othL t Rs k).length cv) (othL t Rs k).length (othL t Rs k) rfl HO3.out wr.heap.size 1 r rfl HX3.out (by have := HLE.out; omega) (by decide) HB3.out.size ?_; intro A4 c4 w4 ho4 hg4 hn4)
              | fail)
            intro hl4
            have HB4 : Hid (Below w.heap.size w w4) := HB3.out.grown hg4 HB3.out.size (fun j e => (HO3.out.lt j e).1)
            have HO4 := Lib.hid ho4
            have HP4 : Hid (ROwn evc 7 w4 w.heap.size 40 v1 (ownL t Rs k).length (ownL t Rs k)) := HP3.out.kept hg4 (fun i e e2 => HD.out i e e2.symm)
            have HD4 : Hid (∀ i, v1.ownBlock = some i → (Value.slice A4 ((othL t Rs k).length + 1) c4).ownBlock ≠ some i) := fun i e e2 => by
              rcases hn4 i e2 with h | h
              · exact HD.out i e h
              · have := (HP3.out.lt i e).2; omega
            clear ho4 hg4 hn4 hl4 HX3 HO3 HB3 HP3 HD
            go_wp2
            go_roundw
            case rel => exact ⟨k + 1, _, _, by omega, by go_num, rfl, rfl, by rw [HY.out.1]; exact HP4.out, by rw [HY.out.2, List.length_append]; exact HO4.out, (fun i e e2 => HD4.out i e2 e), HB4.out⟩
            case measure => simp [intOf]; omega
        · obtain rfl : k = m := by omega
          have d1 : decide ((k : Int) < (k : Int)) = false := decide_eq_false (by omega)
          have HLK : Hid (Rs.take k = Rs) := List.take_of_length_le (by rw [HL.out]; exact Nat.le_refl _)
          have HE1 := Lib.hid (ownL_len t Rs k)
          have i6 := slice_hi7 A k c k0 hk0 HC.out HN.out
          have hlt0 := legalL_to HT.out (legalR_take tasks k0 _ _ HG.out)
          have HA0 := Lib.hid (legal_any tasks A k0 c (Rs.take k0) wr ((HS.out _ HBW.out).take k0 hk0) (fun r hr => HP.out r (List.mem_of_mem_take hr)) (by omega))
          rw [List.map_take, hlt0] at HA0
          have hl1 : legalL tasks ((ownL t Rs k).map Prod.fst) = true := by
            unfold ownL
            rw [HLK.out, own_fst (fun x => decide (x = t))]
            exact legalL_to HT.out (legalR_filter tasks (fun x => decide (x = t)) _ _ _ (fun _ _ => rfl) HG.out)
          have hl2 : legalL tasks ((othL t Rs k).map Prod.fst) = true := by
            unfold othL
            rw [HLK.out, own_fst (fun x => !decide (x = t))]
            exact legalL_to HT.out (legalR_filter tasks (fun x => !decide (x = t)) _ _ _ (fun _ _ => rfl) HG.out)
          obtain ⟨Av, cv, hv, _, _⟩ := HO.out.sl
          subst hv
          obtain ⟨Aw, cw, hw, _, _⟩ := HPP.out.sl
          subst hw
          have HV1 : Hid (∀ W, Below wr.heap.size wr W → EvS W Av (ownL t Rs k).length (ownL t Rs k)) := fun W hb => ⟨(HO.out.later hb).rsl evc_len, fun r hr => (HS.out W (stepB HBW.out hb)).po r (List.mem_of_mem_take (List.mem_filter.1 hr).1)⟩
          have HV2 : Hid (∀ W, Below wr.heap.size wr W → EvS W Aw (othL t Rs k).length (othL t Rs k)) := fun W hb => ⟨(HPP.out.later hb).rsl evc_len, fun r hr => (HS.out W (stepB HBW.out hb)).po r (List.mem_of_mem_take (List.mem_filter.1 hr).1)⟩
          have HK1 : Hid (∀ W, Below wr.heap.size wr W → Calls Try.prog 18 #[.int .i64 tasks, .slice Av (ownL t Rs k).length cv] W (Bl true W)) := fun W hb => by
            have := legal_any tasks Av _ cv _ W (HV1.out W hb) (fun r hr => HP.out r (List.mem_of_mem_take (List.mem_filter.1 hr).1)) (by have := HE1.out.1; omega)
            rw [hl1] at this
            exact this
          have HK2 : Hid (∀ W, Below wr.heap.size wr W → Calls Try.prog 18 #[.int .i64 tasks, .slice Aw (othL t Rs k).length cw] W (Bl true W)) := fun W hb => by
            have := legal_any tasks Aw _ cw _ W (HV2.out W hb) (fun r hr => HP.out r (List.mem_of_mem_take (List.mem_filter.1 hr).1)) (by have := HE1.out.2; omega)
            rw [hl2] at this
            exact this
          clear hl1 hl2 HV1 HV2 hlt0 HO HPP HD0
          go_wp2_with fail
          refine HA0.out.mono ?_
          rintro e w4 ⟨rfl, hb4⟩
          have HB4 := Lib.hid hb4
          clear hb4
          go_wp2_with fail
          refine (HK1.out _ HB4.out).mono ?_
          rintro e w5 ⟨rfl, hb5⟩
          have HB5 := Lib.hid (stepB HB4.out hb5)
          clear hb5
          go_wp2_with fail
          refine (HK2.out _ HB5.out).mono ?_
          rintro e w6 ⟨rfl, hb6⟩
          have HB6 := Lib.hid (stepB HBW.out (stepB HB5.out hb6))
          clear hb6
          go_wp2
          go_ret
          exact ⟨rfl, HB6.out⟩


set_option maxRecDepth 100000 in
theorem lifted (os : Os) (started : os.Started) (H : Type) (enc : TypeId × Value → H) :
    ReturnsInHanded {} Try.checked os 7 .any (Rows.eventPartsSpec.pre6 enc Try.prog Try.f7 Rows.eventPartsRow.domain false) (Rows.eventPartsSpec.post enc Try.prog Try.f7 false true false false) := by
  refine returnsInHanded_of_change_sized (C := Try.checked) own started (by kernel_rfl) Try.func7
    (ChangeSpec.witness6 (enc := enc) (C := Try.checked) false ⟨#[], #[.int .i64 0, .slice none 0 0, .int .i64 0, .int .i64 0], []⟩ 8 (by kernel_rfl) (by kernel_rfl) (by kernel_rfl) (by kernel_rfl)) ?_
  intro W base args ds gs before hval0 hW _ hsz _
  have hval : ∀ (j : Nat) t v, Try.f7.params[j]? = some t → args[j]? = some v → Value.okWide Try.prog W .any base t v := hval0
  have hW' := hW
  obtain ⟨p, q, hA0, hV, hbef, _, _⟩ := hW
  have hA : DataW.TrodAll enc Try.prog W 0 (fun _ => true) true Try.f7.params.toList args.toList ds p := hA0
  rw [Try.params7] at hA hval
  obtain ⟨v0, vs0, d0, ds0, p0, q0, hargs, rfl, rfl, h0, r0⟩ := trodAll_cons hA
  obtain ⟨v1, vs1, d1, ds1, p1, q1, rfl, rfl, rfl, h1, r1⟩ := trodAll_cons r0
  obtain ⟨v2, vs2, d2, ds2, p2, q2, rfl, rfl, rfl, h2, r2⟩ := trodAll_cons r1
  obtain ⟨v3, vs3, d3, ds3, p3, q3, rfl, rfl, rfl, h3, r3⟩ := trodAll_cons r2
  obtain ⟨rfl, rfl, rfl⟩ := trodAll_nil r3
  obtain rfl : args = #[v0, v1, v2, v3] := by cases args; simp_all
  obtain ⟨rfl, rfl⟩ := trodVars_none hV
  obtain ⟨a0, rfl, _, _, w0⟩ := open_int Try.underlying3 (hval 0 3 v0 rfl rfl) h0
  obtain ⟨A1, n1, c1, S1, rfl, st1, mx1, le1, nil1⟩ := open_events (hval 1 32 v1 rfl rfl) h1
  obtain ⟨a2, rfl, _, _, w2⟩ := open_int Try.underlying3 (hval 2 3 v2 rfl rfl) h2
  obtain ⟨a3, rfl, _, _, w3⟩ := open_int Try.underlying3 (hval 3 3 v3 rfl rfl) h3
  refine (walk a0 A1 n1 c1 S1 a2 a3 W st1 mx1 le1 nil1).mono fun e W' ⟨he, hb⟩ => ?_
  subst he
  exact ⟨_, rfl, law_post laidOut (of_decide_eq_true (by kernel_rfl)) rfl Try.underlying4 rfl rfl hW' hb⟩

theorem over : Rows.eventPartsRow.holds Try.pinned (OpenSpec.ofChange Rows.eventPartsSpec) :=
  OpenClaim.holds_of_wide 7 Try.f7 rfl rfl rfl rfl rfl rfl rfl ⟨rfl, rfl, rfl, rfl, rfl⟩ rfl rfl rfl rfl rfl (by kernel_rfl) Try.func7 (by kernel_rfl)
    (of_decide_eq_true (by kernel_rfl)) (by unfold Func.isWrapper; first | (rw [if_pos (by decide +kernel)]; kernel_rfl) | (rw [if_neg (by decide +kernel)]; exact ⟨rfl, rfl⟩))
    (fun os started H enc _ => lifted os started H enc)

end Go.Proofs.Ytgbcncfgpdlmiaa.eventParts
namespace Go.Proofs.Ytgbcncfgpdlmiaa
theorem eventParts_holds : Rows.EventPartsSaid := eventParts.over
end Go.Proofs.Ytgbcncfgpdlmiaa
