/- The document's Without. -/
import Derived.Test.YtgbcncfgpdlmiaaMI
import Derived.Test.YtgbcncfgpdlmiaaU8
namespace Go.Proofs.Ytgbcncfgpdlmiaa
open Go.ChangeShapes Go.WideShapes Go.ChangeAt Go.RowKit Go.Maps
set_option linter.unusedVariables false
set_option linter.unusedSimpArgs false

/-- each place once, where it is first -/
def fo (P : List Pl) : Nat → List Pl
  | 0 => []
  | k + 1 => match P[k]? with
    | none => fo P k
    | some p => if p ∈ P.take k then fo P k else p :: fo P k
theorem fo_none {P : List Pl} {k : Nat} (h : P[k]? = none) : fo P (k + 1) = fo P k := by rw [fo, h]
theorem fo_old {P : List Pl} {k : Nat} {p : Pl} (h : P[k]? = some p) (hp : p ∈ P.take k) : fo P (k + 1) = fo P k := by rw [fo, h]; exact if_pos hp
theorem fo_new {P : List Pl} {k : Nat} {p : Pl} (h : P[k]? = some p) (hp : p ∉ P.take k) : fo P (k + 1) = p :: fo P k := by rw [fo, h]; exact if_neg hp
theorem fo_mem (P : List Pl) (x : Pl) : ∀ k, x ∈ fo P k ↔ x ∈ P.take k
  | 0 => by simp [fo]
  | k + 1 => by
    have ih := fo_mem P x k
    cases h : P[k]? with
    | none =>
      rw [fo_none h, ih, List.take_add_one, h]
      simp
    | some p =>
      rw [take_pl P k p h, List.mem_append, List.mem_singleton, ← ih]
      by_cases hp : p ∈ P.take k
      · rw [fo_old h hp]
        refine ⟨Or.inl, fun h2 => h2.elim id ?_⟩
        rintro rfl
        exact ih.2 hp
      · rw [fo_new h hp, List.mem_cons]
        exact or_comm
theorem fo_nd (P : List Pl) : ∀ k, (fo P k).Nodup
  | 0 => List.nodup_nil
  | k + 1 => by
    have ih := fo_nd P k
    cases h : P[k]? with
    | none => rw [fo_none h]; exact ih
    | some p =>
      by_cases hp : p ∈ P.take k
      · rw [fo_old h hp]; exact ih
      · rw [fo_new h hp]
        exact List.nodup_cons.2 ⟨fun k2 => hp ((fo_mem P p k).1 k2), ih⟩
theorem fo_len (P : List Pl) : ∀ k, (fo P k).length ≤ k
  | 0 => Nat.le_refl _
  | k + 1 => by
    have ih := fo_len P k
    cases h : P[k]? with
    | none => rw [fo_none h]; omega
    | some p =>
      by_cases hp : p ∈ P.take k
      · rw [fo_old h hp]; omega
      · rw [fo_new h hp, List.length_cons]; omega
theorem wx_le (S : List Pl) (e : Ev) : wx S e ≤ S.length := List.countP_le_length
theorem wx_pos {S : List Pl} {e : Ev} (h : e.2.2.1 ≤ 0) : wx S e = 0 := by
  unfold wx
  rw [List.countP_eq_zero]
  intro p _ hl
  rw [isL_iff] at hl
  omega
/-- what the document leaves of the first k events -/
def rwR (P : List Pl) (Rs : List RE) (k : Nat) : List RE := ((Rs.take k).filter (fun r => !decide (((r.1.2.1, r.1.2.2.1) : Pl) ∈ P))).map (fun r => (wM (fo P P.length) r.1, r.2))
theorem rwR_yes {P : List Pl} {Rs : List RE} {k : Nat} {r : RE} (h : Rs[k]? = some r) (e : ((r.1.2.1, r.1.2.2.1) : Pl) ∉ P) : rwR P Rs (k + 1) = rwR P Rs k ++ [(wM (fo P P.length) r.1, r.2)] := by
  unfold rwR
  rw [List.take_add_one, h]
  simp [List.filter_append, e]
theorem rwR_no {P : List Pl} {Rs : List RE} {k : Nat} {r : RE} (h : Rs[k]? = some r) (e : ((r.1.2.1, r.1.2.2.1) : Pl) ∈ P) : rwR P Rs (k + 1) = rwR P Rs k := by
  unfold rwR
  rw [List.take_add_one, h]
  simp [List.filter_append, e]
theorem rwR_len (P : List Pl) (Rs : List RE) (k : Nat) : (rwR P Rs k).length ≤ k := by
  unfold rwR
  rw [List.length_map]
  exact Nat.le_trans (List.length_filter_le _ _) (by rw [List.length_take]; omega)
theorem rwR_mem {P : List Pl} {Rs : List RE} {k : Nat} {r : RE} (h : r ∈ rwR P Rs k) : ∃ x ∈ Rs, r.2 = x.2 ∧ r.1.2.2.2.2.2.2 = x.1.2.2.2.2.2.2 := by
  obtain ⟨x, hx, rfl⟩ := List.mem_map.1 h
  exact ⟨x, List.mem_of_mem_take (List.mem_filter.1 hx).1, rfl, rfl⟩
theorem rwR_fst {P : List Pl} {Rs : List RE} {k : Nat} (h : Rs.length = k) : (rwR P Rs k).map Prod.fst = wS (fo P P.length) (Rs.map Prod.fst) := by
  unfold rwR wS
  rw [List.take_of_length_le (by omega), List.map_map, List.filter_map, List.map_map]
  have h1 : ∀ x : Pl, x ∈ fo P P.length ↔ x ∈ P := fun x => by rw [fo_mem, List.take_of_length_le (Nat.le_refl _)]
  have h2 : (fun r : RE => !decide (((r.1.2.1, r.1.2.2.1) : Pl) ∈ P)) = ((fun e : Ev => !decide (((e.2.1, e.2.2.1) : Pl) ∈ fo P P.length)) ∘ Prod.fst) := by
    funext r
    simp only [Function.comp]
    rw [decide_eq_decide.2 (h1 _)]
  rw [h2]
  rfl
theorem wS_members {S T : List Pl} {L : List Ev} (hs : S.Nodup) (ht : T.Nodup) (h : ∀ p : Pl, p ∈ S ↔ p ∈ T) : wS S L = wS T L := by
  unfold wS
  rw [List.filter_congr (q := fun e : Ev => !decide (((e.2.1, e.2.2.1) : Pl) ∈ T)) (fun e he => by
    rw [decide_eq_decide.2 (h _)])]
  refine List.map_congr_left fun e he => ?_
  unfold wM
  rw [wx_same hs ht fun p _ => h p]
def RwEnd (P : List Pl) (Rs : List RE) (n : Nat) (w : World) (e : Ending) (w' : World) : Prop := ∃ A c, e = .returned (.slice A (rwR P Rs n).length c) ∧ ROwn evc 7 w' w.heap.size 40 (.slice A (rwR P Rs n).length c) (rwR P Rs n).length (rwR P Rs n) ∧ Below w.heap.size w w'
/-- how many are left out ahead, of the first j places -/
def lsJ (P : List Pl) (e : Ev) (j : Nat) : Nat := wx (fo P j) e
theorem lsJ_no {P : List Pl} {e : Ev} {j : Nat} {p : Pl} (h : P[j]? = some p) (hn : isL e p = false ∨ p ∈ P.take j) : lsJ P e (j + 1) = lsJ P e j := by
  unfold lsJ
  by_cases hp : p ∈ P.take j
  · rw [fo_old h hp]
  · rw [fo_new h hp, wx_cons]
    rcases hn with h1 | h1
    · rw [h1]; simp
    · exact absurd h1 hp
theorem lsJ_yes {P : List Pl} {e : Ev} {j : Nat} {p : Pl} (h : P[j]? = some p) (hn : isL e p = true) (hp : p ∉ P.take j) : lsJ P e (j + 1) = lsJ P e j + 1 := by
  unfold lsJ
  rw [fo_new h hp, wx_cons, if_pos hn]
theorem lsJ_le (P : List Pl) (e : Ev) (j : Nat) : lsJ P e j ≤ j := Nat.le_trans (wx_le _ _) (fo_len _ _)
theorem isL_of {e : Ev} {p : Pl} (h1 : p.1 = e.2.1) (h2 : 0 ≤ p.2) (h3 : p.2 < e.2.2.1) : isL e p = true := isL_iff.2 ⟨h1, h2, h3⟩
theorem isL_not {e : Ev} {p : Pl} (h : ¬ (p.1 = e.2.1 ∧ 0 ≤ p.2 ∧ p.2 < e.2.2.1)) : isL e p = false := by
  cases hb : isL e p
  · rfl
  · exact absurd (isL_iff.1 hb) h
set_option maxRecDepth 100000 in
set_option maxHeartbeats 8000000 in
theorem rwithout_any (A : Option Addr) (m c : Nat) (AG : Option Addr) (mg cg : Nat) (P : List Pl) (Rs : List RE) (w : World) (h1 : EvS w A m Rs) (hm : m ≤ 100000) (hcr : ∀ r ∈ Rs, -9223372036854775808 ≤ r.1.2.2.1 ∧ r.1.2.2.1 ≤ 9223372036854775807) (h2 : RSl plc 2 w AG mg P) (hmg : mg ≤ 1000) : Calls Try.prog 32 #[.slice A m c, .slice AG mg cg] w (RwEnd P Rs m w) := by
  have HS : Hid (∀ W, Below w.heap.size w W → EvS W A m Rs) := fun W hb => h1.later hb
  have HG : Hid (∀ W, Below w.heap.size w W → RSl plc 2 W AG mg P) := fun W hb => h2.later hb
  have HL : Hid (Rs.length = m) := h1.rd.1
  have HGL : Hid (P.length = mg) := h2.1
  have HCR := Lib.hid hcr
  clear h1 h2 hcr
  go_enter Try.func32, Try.ntmps32
  go_wp2
  go_loopw [5, 6] (fun o1 i W => ∃ (k : Nat) (v1 : Value), k ≤ m ∧ i = .int .i64 k ∧ v1 = o1 ∧ ROwn evc 7 W w.heap.size 40 v1 (rwR P Rs k).length (rwR P Rs k) ∧ Below w.heap.size w W) (fun _ i _ => m - (intOf i).toNat)
  case atStart => exact ⟨0, _, Nat.zero_le _, rfl, rfl, ROwn.nil0 _ _ _, Below.refl _ _⟩
  case round =>
    obtain ⟨k, v1, hk, rfl, rfl, ho, hb⟩ := hrel
    have HO := Lib.hid ho
    have HBW := Lib.hid hb
    clear ho hb
    by_cases hlt : k < m
    · have d1 : decide ((k : Int) < (m : Int)) = true := decide_eq_true (by omega)
      have wk : IntKind.i64.wrap ((k : Int) + 1) = (k : Int) + 1 := IntWalk.i64_in _ (by omega)
      have HLE : Hid ((rwR P Rs k).length ≤ 100000) := by
        have := rwR_len P Rs k
        show _ ≤ _
        omega
      obtain ⟨g, off, hAe, hg, hc⟩ := (HS.out _ HBW.out).rd.2 (by omega)
      subst hAe
      have i5 := idx32 g off m c k (k : Int) rfl hlt
      have hrk : Rs[k]? = some (Rs[k]'(by rw [HL.out]; exact hlt)) := List.getElem?_eq_getElem _
      have HRK := Lib.hid hrk
      have HCK := Lib.hid (HCR.out _ (List.mem_of_getElem? hrk))
      generalize Rs[k]'(by rw [HL.out]; exact hlt) = r at *
      obtain ⟨⟨wh, t, cl, er, fo_, va, ps⟩, A1, n1, c1⟩ := r
      have x0 := hc k _ hrk 0 (by decide)
      have x1 := hc k _ hrk 1 (by decide)
      have x2 := hc k _ hrk 2 (by decide)
      have x3 := hc k _ hrk 3 (by decide)
      have x4 := hc k _ hrk 4 (by decide)
      have x5 := hc k _ hrk 5 (by decide)
      have x6 := hc k _ hrk 6 (by decide)
      simp only [evc, hdv, List.getElem?_cons_zero, List.getElem?_cons_succ, Nat.add_zero] at x0 x1 x2 x3 x4 x5 x6
      have hby : Below wr.heap.size wr (wr.alloc (.cells #[.int .u8 wh, .int .i64 t, .int .i64 cl, .int .i64 er, .bool fo_, .string va, .slice A1 n1 c1] 40)) := (Below.refl _ _).alloc (Nat.le_refl _) _
      have HBK : Hid (Blk (wr.alloc (.cells #[.int .u8 wh, .int .i64 t, .int .i64 cl, .int .i64 er, .bool fo_, .string va, .slice A1 n1 c1] 40)) wr.heap.size #[.int .u8 wh, .int .i64 t, .int .i64 cl, .int .i64 er, .bool fo_, .string va, .slice A1 n1 c1] 40) := Blk.new _ _ _
      have HB3 := Lib.hid (stepB HBW.out hby)
      have HO3 := Lib.hid (HO.out.later hby)
      have HWQ : Hid (w.heap.size ≤ wr.heap.size) := HBW.out.size
      have HOV0 : Hid (∀ i, v1.ownBlock = some i → i < wr.heap.size) := fun i e => (HO.out.lt i e).2
      clear hc hrk hg hby HO HBW
      go_upto_region 6 with (fail)
      clear x0 x1 x2 x3 x4 x5 x6 i5
      obtain ⟨q, hq⟩ : ∃ q, wr.heap.size = q := ⟨_, rfl⟩
      have HOV : Hid (∀ i, v1.ownBlock = some i → i < q) := by rw [← hq]; exact HOV0.out
      clear HOV0
      rw [hq] at HBK HWQ
      rw [hq]
      generalize wr.alloc (.cells #[.int .u8 wh, .int .i64 t, .int .i64 cl, .int .i64 er, .bool fo_, .string va, .slice A1 n1 c1] 40) = wb at *
      clear hq
      have c1' := HBK.out.cell 1
      have c2' := HBK.out.cell 2
      simp only [List.getElem?_toArray, List.getElem?_cons_zero, List.getElem?_cons_succ] at c1' c2'
      have HTA : Hid (P.take mg = P) := List.take_of_length_le (by rw [HGL.out]; exact Nat.le_refl _)
      go_wp2_with fail
      refine (has_any AG mg cg mg P t cl wb (HG.out _ HB3.out) (by omega) (Nat.le_refl _)).mono ?_
      rintro e w2 ⟨rfl, hb⟩
      rw [HTA.out]
      have HB4 := Lib.hid (stepB HB3.out hb)
      have HO4 := Lib.hid (HO3.out.later hb)
      have HBK4 := Lib.hid (HBK.out.later hb)
      clear hb HB3 HO3 HBK c1' c2'
      by_cases hin : ((t, cl) : Pl) ∈ P
      · rw [decide_eq_true hin]
        have HY := Lib.hid (rwR_no HRK.out hin)
        clear hin
        go_wp2
        go_roundw
        case rel => exact ⟨k + 1, v1, by omega, by go_num, rfl, by rw [HY.out]; exact HO4.out, HB4.out⟩
        case measure => simp [intOf]; omega
      · rw [decide_eq_false hin]
        have HY := Lib.hid (rwR_yes HRK.out hin)
        obtain ⟨ev, hev⟩ : ∃ ev : Ev, ev = (wh, t, cl, er, fo_, va, ps) := ⟨_, rfl⟩
        have HEV := Lib.hid hev
        have HET : Hid (ev.2.1 = t ∧ ev.2.2.1 = cl) := by rw [hev]; exact ⟨rfl, rfl⟩
        clear hin hev
        go_wp2
        go_loopw [8, 9] (fun i8 i9 W => ∃ j : Nat, j ≤ mg ∧ i9 = .int .i64 j ∧ i8 = .int .i64 (lsJ P ev j : Nat) ∧ Below w2.heap.size w2 W) (fun _ i _ => mg - (intOf i).toNat)
        case atStart => exact ⟨0, Nat.zero_le _, rfl, rfl, Below.refl _ _⟩
        case round =>
          obtain ⟨wz, rfl⟩ : ∃ wz : World, wz = wr := ⟨_, rfl⟩
          obtain ⟨j, hj, rfl, rfl, hb⟩ := hrel
          have HBZ := Lib.hid hb
          clear hb
          have HJL := Lib.hid (lsJ_le P ev j)
          by_cases hlj : j < mg
          · have d2 : decide ((j : Int) < (mg : Int)) = true := decide_eq_true (by omega)
            have wj : IntKind.i64.wrap ((j : Int) + 1) = (j : Int) + 1 := IntWalk.i64_in _ (by omega)
            obtain ⟨g2, off2, hAe, hg, hc⟩ := (HG.out _ (stepB HB4.out HBZ.out)).2 (by omega)
            subst hAe
            have i5 := idx58 g2 off2 mg cg j (j : Int) rfl hlj
            have hpj : P[j]? = some (P[j]'(by rw [HGL.out]; exact hlj)) := List.getElem?_eq_getElem _
            have HPJ := Lib.hid hpj
            generalize P[j]'(by rw [HGL.out]; exact hlj) = p at *
            obtain ⟨p1, p2⟩ := p
            have x0 := hc j _ hpj 0 (by decide)
            have x1 := hc j _ hpj 1 (by decide)
            have y1 := (HBK4.out.later HBZ.out).cell 1
            have y2 := (HBK4.out.later HBZ.out).cell 2
            simp only [plc, List.getElem?_toArray, List.getElem?_cons_zero, List.getElem?_cons_succ, Nat.add_zero] at x0 x1 y1 y2
            clear hc hpj hg
            have go : ∀ nq : Nat, Below w2.heap.size w2 (wz.drewN nq) := fun nq => below_drewN HBZ.out nq
            have HGO := Lib.hid go
            clear go
            by_cases e1 : p1 = t
            · have b1 : (p1 == t) = true := by rw [e1]; simp
              by_cases e2 : 0 ≤ p2
              · have b2 : decide (0 ≤ p2) = true := decide_eq_true e2
                by_cases e3 : p2 < cl
                · have b3 : decide (p2 < cl) = true := decide_eq_true e3
                  have HIS : Hid (isL ev (p1, p2) = true) := isL_of (by rw [HET.out.1]; exact e1) e2 (by rw [HET.out.2]; exact e3)
                  clear e1 e2 e3
                  go_upto_region 11 with (fail)
                  go_still_tail 33, (by kernel_rfl)
                  change wpList _ _ _ _ _ wz.drew
                  have hbd : Below wz.heap.size wz wz.drew := Below.drew (Below.refl _ _)
                  have HBD := Lib.hid (stepB HBZ.out hbd)
                  have HGD := Lib.hid (HG.out _ (stepB HB4.out HBD.out))
                  clear hbd x0 x1 y1 y2 HBZ HGO
                  generalize wz.drew = wd at *
                  go_wp2_with fail
                  refine (has_any (some ⟨g2, off2, none⟩) mg cg j P p1 p2 wd HGD.out (by omega) (by omega)).mono ?_
                  rintro e w5 ⟨rfl, hb⟩
                  have HB5 := Lib.hid (stepB HBD.out hb)
                  clear hb HBD HGD
                  by_cases hin : ((p1, p2) : Pl) ∈ P.take j
                  · rw [decide_eq_true hin]
                    have HJ2 := Lib.hid (lsJ_no (e := ev) HPJ.out (Or.inr hin))
                    clear hin
                    go_wp2
                    go_roundw
                    case rel => exact ⟨j + 1, by omega, by go_num, by rw [HJ2.out], HB5.out⟩
                    case measure => simp [intOf]; omega
                  · rw [decide_eq_false hin]
                    have HJ2 := Lib.hid (lsJ_yes (e := ev) HPJ.out HIS.out hin)
                    have wl : IntKind.i64.wrap (((lsJ P ev j : Nat) : Int) + 1) = ((lsJ P ev j : Nat) : Int) + 1 := IntWalk.i64_in _ (by have := HJL.out; omega)
                    have HJ3 : Hid (((lsJ P ev (j + 1) : Nat) : Int) = ((lsJ P ev j : Nat) : Int) + 1) := by show _ = _; rw [HJ2.out]; rfl
                    clear hin
                    go_wp2
                    go_roundw
                    case rel => exact ⟨j + 1, by omega, by go_num, by rw [HJ3.out], HB5.out⟩
                    case measure => simp [intOf]; omega
                · have b3 : decide (p2 < cl) = false := decide_eq_false e3
                  have HJ2 := Lib.hid (lsJ_no (e := ev) HPJ.out (Or.inl (isL_not (fun h => e3 (by rw [← HET.out.2]; exact h.2.2)))))
                  clear e1 e2 e3
                  go_upto_region 11 with (fail)
                  go_quiet (fail)
                  have HB5 := Lib.hid (HGO.out nq)
                  clear x0 x1 y1 y2 HBZ HGO
                  go_wp2
                  go_roundw
                  case rel => exact ⟨j + 1, by omega, by go_num, by rw [HJ2.out], HB5.out⟩
                  case measure => simp [intOf]; omega
              · have b2 : decide (0 ≤ p2) = false := decide_eq_false e2
                have HJ2 := Lib.hid (lsJ_no (e := ev) HPJ.out (Or.inl (isL_not (fun h => e2 h.2.1))))
                clear e1 e2
                go_upto_region 11 with (fail)
                go_quiet (fail)
                have HB5 := Lib.hid (HGO.out nq)
                clear x0 x1 y1 y2 HBZ HGO
                go_wp2
                go_roundw
                case rel => exact ⟨j + 1, by omega, by go_num, by rw [HJ2.out], HB5.out⟩
                case measure => simp [intOf]; omega
            · have b1 : (p1 == t) = false := by rw [beq_eq_false_iff_ne]; exact e1
              have HJ2 := Lib.hid (lsJ_no (e := ev) HPJ.out (Or.inl (isL_not (fun h => e1 (by rw [← HET.out.1]; exact h.1)))))
              clear e1
              go_upto_region 11 with (fail)
              go_quiet (fail)
              have HB5 := Lib.hid (HGO.out nq)
              clear x0 x1 y1 y2 HBZ HGO
              go_wp2
              go_roundw
              case rel => exact ⟨j + 1, by omega, by go_num, by rw [HJ2.out], HB5.out⟩
              case measure => simp [intOf]; omega
          · obtain rfl : j = mg := by omega
            have d2 : decide ((j : Int) < (j : Int)) = false := decide_eq_false (by omega)
            have HB6 := Lib.hid (stepB HB4.out HBZ.out)
            have HO6 := Lib.hid (HO4.out.later HBZ.out)
            have HBK6 := Lib.hid (HBK4.out.later HBZ.out)
            have HLS : Hid (lsJ P ev j = wx (fo P P.length) ev) := by show _ = _; rw [HGL.out]; rfl
            generalize lsJ P ev j = ls at *
            have wd : IntKind.i64.wrap (cl - (ls : Int)) = cl - (ls : Int) := by
              apply IntWalk.i64_in
              have h1 := HCK.out
              have h2 := HJL.out
              by_cases h0 : cl ≤ 0
              · have h3 : ls = 0 := by rw [HLS.out]; exact wx_pos (by rw [HET.out.2]; exact h0)
                omega
              · omega
            have f2 := HBK6.out.frozen 2
            have c2' := HBK6.out.cell 2
            simp only [List.getElem?_toArray, List.getElem?_cons_zero, List.getElem?_cons_succ] at c2'
            have HBK7 : Hid (Blk (wz.setCell ⟨q, 2, none⟩ (.int .i64 (cl - (ls : Int)))) q #[.int .u8 wh, .int .i64 t, .int .i64 (cl - (ls : Int)), .int .i64 er, .bool fo_, .string va, .slice A1 n1 c1] 40) := HBK6.out.set (j := 2) (.int .i64 (cl - (ls : Int)))
            have HB7 : Hid (Below w.heap.size w (wz.setCell ⟨q, 2, none⟩ (.int .i64 (cl - (ls : Int))))) := Below.setCell (p := ⟨q, 2, none⟩) HB6.out HWQ.out _
            have HO7 : Hid (ROwn evc 7 (wz.setCell ⟨q, 2, none⟩ (.int .i64 (cl - (ls : Int)))) w.heap.size 40 v1 (rwR P Rs k).length (rwR P Rs k)) := HO6.out.keepS (fun i e => (grown_set wz q 2 _).block i (HO6.out.lt i e).2 (fun e2 => by
              have h1 := HOV.out i e
              have h3 := Option.some.inj e2
              omega))
            have HRE : Hid ((wM (fo P P.length) (wh, t, cl, er, fo_, va, ps), ((A1, n1, c1) : Hd)) = ((wh, t, cl - (ls : Int), er, fo_, va, ps), (A1, n1, c1))) := by
              show _ = _
              unfold wM
              rw [← HEV.out, ← HLS.out, HEV.out]
            clear HBK6 HB6 HO6 HBK4 HB4 HO4 HBZ HLS HJL
            go_upto_region 14 with (fail)
            generalize wz.setCell ⟨q, 2, none⟩ (.int .i64 (cl - (ls : Int))) = w7 at *
            generalize cl - (ls : Int) = cl2 at *
            clear c2' f2 wd
            have c0 := HBK7.out.cell 0
            have c1' := HBK7.out.cell 1
            have c2' := HBK7.out.cell 2
            have c3' := HBK7.out.cell 3
            have c4 := HBK7.out.cell 4
            have c5 := HBK7.out.cell 5
            have c6 := HBK7.out.cell 6
            simp only [List.getElem?_toArray, List.getElem?_cons_zero, List.getElem?_cons_succ] at c0 c1' c2' c3' c4 c5 c6
            have hby : Below w7.heap.size w7 (w7.alloc (.cells #[.int .u8 wh, .int .i64 t, .int .i64 cl2, .int .i64 er, .bool fo_, .string va, .slice A1 n1 c1] 40)) := (Below.refl _ _).alloc (Nat.le_refl _) _
            have HX3 : Hid (RSl evc 7 (w7.alloc (.cells #[.int .u8 wh, .int .i64 t, .int .i64 cl2, .int .i64 er, .bool fo_, .string va, .slice A1 n1 c1] 40)) (some ⟨w7.heap.size, 0, none⟩) 1 [((wh, t, cl2, er, fo_, va, ps), (A1, n1, c1))]) := Blk.rsl (x := ((wh, t, cl2, er, fo_, va, ps), (A1, n1, c1))) (Blk.new w7 _ 40)
            have HO8 := Lib.hid (HO7.out.later hby)
            have HB8 := Lib.hid (stepB HB7.out hby)
            clear hby HBK7 HO7 HB7
            obtain ⟨Av, cv, hv, _, _⟩ := HO8.out.sl
            subst hv
            go_wp2_with (first
              | (at_builtin; refine append_row1 elemEv rfl (.tmp 78) (.tmp 80) rfl w.heap.size (.slice Av (rwR P Rs k).length cv) (rwR P Rs k).length (rwR P Rs k) rfl HO8.out w7.heap.size 1 ((wh, t, cl2, er, fo_, va, ps), (A1, n1, c1)) rfl HX3.out (by have := HLE.out; omega) (by decide) HB8.out.size ?_; intro A4 c4_ w4 ho4 hg4 hn4)
              | fail)
            intro hl4
            have HO9 := Lib.hid ho4
            have HB9 : Hid (Below w.heap.size w w4) := HB8.out.grown hg4 HB8.out.size (fun j e => (HO8.out.lt j e).1)
            clear ho4 hg4 hn4 hl4 HX3 HO8 HB8 c0 c1' c2' c3' c4 c5 c6
            go_wp2
            go_roundw
            case rel => exact ⟨k + 1, _, by omega, by go_num, rfl, by rw [HY.out, List.length_append, HRE.out]; exact HO9.out, HB9.out⟩
            case measure => simp [intOf]; omega
    · obtain rfl : k = m := by omega
      have d1 : decide ((k : Int) < (k : Int)) = false := decide_eq_false (by omega)
      obtain ⟨Av, cv, hv, _, _⟩ := HO.out.sl
      subst hv
      go_wp2
      go_ret
      exact ⟨Av, cv, rfl, HO.out, HBW.out⟩
theorem rwR_evs {P : List Pl} {Rs : List RE} {m : Nat} {W W0 : World} {B : Nat} {A : Option Addr} {c : Nat} (h : ROwn evc 7 W B 40 (.slice A (rwR P Rs m).length c) (rwR P Rs m).length (rwR P Rs m)) (h2 : ∀ r ∈ Rs, PO W r.2 r.1.2.2.2.2.2.2) : EvS W A (rwR P Rs m).length (rwR P Rs m) :=
  ⟨h.rsl evc_len, fun r hr => by
    obtain ⟨x, hx, h3, h4⟩ := rwR_mem hr
    rw [h3, h4]
    exact h2 x hx⟩
end Go.Proofs.Ytgbcncfgpdlmiaa
