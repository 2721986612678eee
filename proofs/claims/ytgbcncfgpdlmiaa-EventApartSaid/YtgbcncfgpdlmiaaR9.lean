/-
What is done to a copy is not seen; what a recorder tells stays; done to both the same comes of both. For any steps ahead, any behind.
-/
import Derived.Test.YtgbcncfgpdlmiaaRB
import Derived.Test.YtgbcncfgpdlmiaaRows
namespace Go.Proofs.Ytgbcncfgpdlmiaa.eventApart
open Go.ChangeShapes Go.WideShapes Go.ChangeAt Go.RowKit Go.Maps
set_option linter.unusedVariables false
set_option linter.unusedSimpArgs false

theorem own : ownKnob Try.prog.godebug = none := by kernel_rfl
theorem laidOut : laidOutB Try.prog = true := by kernel_rfl

theorem works_x (w : World) : Calls Try.prog 11 #[] w (Bl true w) := works_any w
set_option maxRecDepth 100000 in
set_option maxHeartbeats 16000000 in
theorem walk (tasks : Int) (A1_ : Option Addr) (m1 c1_ : Nat) (S1 : List SE) (A2_ : Option Addr) (m2 c2_ : Nat) (S2 : List SE) (w : World) (h1 : StS w A1_ m1 S1) (hm1 : m1 ≤ maxLen) (h2 : StS w A2_ m2 S2) (hm2 : m2 ≤ maxLen) : Calls Try.prog 9 #[.int .i64 tasks, .slice A1_ m1 c1_, .slice A2_ m2 c2_] w (Bl true w) := by
  have HS1 : Hid (∀ W, Below w.heap.size w W → StS W A1_ m1 S1) := fun W hb => h1.later hb
  have HS2 : Hid (∀ W, Below w.heap.size w W → StS W A2_ m2 S2) := fun W hb => h2.later hb
  have HL1 : Hid (S1.length = m1) := h1.rd.1
  have HL2 : Hid (S2.length = m2) := h2.rd.1
  have HM1 := Lib.hid hm1
  have HM2 := Lib.hid hm2
  clear h1 h2 hm1 hm2
  go_enter Try.func9, Try.ntmps9
  go_wp2_with fail
  refine (works_x w).mono ?_
  rintro e w1 ⟨rfl, hb⟩
  have HB1 := Lib.hid hb
  clear hb
  go_wp2_with fail
  refine (large_any A1_ m1 c1_ S1 w1 (HS1.out _ HB1.out) HM1.out).mono ?_
  rintro e w2 ⟨r, rfl, hb, hr⟩
  have HB2 := Lib.hid (stepB HB1.out hb)
  have HR1 := Lib.hid hr
  clear hb hr
  cases r with
  | true =>
    go_wp2_with fail
    refine (works_x _).mono ?_
    rintro e w3 ⟨rfl, hb⟩
    have HB3 := Lib.hid (stepB HB2.out hb)
    clear hb
    go_wp2
    go_ret
    exact ⟨rfl, HB3.out⟩
  | false =>
    have HRA := Lib.hid (HR1.out rfl)
    clear HR1
    go_wp2_with fail
    refine (large_any A2_ m2 c2_ S2 w2 (HS2.out _ HB2.out) HM2.out).mono ?_
    rintro e w3 ⟨r, rfl, hb, hr⟩
    have HB3 := Lib.hid (stepB HB2.out hb)
    have HR2 := Lib.hid hr
    clear hb hr
    cases r with
    | true =>
      go_wp2_with fail
      refine (works_x _).mono ?_
      rintro e w4 ⟨rfl, hb⟩
      have HB4 := Lib.hid (stepB HB3.out hb)
      clear hb
      go_wp2
      go_ret
      exact ⟨rfl, HB4.out⟩
    | false =>
      have hn1 : m1 ≤ 200 := HRA.out.1
      have hn2 : m2 ≤ 200 := (HR2.out rfl).1
      have HN1_ : Hid (∀ s ∈ S1, s.2.2.1 < 3000) := HRA.out.2
      have HN2_ : Hid (∀ s ∈ S2, s.2.2.1 < 3000) := (HR2.out rfl).2
      clear HRA HR2 HM1 HM2
      by_cases ht : 1 ≤ tasks ∧ tasks ≤ 6
      · have H6 : Hid (tasks ≤ 6) := ht.2
        go_wp2_with fail
        refine (new_any tasks w3 ht.1 ht.2).mono ?_
        rintro e w4 ⟨p, rfl, hr, hb⟩
        have HK4 : Hid (R1 w tasks p [] w4) := ⟨_, _, hr.base HB3.out.size, rfl, stepB HB3.out hb⟩
        clear hr hb HB3 HB2 HB1 ht
        go_wp2
        go_loopw [9] (fun i W => ∃ k : Nat, k ≤ m1 ∧ i = .int .i64 k ∧ R1 w tasks p (runS tasks [] (S1.take k)) W ∧ Bd (runS tasks [] (S1.take k)) k) (fun i _ => m1 - (intOf i).toNat)
        case atStart => exact ⟨0, Nat.zero_le _, rfl, HK4.out, Bd.nil⟩
        case round =>
          obtain ⟨k, hk, rfl, hr0, hd0⟩ := hrel
          have HK0 := Lib.hid hr0
          have HBD := Lib.hid hd0
          clear hr0 hd0 HK4
          by_cases hlt : k < m1
          ·
            have d1 : decide ((k : Int) < (m1 : Int)) = true := decide_eq_true (by omega)
            have wk : IntKind.i64.wrap ((k : Int) + 1) = (k : Int) + 1 := IntWalk.i64_in _ (by omega)
            obtain ⟨g, off, hAe, hg, hc⟩ := (HS1.out _ HK0.out.below).rd.2 (by omega)
            subst hAe
            have i5 := idx47 g off m1 c1_ k (k : Int) rfl hlt
            have hrk : S1[k]? = some (S1[k]'(by rw [HL1.out]; exact hlt)) := List.getElem?_eq_getElem _
            have HSK := Lib.hid (fun L0 => runS_succ tasks L0 S1 k _ hrk)
            have HPK : Hid (∀ W, Below w.heap.size w W → PO W (S1[k]'(by rw [HL1.out]; exact hlt)).2 (S1[k]'(by rw [HL1.out]; exact hlt)).1.2.2.2.2.2) := fun W hb => (HS1.out W hb).po _ (List.mem_of_getElem? hrk)
            have hn1 := HN1_.out _ (List.mem_of_getElem? hrk)
            generalize S1[k]'(by rw [HL1.out]; exact hlt) = s at *
            obtain ⟨⟨wh, t, er, fo, va, ps⟩, A1, n1, c1⟩ := s
            have x0 := hc k _ hrk 0 (by decide)
            have x1 := hc k _ hrk 1 (by decide)
            have x2 := hc k _ hrk 2 (by decide)
            have x3 := hc k _ hrk 3 (by decide)
            have x4 := hc k _ hrk 4 (by decide)
            have x5 := hc k _ hrk 5 (by decide)
            simp only [stc, hdv, List.getElem?_cons_zero, List.getElem?_cons_succ, Nat.add_zero] at x0 x1 x2 x3 x4 x5
            simp only at hn1
            have HPL : Hid (ps.length ≤ 100000) := by
              have := (HPK.out _ HK0.out.below).rd.1
              show _ ≤ _
              simp only at this
              omega
            have HN1 : Hid (n1 ≤ 100000) := by show _ ≤ _; omega
            clear hc hrk hg hn1
            go_wp2_with fail
            refine (r1_do HK0.out H6.out HBD.out (by omega) wh t er fo va ps A1 n1 c1 HPK.out HN1.out).mono ?_
            rintro e w9 ⟨⟨_, rfl, _⟩, hk⟩
            have HK9 := Lib.hid hk
            clear hk
            go_wp2
            go_roundw
            case rel =>
              exact ⟨k + 1, by omega, by go_num, by rw [HSK.out]; exact HK9.out, by rw [HSK.out]; exact HBD.out.doS HPL.out⟩
            case measure => simp [intOf]; omega
          · obtain rfl : k = m1 := by omega
            have d1 : decide ((k : Int) < (k : Int)) = false := decide_eq_false (by omega)
            rw [runS_all tasks [] S1 k HL1.out] at HK0 HBD
            obtain ⟨L, hLe⟩ : ∃ L, runS tasks [] S1 = L := ⟨_, rfl⟩
            rw [hLe] at HK0 HBD
            clear hLe HS1 HL1 HN1_
            go_wp2_with fail
            refine (r1_copy HK0.out HBD.out (by omega)).mono ?_
            rintro e w5 ⟨q, rfl, hk5⟩
            have HK5 := Lib.hid hk5
            clear hk5 HK0
            go_wp2_with fail
            refine (r1_events HK5.out.r1 HBD.out (by omega)).mono ?_
            rintro e w6 ⟨Av, cv, nv, Tr, rfl, ho, hm, hb⟩
            have HK6 := Lib.hid (HK5.out.tell hb ho)
            have HTR := Lib.hid hm
            clear ho hm hb HK5
            go_wp2
            go_loopw [12] (fun i W => ∃ j : Nat, j ≤ m2 ∧ i = .int .i64 j ∧ R2 w tasks p L q (runS tasks L (S2.take j)) (.slice Av nv cv) nv Tr W ∧ Bd (runS tasks L (S2.take j)) (k + j)) (fun i _ => m2 - (intOf i).toNat)
            case atStart => exact ⟨0, Nat.zero_le _, rfl, HK6.out, HBD.out⟩
            case round =>
              obtain ⟨j, hj, rfl, hr0, hd0⟩ := hrel
              have HK0 := Lib.hid hr0
              have HBE := Lib.hid hd0
              clear hr0 hd0 HK6
              by_cases hlt : j < m2
              ·
                have d1 : decide ((j : Int) < (m2 : Int)) = true := decide_eq_true (by omega)
                have wk : IntKind.i64.wrap ((j : Int) + 1) = (j : Int) + 1 := IntWalk.i64_in _ (by omega)
                obtain ⟨g, off, hAe, hg, hc⟩ := (HS2.out _ HK0.out.below).rd.2 (by omega)
                subst hAe
                have i5 := idx47 g off m2 c2_ j (j : Int) rfl hlt
                have hrk : S2[j]? = some (S2[j]'(by rw [HL2.out]; exact hlt)) := List.getElem?_eq_getElem _
                have HSK := Lib.hid (fun L0 => runS_succ tasks L0 S2 j _ hrk)
                have HPK : Hid (∀ W, Below w.heap.size w W → PO W (S2[j]'(by rw [HL2.out]; exact hlt)).2 (S2[j]'(by rw [HL2.out]; exact hlt)).1.2.2.2.2.2) := fun W hb => (HS2.out W hb).po _ (List.mem_of_getElem? hrk)
                have hn1 := HN2_.out _ (List.mem_of_getElem? hrk)
                generalize S2[j]'(by rw [HL2.out]; exact hlt) = s at *
                obtain ⟨⟨wh, t, er, fo, va, ps⟩, A1, n1, c1⟩ := s
                have x0 := hc j _ hrk 0 (by decide)
                have x1 := hc j _ hrk 1 (by decide)
                have x2 := hc j _ hrk 2 (by decide)
                have x3 := hc j _ hrk 3 (by decide)
                have x4 := hc j _ hrk 4 (by decide)
                have x5 := hc j _ hrk 5 (by decide)
                simp only [stc, hdv, List.getElem?_cons_zero, List.getElem?_cons_succ, Nat.add_zero] at x0 x1 x2 x3 x4 x5
                simp only at hn1
                have HPL : Hid (ps.length ≤ 100000) := by
                  have := (HPK.out _ HK0.out.below).rd.1
                  show _ ≤ _
                  simp only at this
                  omega
                have HN1 : Hid (n1 ≤ 100000) := by show _ ≤ _; omega
                clear hc hrk hg hn1
                go_wp2_with fail
                refine (r2_do HK0.out.swap H6.out HBE.out (by omega) wh t er fo va ps A1 n1 c1 HPK.out HN1.out).mono ?_
                rintro e w9 ⟨⟨_, rfl⟩, hk⟩
                have HK9 := Lib.hid hk
                clear hk
                go_wp2
                go_roundw
                case rel =>
                  exact ⟨j + 1, by omega, by go_num, by rw [HSK.out]; exact HK9.out.swap, by rw [HSK.out]; exact HBE.out.doS HPL.out⟩
                case measure => simp [intOf]; omega
              · obtain rfl : j = m2 := by omega
                have d1 : decide ((j : Int) < (j : Int)) = false := decide_eq_false (by omega)
                rw [runS_all tasks L S2 j HL2.out] at HK0 HBE
                go_wp2_with fail
                refine (r1_events HK0.out.r1 HBD.out (by omega)).mono ?_
                rintro e w7 ⟨Aw, cw, nw, Tw, rfl, ho, hm, hb⟩
                have HK7 := Lib.hid (HK0.out.later hb)
                have HTS : Hid (decide (Tw.map Prod.fst = Tr.map Prod.fst) = true) := decide_eq_true (hm.trans HTR.out.symm)
                have HNW := Lib.hid (HBD.out.np hm ho)
                have HNL : Hid (nw ≤ 100000) := by
                  have := HBD.out.lenR hm (by omega)
                  rw [ho.row.1] at this
                  exact this
                have HO7 := Lib.hid ho
                clear ho hm hb HK0
                have HSM := Lib.hid (same_any Aw Av nw nv cw cv Tw Tr w7 HO7.out.evs HK7.out.told.evs HNW.out HNL.out)
                rw [HTS.out] at HSM
                clear HTS HNW HO7 HNL
                go_wp2_with fail
                refine HSM.out.mono ?_
                rintro e w8 ⟨rfl, hb⟩
                have HK8 := Lib.hid (HK7.out.later hb)
                clear hb HSM HK7
                go_wp2
                go_loopw [13] (fun i W => ∃ u : Nat, u ≤ j ∧ i = .int .i64 u ∧ R2 w tasks p (runS tasks L (S2.take u)) q (runS tasks L S2) (.slice Av nv cv) nv Tr W ∧ Bd (runS tasks L (S2.take u)) (k + u)) (fun i _ => j - (intOf i).toNat)
                case atStart => exact ⟨0, Nat.zero_le _, rfl, HK8.out, HBD.out⟩
                case round =>
                  obtain ⟨u, hu, rfl, hr0, hd0⟩ := hrel
                  have HK0 := Lib.hid hr0
                  have HBF := Lib.hid hd0
                  clear hr0 hd0 HK8
                  by_cases hlt : u < j
                  ·
                    have d1 : decide ((u : Int) < (j : Int)) = true := decide_eq_true (by omega)
                    have wk : IntKind.i64.wrap ((u : Int) + 1) = (u : Int) + 1 := IntWalk.i64_in _ (by omega)
                    obtain ⟨g, off, hAe, hg, hc⟩ := (HS2.out _ HK0.out.below).rd.2 (by omega)
                    subst hAe
                    have i5 := idx47 g off j c2_ u (u : Int) rfl hlt
                    have hrk : S2[u]? = some (S2[u]'(by rw [HL2.out]; exact hlt)) := List.getElem?_eq_getElem _
                    have HSK := Lib.hid (fun L0 => runS_succ tasks L0 S2 u _ hrk)
                    have HPK : Hid (∀ W, Below w.heap.size w W → PO W (S2[u]'(by rw [HL2.out]; exact hlt)).2 (S2[u]'(by rw [HL2.out]; exact hlt)).1.2.2.2.2.2) := fun W hb => (HS2.out W hb).po _ (List.mem_of_getElem? hrk)
                    have hn1 := HN2_.out _ (List.mem_of_getElem? hrk)
                    generalize S2[u]'(by rw [HL2.out]; exact hlt) = s at *
                    obtain ⟨⟨wh, t, er, fo, va, ps⟩, A1, n1, c1⟩ := s
                    have x0 := hc u _ hrk 0 (by decide)
                    have x1 := hc u _ hrk 1 (by decide)
                    have x2 := hc u _ hrk 2 (by decide)
                    have x3 := hc u _ hrk 3 (by decide)
                    have x4 := hc u _ hrk 4 (by decide)
                    have x5 := hc u _ hrk 5 (by decide)
                    simp only [stc, hdv, List.getElem?_cons_zero, List.getElem?_cons_succ, Nat.add_zero] at x0 x1 x2 x3 x4 x5
                    simp only at hn1
                    have HPL : Hid (ps.length ≤ 100000) := by
                      have := (HPK.out _ HK0.out.below).rd.1
                      show _ ≤ _
                      simp only at this
                      omega
                    have HN1 : Hid (n1 ≤ 100000) := by show _ ≤ _; omega
                    clear hc hrk hg hn1
                    go_wp2_with fail
                    refine (r2_do HK0.out H6.out HBF.out (by omega) wh t er fo va ps A1 n1 c1 HPK.out HN1.out).mono ?_
                    rintro e w9 ⟨⟨_, rfl⟩, hk⟩
                    have HK9 := Lib.hid hk
                    clear hk
                    go_wp2
                    go_roundw
                    case rel =>
                      exact ⟨u + 1, by omega, by go_num, by rw [HSK.out]; exact HK9.out, by rw [HSK.out]; exact HBF.out.doS HPL.out⟩
                    case measure => simp [intOf]; omega
                  · obtain rfl : u = j := by omega
                    have d1 : decide ((u : Int) < (u : Int)) = false := decide_eq_false (by omega)
                    rw [runS_all tasks L S2 u HL2.out] at HK0 HBF
                    have HPR := Lib.hid (runS_take tasks S2 L)
                    obtain ⟨M, hMe⟩ : ∃ M, runS tasks L S2 = M := ⟨_, rfl⟩
                    rw [hMe] at HK0 HBF HPR HBE
                    clear hMe
                    go_wp2_with fail
                    refine (r1_events HK0.out.r1 HBF.out (by omega)).mono ?_
                    rintro e w8 ⟨Aw, cw, nw, Tw, rfl, ho, hm, hb⟩
                    have HK8 := Lib.hid (HK0.out.tell hb ho)
                    have HK8b := Lib.hid (HK0.out.later hb)
                    have HTW := Lib.hid hm
                    have HNW := Lib.hid (HBF.out.np hm ho)
                    have HNL : Hid (nw ≤ 100000) := by
                      have := HBF.out.lenR hm (by omega)
                      rw [ho.row.1] at this
                      exact this
                    have HO8 := Lib.hid ho
                    clear ho hm hb HK0
                    go_wp2_with fail
                    refine (r1_events HK8b.out.swap.r1 HBF.out (by omega)).mono ?_
                    rintro e w9 ⟨Ax, cx, nx, Tx, rfl, ho, hm, hb⟩
                    have HK9 := Lib.hid (HK8b.out.later hb)
                    have HO9 := Lib.hid (HO8.out.later hb)
                    have HSM := Lib.hid (same_any Aw Ax nw nx cw cx Tw Tx w9 HO9.out.evs ho.evs HNW.out HNL.out)
                    have HTS : Hid (decide (Tw.map Prod.fst = Tx.map Prod.fst) = true) := decide_eq_true (HTW.out.trans hm.symm)
                    rw [HTS.out] at HSM
                    clear ho hm hb HO8 HK8b HTS HK8
                    go_wp2_with fail
                    refine HSM.out.mono ?_
                    rintro e w10 ⟨rfl, hb⟩
                    have HK10 := Lib.hid (HK9.out.later hb)
                    clear hb HSM HK9 HO9 HTW HNW HNL
                    go_wp2_with fail
                    refine (r1_events HK10.out.r1 HBF.out (by omega)).mono ?_
                    rintro e w11 ⟨Ay, cy, ny, Ty, rfl, ho, hm, hb⟩
                    have HK11 := Lib.hid (HK10.out.later hb)
                    have hlm : nv = L.length := by rw [← HTR.out, List.length_map, HK10.out.told.row.1]
                    have hle : nv ≤ ny := by
                      have h1 : ny = M.length := by rw [← hm, List.length_map, ho.row.1]
                      have h2 := congrArg List.length HPR.out
                      rw [List.length_take] at h2
                      omega
                    obtain ⟨_, _, hey, hcy, hny⟩ := ho.row.sl
                    cases hey
                    have i6 := slice_hi7 Ay ny cy nv hle hcy hny
                    have HTK := Lib.hid (ho.evs.take nv hle)
                    have HTT := Lib.hid (HK11.out.told.evs)
                    have HQ : Hid (decide (Tr.map Prod.fst = (Ty.take nv).map Prod.fst) = true) := decide_eq_true (by rw [HTR.out, List.map_take, hm, hlm]; exact HPR.out.symm)
                    have HNT := Lib.hid (HBD.out.np HTR.out HK11.out.told)
                    have HNV : Hid (nv ≤ 100000) := by
                      have := HBD.out.len
                      show _ ≤ _
                      omega
                    clear ho hm hb hle hlm hcy hny HK10
                    have HSM := Lib.hid (same_any Av Ay nv nv cv cy Tr (Ty.take nv) w11 HTT.out HTK.out HNT.out HNV.out)
                    rw [HQ.out] at HSM
                    clear HTT HTK HNT HNV HQ
                    go_wp2_with fail
                    refine HSM.out.mono ?_
                    rintro e w12 ⟨rfl, hb⟩
                    have HK12 := Lib.hid (stepB HK11.out.below hb)
                    clear hb HSM HK11
                    go_wp2
                    go_ret
                    exact ⟨rfl, HK12.out⟩
      · go_wp2_with fail
        refine (new_no tasks w3 ht).mono ?_
        rintro e w4 ⟨rfl, rfl⟩
        go_wp2
        go_ret
        exact ⟨rfl, HB3.out⟩


set_option maxRecDepth 100000 in
theorem lifted (os : Os) (started : os.Started) (H : Type) (enc : TypeId × Value → H) :
    ReturnsInHanded {} Try.checked os 9 .any (Rows.eventApartSpec.pre6 enc Try.prog Try.f9 Rows.eventApartRow.domain false) (Rows.eventApartSpec.post enc Try.prog Try.f9 false true false false) := by
  refine returnsInHanded_of_change_sized (C := Try.checked) own started (by kernel_rfl) Try.func9
    (ChangeSpec.witness6 (enc := enc) (C := Try.checked) false ⟨#[], #[.int .i64 0, .slice none 0 0, .slice none 0 0], []⟩ 8 (by kernel_rfl) (by kernel_rfl) (by kernel_rfl) (by kernel_rfl)) ?_
  intro W base args ds gs before hval0 hW _ hsz _
  have hval : ∀ (j : Nat) t v, Try.f9.params[j]? = some t → args[j]? = some v → Value.okWide Try.prog W .any base t v := hval0
  have hW' := hW
  obtain ⟨p, q, hA0, hV, hbef, _, _⟩ := hW
  have hA : DataW.TrodAll enc Try.prog W 0 (fun _ => true) true Try.f9.params.toList args.toList ds p := hA0
  rw [Try.params9] at hA hval
  obtain ⟨v0, vs0, d0, ds0, p0, q0, hargs, rfl, rfl, h0, r0⟩ := trodAll_cons hA
  obtain ⟨v1, vs1, d1, ds1, p1, q1, rfl, rfl, rfl, h1, r1⟩ := trodAll_cons r0
  obtain ⟨v2, vs2, d2, ds2, p2, q2, rfl, rfl, rfl, h2, r2⟩ := trodAll_cons r1
  obtain ⟨rfl, rfl, rfl⟩ := trodAll_nil r2
  obtain rfl : args = #[v0, v1, v2] := by cases args; simp_all
  obtain ⟨rfl, rfl⟩ := trodVars_none hV
  obtain ⟨a0, rfl, _, _, w0⟩ := open_int Try.underlying3 (hval 0 3 v0 rfl rfl) h0
  obtain ⟨A1, n1, c1, S1, rfl, st1, mx1, _, _⟩ := open_steps (hval 1 47 v1 rfl rfl) h1
  obtain ⟨A2, n2, c2, S2, rfl, st2, mx2, _, _⟩ := open_steps (hval 2 47 v2 rfl rfl) h2
  refine (walk a0 A1 n1 c1 S1 A2 n2 c2 S2 W st1 mx1 st2 mx2).mono fun e W' ⟨he, hb⟩ => ?_
  subst he
  exact ⟨_, rfl, law_post laidOut (of_decide_eq_true (by kernel_rfl)) rfl Try.underlying4 rfl rfl hW' hb⟩

theorem over : Rows.eventApartRow.holds Try.pinned (OpenSpec.ofChange Rows.eventApartSpec) :=
  OpenClaim.holds_of_wide 9 Try.f9 rfl rfl rfl rfl rfl rfl rfl ⟨rfl, rfl, rfl, rfl, rfl⟩ rfl rfl rfl rfl rfl (by kernel_rfl) Try.func9 (by kernel_rfl)
    (of_decide_eq_true (by kernel_rfl)) (by unfold Func.isWrapper; first | (rw [if_pos (by decide +kernel)]; kernel_rfl) | (rw [if_neg (by decide +kernel)]; exact ⟨rfl, rfl⟩))
    (fun os started H enc _ => lifted os started H enc)

end Go.Proofs.Ytgbcncfgpdlmiaa.eventApart
namespace Go.Proofs.Ytgbcncfgpdlmiaa
theorem eventApart_holds : Rows.EventApartSaid := eventApart.over
end Go.Proofs.Ytgbcncfgpdlmiaa
