/-
Each version that is kept is the newest one up to some snapshot from the floor on; what is not kept is seen by none of them.
-/
import Derived.Test.YteelhldioaaffaaQ
namespace Go.Proofs.Yteelhldioaaffaa.keepLeft
open Go.ChangeShapes Go.WideShapes Go.ChangeAt Go.RowKit
set_option linter.unusedVariables false

theorem own : ownKnob Try.prog.godebug = none := by kernel_rfl
theorem laidOut : laidOutB Try.prog = true := by kernel_rfl

set_option maxRecDepth 100000 in
set_option maxHeartbeats 8000000 in
theorem walk_in (A : Option Addr) (n c : Nat) (vs : List Ver) (f : Int) (w : World) (hs : Vers w.heap.size w A n vs) (hc : n ≤ c) :
    Calls Try.prog 7 #[.slice A n c, .int .i64 f] w fun e w' => e = .returned (.bool true) ∧ Below w.heap.size w w' := by
  have V0 := Lib.hid hs
  clear hs
  by_cases z1 : 300 < n
  · go_enter Try.func7, Try.ntmps7
    go_wp2_with fail
    refine (awake_any _).mono ?_
    rintro e w1 ⟨rfl, hb⟩
    have H1 : Hid (Below w.heap.size w w1) := hb
    clear hb
    go_wp2_with fail
    go_ret
    exact ⟨rfl, H1.out⟩

  have hn : n ≤ 1000000 := by omega
  by_cases hl : LegalP vs
  case neg =>
    have HL : Hid (legalB vs = false) := legal_no hl
    clear hl
    go_enter Try.func7, Try.ntmps7
    go_wp2_with fail
    refine (rlegal_any A n c vs _ V0.out hn).mono ?_
    rintro e w1 ⟨rfl, hb⟩
    rw [HL.out]
    replace V0 := Lib.hid ((V0.out.below hb).mono hb.size)
    have H1 : Hid (Below w.heap.size w w1) := hb
    clear hb
    go_wp2_with fail
    refine (awake_any _).mono ?_
    rintro e w2 ⟨rfl, hb⟩
    replace V0 := Lib.hid ((V0.out.below hb).mono hb.size)
    have H2 : Hid (Below w.heap.size w w2) := stepB H1.out hb
    clear hb H1
    go_wp2_with fail
    go_ret
    exact ⟨rfl, H2.out⟩

  have HL : Hid (legalB vs = true) := legal_yes hl
  have hk1 := nkept_le vs f
  rw [V0.out.1] at hk1
  have hvl := Lib.hid V0.out.1
  have HY : Hid (∀ k, k < nkept vs f → (kept vs f).getD k ver0 = vs.getD k ver0) := fun k h => getD_take vs _ _ h
  have HLo : Hid (∀ k, k < nkept vs f → (vs.getD k ver0).ts ≤ f → upto vs f = k ∧ (vs.getD k ver0).tomb = false ∧ k + 1 = nkept vs f) := fun k => left_lo
  have HNo : Hid (∀ (s : Int) (i : Nat), f ≤ s → nkept vs f ≤ i → i < n → seenB vs s = true → (seen vs s).ts ≠ (vs.getD i ver0).ts) := fun s i h1 h2 h3 => left_no hl h1 h2 (by rw [hvl.out]; exact h3)
  have HOw : Hid (∀ k, k < n → upto vs (vs.getD k ver0).ts = k) := fun k h => upto_own hl (by rw [hvl.out]; exact h)
  clear hl
  go_enter Try.func7, Try.ntmps7
  go_wp2_with fail
  refine (rlegal_any A n c vs _ V0.out hn).mono ?_
  rintro e w1 ⟨rfl, hb⟩
  rw [HL.out]
  replace V0 := Lib.hid ((V0.out.below hb).mono hb.size)
  have H1 : Hid (Below w.heap.size w w1) := hb
  clear hb
  go_wp2_with fail
  refine (awake_any _).mono ?_
  rintro e w2 ⟨rfl, hb⟩
  replace V0 := Lib.hid ((V0.out.below hb).mono hb.size)
  have H2 : Hid (Below w.heap.size w w2) := stepB H1.out hb
  clear hb H1
  go_wp2_with fail
  refine (Kept_any A n c f vs _ hn hc V0.out).mono ?_
  rintro e w3 ⟨A_K, rfl, hrow, hb⟩
  have V_K := Lib.hid (vrow_vers hrow)
  clear hrow
  replace V0 := Lib.hid ((V0.out.below hb).mono hb.size)
  have H3 : Hid (Below w.heap.size w w3) := stepB H2.out hb
  clear hb H2
  generalize kept vs f = K at *
  generalize nkept vs f = nk at *
  have C2 : Hid (∀ (s : Int) (W : World), Below w3.heap.size w3 W → Calls Try.prog 12 #[.slice A n c, .int .i64 s] W (SeenEnd vs s W)) := fun s W h => Seen_any A n c s vs W hn ((V0.out.below h).mono h.size)
  have hmx : Try.prog.follows .mixedOrders = true := by kernel_rfl
  go_wp2
  go_loopw [6] (fun i wr => ∃ (k : Nat), k ≤ nk ∧ i = .int .i64 k ∧ Below w3.heap.size w3 wr) (fun i _ => nk - (intOf i).toNat)
  case atStart => exact ⟨0, by omega, rfl, Below.refl _ _⟩
  case round =>
    obtain ⟨k, hk, rfl, hb⟩ := hrel
    have Hb := Lib.hid hb
    clear hb
    by_cases hlt : k < nk
    · have hltn : k < n := by omega
      obtain ⟨g, off, rfl, hg, hc1⟩ := V0.out.2 (by omega)
      obtain ⟨g2, off2, rfl, hg2, hc2⟩ := V_K.out.2 (by omega)
      have hv1 := hc1 k hltn
      have hv2 := hc2 k hlt
      rw [HY.out k hlt] at hv2
      have hLo := HLo.out k hlt
      have hOw := HOw.out k hltn
      obtain ⟨v, hv⟩ : ∃ v, vs.getD k ver0 = v := ⟨_, rfl⟩
      have HB : Hid (∀ s, upto vs s = k → seenB vs s = !v.tomb ∧ (v.tomb = false → seen vs s = v)) := fun s hu => by
        have h1 := seenB_of hu (by rw [hvl.out]; exact hltn)
        have h2 := seen_of hu (by rw [hvl.out]; exact hltn)
        rw [hv] at h1 h2; exact ⟨h1, h2⟩
      rw [hv] at hv1 hv2 hLo hOw
      have Hv1 := Lib.hid hv1
      have Hv2 := Lib.hid hv2
      have HLo1 := Lib.hid hLo
      have HOw1 := Lib.hid hOw
      have hx1 := index_run g off n c k (k : Int) rfl hltn
      have hx2 := index_run g2 off2 nk nk k (k : Int) rfl hlt
      have hi1 : (k : Int) < (n : Int) := by omega
      have hi2 : (k : Int) < (nk : Int) := by omega
      have hS0 : Hid (V4 wr.drew g (off + k * 4) v ∧ V4 wr.drew g2 (off2 + k * 4) v) := ⟨((hv1.below Hb.out hg).below (Below.drew (Below.refl wr.heap.size wr)) (Nat.lt_of_lt_of_le hg Hb.out.size)).v4, ((hv2.below Hb.out hg2).below (Below.drew (Below.refl wr.heap.size wr)) (Nat.lt_of_lt_of_le hg2 Hb.out.size)).v4⟩
      have hq : (v.val.toList == v.val.toList) = true := seq_yes rfl
      clear hc1 hc2 hv hv1 hv2 hLo hOw
      go_wp2
      go_region_held3 (fun W' => V4 W' g (off + k * 4) v ∧ V4 W' g2 (off2 + k * 4) v) (first | assumption | exact hS0.out) (first | fail)
      have Hbd : Hid (Below w3.heap.size w3 wr.drew) := Below.drew Hb.out
      have hb1 := ((Hv2.out.below Hbd.out hg2).c1)
      clear hS0
      by_cases hf : v.ts ≤ f
      · obtain ⟨hu, htb, hlast⟩ := HLo1.out hf
        have hsb := (HB.out f hu).1
        have hsv := (HB.out f hu).2 htb
        have hwr : IntKind.i64.wrap ((nk : Int) - 1) = (k : Int) := (IntWalk.i64_in _ (by omega)).trans (by omega)
        obtain ⟨vw, vts, vtm, vval⟩ := v
        dsimp only at htb hf hb1 hsb hsv hq
        subst htb
        have Hsb := Lib.hid hsb
        have Hsv := Lib.hid hsv
        have hmax : max f vts = f := by omega
        clear hsb hsv HLo1 HOw1 HB hu hlast
        go_wp2_with fail
        refine (C2.out f _ Hbd.out).mono ?_
        rintro e w5 ⟨rfl, hb5⟩
        rw [Hsb.out, Hsv.out]
        simp only [Ver.agg, Bool.not_false]
        have hbe := stepB Hbd.out hb5
        have hbf := hbe.alloc hbe.size (.cells (vcells (⟨vw, vts, false, vval⟩ : Ver)) 27)
        have hbg : Below w3.heap.size w3 (w5.alloc (.cells (vcells (⟨vw, vts, false, vval⟩ : Ver)) 27)).drew := Below.drew hbf
        have hk5 : VerAt (w5.alloc (.cells (vcells (⟨vw, vts, false, vval⟩ : Ver)) 27)).drew g2 (off2 + k * 4) (⟨vw, vts, false, vval⟩ : Ver) := Hv2.out.below hbg hg2
        have hbx : Blk (w5.alloc (.cells (vcells (⟨vw, vts, false, vval⟩ : Ver)) 27)).drew w5.heap.size (vcells (⟨vw, vts, false, vval⟩ : Ver)) 27 := (Blk.new w5 (vcells (⟨vw, vts, false, vval⟩ : Ver)) 27).below (Below.drew (Below.refl (w5.heap.size + 1) _)) (by omega)
        have hS1 : Hid (V4 (w5.alloc (.cells (vcells (⟨vw, vts, false, vval⟩ : Ver)) 27)).drew g2 (off2 + k * 4) (⟨vw, vts, false, vval⟩ : Ver) ∧ V4z (w5.alloc (.cells (vcells (⟨vw, vts, false, vval⟩ : Ver)) 27)).drew w5.heap.size (⟨vw, vts, false, vval⟩ : Ver)) := ⟨hk5.v4, hbx.v4⟩
        have y1 := hk5.c1
        have y2 : (w5.alloc (.cells (vcells (⟨vw, vts, false, vval⟩ : Ver)) 27)).drew.cell? ⟨g2, off2 + k * 4 + 2, none⟩ = some (.bool false) := hk5.c2
        have Hbg := Lib.hid hbg
        clear hbe hbf hbg hk5 hbx hb5
        simp only [vcells] at y1 y2 hS1 Hbg
        go_wp2
        go_region_held3 (fun W' => V4 W' g2 (off2 + k * 4) (⟨vw, vts, false, vval⟩ : Ver) ∧ V4z W' w5.heap.size (⟨vw, vts, false, vval⟩ : Ver)) (first | assumption | exact hS1.out) (first | fail)
        go_wp2
        go_roundw
        case rel => exact ⟨k + 1, by omega, by go_num, Hbg.out⟩
        case measure => simp [intOf]; omega
      by_cases htb : v.tomb = false
      · have hsb := (HB.out v.ts HOw1.out).1
        have hsv := (HB.out v.ts HOw1.out).2 htb
        obtain ⟨vw, vts, vtm, vval⟩ := v
        dsimp only at htb hf hb1 hsb hsv hq
        subst htb
        have Hsb := Lib.hid hsb
        have Hsv := Lib.hid hsv
        have hmax : max f vts = vts := by omega
        clear hsb hsv HLo1 HOw1 HB
        go_wp2_with fail
        refine (C2.out vts _ Hbd.out).mono ?_
        rintro e w5 ⟨rfl, hb5⟩
        rw [Hsb.out, Hsv.out]
        simp only [Ver.agg, Bool.not_false]
        have hbe := stepB Hbd.out hb5
        have hbf := hbe.alloc hbe.size (.cells (vcells (⟨vw, vts, false, vval⟩ : Ver)) 27)
        have hbg : Below w3.heap.size w3 (w5.alloc (.cells (vcells (⟨vw, vts, false, vval⟩ : Ver)) 27)).drew := Below.drew hbf
        have hk5 : VerAt (w5.alloc (.cells (vcells (⟨vw, vts, false, vval⟩ : Ver)) 27)).drew g2 (off2 + k * 4) (⟨vw, vts, false, vval⟩ : Ver) := Hv2.out.below hbg hg2
        have hbx : Blk (w5.alloc (.cells (vcells (⟨vw, vts, false, vval⟩ : Ver)) 27)).drew w5.heap.size (vcells (⟨vw, vts, false, vval⟩ : Ver)) 27 := (Blk.new w5 (vcells (⟨vw, vts, false, vval⟩ : Ver)) 27).below (Below.drew (Below.refl (w5.heap.size + 1) _)) (by omega)
        have hS1 : Hid (V4 (w5.alloc (.cells (vcells (⟨vw, vts, false, vval⟩ : Ver)) 27)).drew g2 (off2 + k * 4) (⟨vw, vts, false, vval⟩ : Ver) ∧ V4z (w5.alloc (.cells (vcells (⟨vw, vts, false, vval⟩ : Ver)) 27)).drew w5.heap.size (⟨vw, vts, false, vval⟩ : Ver)) := ⟨hk5.v4, hbx.v4⟩
        have y1 := hk5.c1
        have y2 : (w5.alloc (.cells (vcells (⟨vw, vts, false, vval⟩ : Ver)) 27)).drew.cell? ⟨g2, off2 + k * 4 + 2, none⟩ = some (.bool false) := hk5.c2
        have Hbg := Lib.hid hbg
        clear hbe hbf hbg hk5 hbx hb5
        simp only [vcells] at y1 y2 hS1 Hbg
        go_wp2
        go_region_held3 (fun W' => V4 W' g2 (off2 + k * 4) (⟨vw, vts, false, vval⟩ : Ver) ∧ V4z W' w5.heap.size (⟨vw, vts, false, vval⟩ : Ver)) (first | assumption | exact hS1.out) (first | fail)
        go_wp2
        go_roundw
        case rel => exact ⟨k + 1, by omega, by go_num, Hbg.out⟩
        case measure => simp [intOf]; omega
      have htb : v.tomb = true := by simpa using htb
      have hsb := (HB.out v.ts HOw1.out).1
      obtain ⟨vw, vts, vtm, vval⟩ := v
      dsimp only at htb hf hb1 hsb hq
      subst htb
      have Hsb := Lib.hid hsb
      have hmax : max f vts = vts := by omega
      clear hsb HLo1 HOw1 HB
      go_wp2_with fail
      refine (C2.out vts _ Hbd.out).mono ?_
      rintro e w5 ⟨rfl, hb5⟩
      have hsv : seen vs vts = (⟨0, 0, false, ⟨#[]⟩⟩ : Ver) := by unfold seen; rw [Hsb.out]; rfl
      rw [Hsb.out, hsv]
      clear hsv
      simp only [Ver.agg, Bool.not_true]
      have hbe := stepB Hbd.out hb5
      have hbf := hbe.alloc hbe.size (.cells (vcells (⟨0, 0, false, ⟨#[]⟩⟩ : Ver)) 27)
      have hbg : Below w3.heap.size w3 (w5.alloc (.cells (vcells (⟨0, 0, false, ⟨#[]⟩⟩ : Ver)) 27)).drew := Below.drew hbf
      have hk5 : VerAt (w5.alloc (.cells (vcells (⟨0, 0, false, ⟨#[]⟩⟩ : Ver)) 27)).drew g2 (off2 + k * 4) (⟨vw, vts, true, vval⟩ : Ver) := Hv2.out.below hbg hg2
      have hbx : Blk (w5.alloc (.cells (vcells (⟨0, 0, false, ⟨#[]⟩⟩ : Ver)) 27)).drew w5.heap.size (vcells (⟨0, 0, false, ⟨#[]⟩⟩ : Ver)) 27 := (Blk.new w5 (vcells (⟨0, 0, false, ⟨#[]⟩⟩ : Ver)) 27).below (Below.drew (Below.refl (w5.heap.size + 1) _)) (by omega)
      have hS1 : Hid (V4 (w5.alloc (.cells (vcells (⟨0, 0, false, ⟨#[]⟩⟩ : Ver)) 27)).drew g2 (off2 + k * 4) (⟨vw, vts, true, vval⟩ : Ver) ∧ V4z (w5.alloc (.cells (vcells (⟨0, 0, false, ⟨#[]⟩⟩ : Ver)) 27)).drew w5.heap.size (⟨0, 0, false, ⟨#[]⟩⟩ : Ver)) := ⟨hk5.v4, hbx.v4⟩
      have y1 := hk5.c1
      have y2 : (w5.alloc (.cells (vcells (⟨0, 0, false, ⟨#[]⟩⟩ : Ver)) 27)).drew.cell? ⟨g2, off2 + k * 4 + 2, none⟩ = some (.bool true) := hk5.c2
      have Hbg := Lib.hid hbg
      clear hbe hbf hbg hk5 hbx hb5
      simp only [vcells] at y1 y2 hS1 Hbg
      go_wp2
      go_big_region
      go_wp2
      go_roundw
      case rel => exact ⟨k + 1, by omega, by go_num, Hbg.out⟩
      case measure => simp [intOf]; omega
    · obtain rfl : k = nk := by omega
      clear hlt HY HLo HOw V_K
      go_wp2
      go_loopw [10] (fun i wr2 => ∃ (m : Nat), k ≤ m ∧ m ≤ n ∧ i = .int .i64 m ∧ Below w3.heap.size w3 wr2) (fun i _ => n - (intOf i).toNat)
      case atStart => exact ⟨k, by omega, by omega, rfl, Hb.out⟩
      case round =>
        clear Hb
        obtain ⟨q, hq1, hq2, rfl, hb2⟩ := hrel
        have Hb2 := Lib.hid hb2
        clear hb2
        by_cases hltk : q < n
        · obtain ⟨g, off, rfl, hg, hc1⟩ := V0.out.2 (by omega)
          have hv1 := hc1 q hltk
          obtain ⟨v, hv⟩ : ∃ v, vs.getD q ver0 = v := ⟨_, rfl⟩
          have HNv : Hid (∀ s, f ≤ s → seenB vs s = true → (seen vs s).ts ≠ v.ts) := fun s h1 h2 => by rw [← hv]; exact HNo.out s q h1 hq1 hltk h2
          rw [hv] at hv1
          have Hv1 := Lib.hid hv1
          have HC := Lib.hid hc1
          have hx1 := index_run g off n c q (q : Int) rfl hltk
          clear hv hv1 hc1
          go_wp2
          go_loopw [11] (fun j wr3 => ∃ (m : Nat), m ≤ n + 1 ∧ j = .int .i64 m ∧ Below w3.heap.size w3 wr3) (fun j _ => n + 1 - (intOf j).toNat)
          case atStart => exact ⟨0, by omega, rfl, Hb2.out⟩
          case round =>
            clear Hb2
            obtain ⟨m, hm, rfl, hb3⟩ := hrel
            have Hb3 := Lib.hid hb3
            clear hb3
            by_cases hle : m ≤ n
            · by_cases hmn : m < n
              · have hx2 := index_run g off n c m (m : Int) rfl hmn
                have hvm := HC.out m hmn
                obtain ⟨u, hu⟩ : ∃ u, vs.getD m ver0 = u := ⟨_, rfl⟩
                rw [hu] at hvm
                have c1 := (hvm.below Hb3.out hg).c1
                clear hvm hu
                by_cases hf : u.ts ≤ f
                · have hmax : max f u.ts = f := by omega
                  go_wp2_with fail
                  refine (C2.out f _ Hb3.out).mono ?_
                  rintro e w5 ⟨rfl, hb5⟩
                  have hno := HNv.out f (Int.le_refl f)
                  obtain ⟨sv, hsv⟩ : ∃ sv, seen vs f = sv := ⟨_, rfl⟩
                  obtain ⟨sb, hsb⟩ : ∃ sb, seenB vs f = sb := ⟨_, rfl⟩
                  rw [hsv, hsb] at hno
                  rw [hsv, hsb]
                  clear hsv hsb
                  simp only [Ver.agg]
                  have hbe := stepB Hb3.out hb5
                  have hbf := hbe.alloc hbe.size (.cells (vcells sv) 27)
                  have hbg : Below w3.heap.size w3 (w5.alloc (.cells (vcells sv) 27)).drew := Below.drew hbf
                  have hk5 : VerAt (w5.alloc (.cells (vcells sv) 27)).drew g (off + q * 4) v := Hv1.out.below hbg hg
                  have hbx : Blk (w5.alloc (.cells (vcells sv) 27)).drew w5.heap.size (vcells sv) 27 := (Blk.new w5 (vcells sv) 27).below (Below.drew (Below.refl (w5.heap.size + 1) _)) (by omega)
                  have y1 := hk5.c1
                  have z1 : (w5.alloc (.cells (vcells sv) 27)).drew.cell? ⟨w5.heap.size, 1, none⟩ = some (.int .i64 sv.ts) := hbx.cell 1
                  have Hbg := Lib.hid hbg
                  clear hbe hbf hbg hk5 hbx hb5
                  simp only [vcells] at y1 z1 Hbg
                  cases sb with
                  | false =>
                    clear hno
                    go_wp2
                    go_big_region
                    go_wp2
                    go_roundw
                    case rel => exact ⟨m + 1, by omega, by go_num, Hbg.out⟩
                    case measure => simp [intOf]; omega

                  | true =>
                    have hne : (sv.ts == v.ts) = false := by rw [beq_eq_false_iff_ne]; exact hno rfl
                    clear hno
                    go_wp2
                    go_big_region
                    go_wp2
                    go_roundw
                    case rel => exact ⟨m + 1, by omega, by go_num, Hbg.out⟩
                    case measure => simp [intOf]; omega


                · have hmax : max f u.ts = u.ts := by omega
                  go_wp2_with fail
                  refine (C2.out u.ts _ Hb3.out).mono ?_
                  rintro e w5 ⟨rfl, hb5⟩
                  have hno := HNv.out u.ts (by omega)
                  obtain ⟨sv, hsv⟩ : ∃ sv, seen vs u.ts = sv := ⟨_, rfl⟩
                  obtain ⟨sb, hsb⟩ : ∃ sb, seenB vs u.ts = sb := ⟨_, rfl⟩
                  rw [hsv, hsb] at hno
                  rw [hsv, hsb]
                  clear hsv hsb
                  simp only [Ver.agg]
                  have hbe := stepB Hb3.out hb5
                  have hbf := hbe.alloc hbe.size (.cells (vcells sv) 27)
                  have hbg : Below w3.heap.size w3 (w5.alloc (.cells (vcells sv) 27)).drew := Below.drew hbf
                  have hk5 : VerAt (w5.alloc (.cells (vcells sv) 27)).drew g (off + q * 4) v := Hv1.out.below hbg hg
                  have hbx : Blk (w5.alloc (.cells (vcells sv) 27)).drew w5.heap.size (vcells sv) 27 := (Blk.new w5 (vcells sv) 27).below (Below.drew (Below.refl (w5.heap.size + 1) _)) (by omega)
                  have y1 := hk5.c1
                  have z1 : (w5.alloc (.cells (vcells sv) 27)).drew.cell? ⟨w5.heap.size, 1, none⟩ = some (.int .i64 sv.ts) := hbx.cell 1
                  have Hbg := Lib.hid hbg
                  clear hbe hbf hbg hk5 hbx hb5
                  simp only [vcells] at y1 z1 Hbg
                  cases sb with
                  | false =>
                    clear hno
                    go_wp2
                    go_big_region
                    go_wp2
                    go_roundw
                    case rel => exact ⟨m + 1, by omega, by go_num, Hbg.out⟩
                    case measure => simp [intOf]; omega

                  | true =>
                    have hne : (sv.ts == v.ts) = false := by rw [beq_eq_false_iff_ne]; exact hno rfl
                    clear hno
                    go_wp2
                    go_big_region
                    go_wp2
                    go_roundw
                    case rel => exact ⟨m + 1, by omega, by go_num, Hbg.out⟩
                    case measure => simp [intOf]; omega


              · have hmn2 : m = n := by omega
                have hle2 : ¬ (m : Int) < (n : Int) := by omega
                clear hmn2
                go_wp2_with fail
                refine (C2.out f _ Hb3.out).mono ?_
                rintro e w5 ⟨rfl, hb5⟩
                have hno := HNv.out f (Int.le_refl f)
                obtain ⟨sv, hsv⟩ : ∃ sv, seen vs f = sv := ⟨_, rfl⟩
                obtain ⟨sb, hsb⟩ : ∃ sb, seenB vs f = sb := ⟨_, rfl⟩
                rw [hsv, hsb] at hno
                rw [hsv, hsb]
                clear hsv hsb
                simp only [Ver.agg]
                have hbe := stepB Hb3.out hb5
                have hbf := hbe.alloc hbe.size (.cells (vcells sv) 27)
                have hbg : Below w3.heap.size w3 (w5.alloc (.cells (vcells sv) 27)).drew := Below.drew hbf
                have hk5 : VerAt (w5.alloc (.cells (vcells sv) 27)).drew g (off + q * 4) v := Hv1.out.below hbg hg
                have hbx : Blk (w5.alloc (.cells (vcells sv) 27)).drew w5.heap.size (vcells sv) 27 := (Blk.new w5 (vcells sv) 27).below (Below.drew (Below.refl (w5.heap.size + 1) _)) (by omega)
                have y1 := hk5.c1
                have z1 : (w5.alloc (.cells (vcells sv) 27)).drew.cell? ⟨w5.heap.size, 1, none⟩ = some (.int .i64 sv.ts) := hbx.cell 1
                have Hbg := Lib.hid hbg
                clear hbe hbf hbg hk5 hbx hb5
                simp only [vcells] at y1 z1 Hbg
                cases sb with
                | false =>
                  clear hno
                  go_wp2
                  go_big_region
                  go_wp2
                  go_roundw
                  case rel => exact ⟨m + 1, by omega, by go_num, Hbg.out⟩
                  case measure => simp [intOf]; omega

                | true =>
                  have hne : (sv.ts == v.ts) = false := by rw [beq_eq_false_iff_ne]; exact hno rfl
                  clear hno
                  go_wp2
                  go_big_region
                  go_wp2
                  go_roundw
                  case rel => exact ⟨m + 1, by omega, by go_num, Hbg.out⟩
                  case measure => simp [intOf]; omega


            · have hm2 : m = n + 1 := by omega
              have hle2 : ¬ (m : Int) ≤ (n : Int) := by omega
              clear hm2
              go_wp2
              go_roundw
              case rel => exact ⟨q + 1, by omega, by omega, by go_num, Hb3.out⟩
              case measure => simp [intOf]; omega
        · obtain rfl : q = n := by omega
          go_wp2
          go_ret
          exact ⟨rfl, stepB H3.out Hb2.out⟩

theorem walk (A : Option Addr) (n c : Nat) (vs : List Ver) (f : Int) (hf : (Lit.int .i64 f).wf = true) (w : World) (hs : Vers w.heap.size w A n vs) (hc : n ≤ c) (hm : n ≤ maxLen) (h0 : A = none → n = 0 ∧ c = 0) (hr : ∀ x ∈ vs, -9223372036854775808 ≤ x.ts ∧ x.ts ≤ 9223372036854775807) :
    Calls Try.prog 7 #[.slice A n c, .int .i64 f] w fun e w' => e = .returned (.bool true) ∧ Below w.heap.size w w' := walk_in A n c vs f w hs hc


set_option maxRecDepth 100000 in
theorem lifted (os : Os) (started : os.Started) (H : Type) (enc : TypeId × Value → H) :
    ReturnsInHanded {} Try.checked os 7 .any (Rows.keepLeftSpec.pre6 enc Try.prog Try.f7 Rows.keepLeftRow.domain false) (Rows.keepLeftSpec.post enc Try.prog Try.f7 false true false false) := by
  refine returnsInHanded_of_change_sized (C := Try.checked) own started (by kernel_rfl) Try.func7
    (ChangeSpec.witness6 (enc := enc) (C := Try.checked) false ⟨#[], #[.slice none 0 0, .int .i64 0], []⟩ 8 (by kernel_rfl) (by kernel_rfl) (by kernel_rfl) (by kernel_rfl)) ?_
  intro W base args ds gs before hval0 hW _ hsz _
  have hval : ∀ (j : Nat) t v, Try.f7.params[j]? = some t → args[j]? = some v → Value.okWide Try.prog W .any base t v := hval0
  have hW' := hW
  obtain ⟨p, q, hA0, hV, hbef, _, _⟩ := hW
  have hA : DataW.TrodAll enc Try.prog W 0 (fun _ => true) true Try.f7.params.toList args.toList ds p := hA0
  rw [Try.params7] at hA hval
  obtain ⟨v0, vs0, d0, ds0, p0, q0, hargs, rfl, rfl, h0, r0⟩ := trodAll_cons hA
  obtain ⟨v1, vs1, d1, ds1, p1, q1, rfl, rfl, rfl, h1, r1⟩ := trodAll_cons r0
  obtain ⟨rfl, rfl, rfl⟩ := trodAll_nil r1
  obtain rfl : args = #[v0, v1] := by cases args; simp_all
  obtain ⟨rfl, rfl⟩ := trodVars_none hV
  obtain ⟨A0, n0, c0, vv0, rfl, rd0, nc0, mx0, nl0, rg0⟩ := open_vers (hval 0 24 v0 rfl rfl) h0
  obtain ⟨a1, rfl, _, _, w1⟩ := open_int Try.underlying3 (hval 1 3 v1 rfl rfl) h1
  refine (walk A0 n0 c0 vv0 a1 w1 W rd0 nc0 mx0 nl0 rg0).mono fun e W' ⟨he, hb⟩ => ?_
  subst he
  exact ⟨_, rfl, law_post laidOut (of_decide_eq_true (by kernel_rfl)) rfl Try.underlying4 rfl rfl hW' hb⟩

theorem over : Rows.keepLeftRow.holds Try.pinned (OpenSpec.ofChange Rows.keepLeftSpec) :=
  OpenClaim.holds_of_wide 7 Try.f7 rfl rfl rfl rfl rfl rfl rfl ⟨rfl, rfl, rfl, rfl, rfl⟩ rfl rfl rfl rfl rfl (by kernel_rfl) Try.func7 (by kernel_rfl)
    (of_decide_eq_true (by kernel_rfl)) (by unfold Func.isWrapper; first | (rw [if_pos (by decide +kernel)]; kernel_rfl) | (rw [if_neg (by decide +kernel)]; exact ⟨rfl, rfl⟩))
    (fun os started H enc _ => lifted os started H enc)

end Go.Proofs.Yteelhldioaaffaa.keepLeft
namespace Go.Proofs.Yteelhldioaaffaa
theorem keepLeft_holds : Rows.KeepLeftSaid := keepLeft.over
end Go.Proofs.Yteelhldioaaffaa
