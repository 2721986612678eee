/-
What is done to a copy is not seen, nor the other way about; done to both the same comes of both. For any length of slots, any steps ahead, any behind.
-/
import Derived.Test.YtjkohdenmiljpaaY3
import Derived.Test.YtjkohdenmiljpaaLF
import Derived.Test.YtjkohdenmiljpaaRows
import Derived.Deep.RegionHeld3
namespace Go.Proofs.Ytjkohdenmiljpaa.pageCopies
open Go.ChangeShapes Go.WideShapes Go.ChangeAt Go.RowKit Go.Maps
set_option linter.unusedVariables false
set_option linter.unusedSimpArgs false

theorem own : ownKnob Try.prog.godebug = none := by kernel_rfl
theorem laidOut : laidOutB Try.prog = true := by kernel_rfl

abbrev SB (w0 W : World) : Prop := Below w0.heap.size w0 W
set_option maxRecDepth 100000 in
set_option maxHeartbeats 8000000 in
theorem walk (x : Int) (A A2 : Option Addr) (n c n2 c2 : Nat) (S S2 : List Stp) (w : World) (hS : Steps w.heap.size w A n S) (hn : n ≤ maxLen) (hS2 : Steps w.heap.size w A2 n2 S2) (hn2 : n2 ≤ maxLen) (hz2 : ∀ j, j < n2 → (S2.getD j stp0).2.2.2.size ≤ reachBytes) : Calls Try.prog 8 #[.int .i64 x, .slice A n c, .slice A2 n2 c2] w (fun e w' => e = .returned (.bool true) ∧ Below w.heap.size w w') := by
  have hb0 : Below w.heap.size w (w.alloc (.cells #[.int .i64 x] 3)) := (Below.refl _ _).alloc (Nat.le_refl _) _
  have hb1 : Below w.heap.size w ((w.alloc (.cells #[.int .i64 x] 3)).alloc (.cells #[.slice A2 n2 c2] 40)) := hb0.alloc hb0.size _
  have HB := Lib.hid hb1
  have HX1 : Hid (Blk ((w.alloc (.cells #[.int .i64 x] 3)).alloc (.cells #[.slice A2 n2 c2] 40)) w.heap.size #[.int .i64 x] 3) := (Blk.new _ _ _).alloc _
  have HX2 : Hid (Blk ((w.alloc (.cells #[.int .i64 x] 3)).alloc (.cells #[.slice A2 n2 c2] 40)) (w.heap.size + 1) #[.slice A2 n2 c2] 40) := Blk.new2 _ _ _ (by simp)
  have HS := Lib.hid ((hS.below hb1).mono hb1.size)
  have HS2 := Lib.hid (hS2.below hb1)
  have HS2B := Lib.hid hS2
  have HN := Lib.hid hn
  have HN2 := Lib.hid hn2
  have HZ2 := Lib.hid hz2
  clear hS hn hS2 hn2 hz2 hb0 hb1
  go_enter Try.func8, Try.ntmps8
  go_wp2_with fail
  generalize (w.alloc (.cells #[.int .i64 x] 3)).alloc (.cells #[.slice A2 n2 c2] 40) = w1 at *
  obtain ⟨q1, hq1⟩ : ∃ q, w.heap.size = q := ⟨_, rfl⟩
  obtain ⟨q2, hq2⟩ : ∃ q, w.heap.size + 1 = q := ⟨_, rfl⟩
  have HX1 : Hid (Blk w1 q1 #[.int .i64 x] 3) := by rw [← hq1]; exact HX1.out
  have HX2 : Hid (Blk w1 q2 #[.slice A2 n2 c2] 40) := by rw [← hq2]; exact HX2.out
  rw [hq1, show q1 + 1 = q2 from by rw [← hq1, hq2]]
  have HQ := Lib.hid (And.intro hq1 hq2)
  clear hq1 hq2
  have c1 := HX1.out.cell 0
  have c2' := HX2.out.cell 0
  simp only [List.getElem?_toArray, List.getElem?_cons_zero] at c1 c2'
  refine (long_any A n c S w1 HS.out HN.out).mono ?_
  rintro e w2 ⟨⟨r, rfl⟩, rfl⟩
  cases r with
  | true =>
    go_wp2_with fail
    refine (awake_any _).mono ?_
    rintro e w2 ⟨rfl, hb⟩
    replace HB := Lib.hid (stepB HB.out hb)
    clear hb c1 c2'
    go_wp2
    go_ret
    exact ⟨rfl, HB.out⟩
  | false =>
    have HLG := Lib.hid (long_is A2 n2 c2 S2 w1 (HS2.out.mono HB.out.size) HN2.out HZ2.out)
    go_wp2_with fail
    refine HLG.out.mono ?_
    rintro e w2 ⟨r, rfl, rfl, hr⟩
    have HR := Lib.hid hr
    clear hr HLG
    cases r with
    | true =>
      go_wp2_with fail
      refine (awake_any _).mono ?_
      rintro e w2 ⟨rfl, hb⟩
      replace HB := Lib.hid (stepB HB.out hb)
      clear hb c1 c2'
      go_wp2
      go_ret
      exact ⟨rfl, HB.out⟩
    | false =>
      have hn2 : n2 ≤ 2000 := HR.out rfl
      clear HR
      go_wp2_with fail
      refine (awake_any _).mono ?_
      rintro e w2 ⟨rfl, hb⟩
      replace HB := Lib.hid (stepB HB.out hb)
      replace HX1 := Lib.hid (HX1.out.later hb)
      replace HX2 := Lib.hid (HX2.out.later hb)
      replace HS := Lib.hid ((HS.out.below hb).mono hb.size)
      clear hb c1 c2'
      have c1 := HX1.out.cell 0
      simp only [List.getElem?_toArray, List.getElem?_cons_zero] at c1
      by_cases hx : x < 2 ∨ 4096 < x
      · have HXX := Lib.hid hx
        clear hx
        go_wp2_with fail
        refine (run_no x A n c w2 HXX.out).mono ?_
        rintro e w3 ⟨rfl, rfl⟩
        clear c1
        go_wp2
        go_ret
        exact ⟨rfl, HB.out⟩
      · obtain ⟨s, rfl⟩ : ∃ s : Nat, x = (s : Int) := ⟨x.toNat, by omega⟩
        have h2 : 2 ≤ s := by omega
        have h4 : s ≤ 4096 := by omega
        clear hx
        go_wp2_with fail
        refine (run_is A n c s S w2 HS.out HN.out h2 h4).mono ?_
        rintro e w3 ⟨p, b, m, C, bs, F, U, Au, cu, rfl, hp, hu, ho, hb⟩
        have HNE : Hid (q1 ≠ p ∧ q1 ≠ b ∧ q2 ≠ p ∧ q2 ≠ b ∧ w.heap.size ≤ p ∧ w.heap.size ≤ b) := by
          have := HX1.out.lt; have := HX2.out.lt; have := hp.at_.hp; have := hp.at_.own.1; have := HB.out.size
          exact ⟨by omega, by omega, by omega, by omega, by omega, by omega⟩
        have HP : Hid (PgS w3 w.heap.size p b s (m, C, bs, F)) := Lib.hid (hp.base HB.out.size)
        have HU := Lib.hid hu
        have HO := Lib.hid (Ow.base ho HB.out.size)
        replace HX1 := Lib.hid (HX1.out.later hb)
        replace HX2 := Lib.hid (HX2.out.later hb)
        replace HB := Lib.hid (stepB HB.out hb)
        have hUL : U.length ≤ 4096 := by have := hp.at_.ok.len; have := hu.len; omega
        have HME : Hid (∀ k, k < U.length → U.getD k 0 ∈ C) := fun k hk => (hu.mem _).1 (getD_mem hk)
        clear hp hu ho hb c1 HS
        go_wp2
        go_loopw [10, 11] (fun v i wr => ∃ (k : Nat) (v10 : Value), k ≤ U.length ∧ i = .int .i64 k ∧ v = v10 ∧ PgS wr w.heap.size p b s (m, C, bs, F) ∧ Ow uv wr w.heap.size 23 (.slice Au U.length cu) U.length U ∧ Blk wr q1 #[.int .i64 (s : Int)] 3 ∧ Blk wr q2 #[.slice A2 n2 c2] 40 ∧ Ow sv wr w.heap.size 9 v10 k (wasL bs s U k) ∧ Below w.heap.size w wr) (fun _ i _ => U.length - (intOf i).toNat)
        case atStart => exact ⟨0, _, Nat.zero_le _, rfl, rfl, HP.out, HO.out, HX1.out, HX2.out, Ow.none _ _ _, HB.out⟩
        case round =>
          obtain ⟨k, v10, hk, rfl, rfl, hp, ho, hx1, hx2, hr, hb⟩ := hrel
          replace HP := Lib.hid hp
          replace HO := Lib.hid ho
          replace HX1 := Lib.hid hx1
          replace HX2 := Lib.hid hx2
          have HR := Lib.hid hr
          replace HB := Lib.hid hb
          obtain ⟨Ar, cr, rfl, _⟩ := Ow.sl hr
          clear hp ho hx1 hx2 hr hb
          by_cases hlt : k < U.length
          · have d5 : decide ((k : Int) < (U.length : Int)) = true := decide_eq_true (by omega)
            have wk1 : IntKind.i64.wrap ((k : Int) + 1) = (k : Int) + 1 := IntWalk.i64_in _ (by omega)
            obtain ⟨g, o, rfl, hg, hc⟩ := ow_cell HO.out hlt
            have i5 := index54 g o U.length cu k (k : Int) rfl hlt
            have c5 := hc k hlt
            have HRD := Lib.hid (read_pg _ p b s m C bs F (U.getD k 0) wr HP.out (HME.out k hlt))
            have HSU := Lib.hid (was_succ (bs := bs) (s := s) hlt)
            clear hc hg
            generalize U.getD k 0 = u at *
            generalize rdS bs u.toNat s = t at *
            go_wp2_with fail
            refine HRD.out.mono ?_
            rintro e w4 ⟨rfl, hb⟩
            have hb6 : Below w4.heap.size w4 (w4.alloc (.cells #[.string t] 9)) := (Below.refl _ _).alloc (Nat.le_refl _) _
            have HX6 : Hid (Sl sv (w4.alloc (.cells #[.string t] 9)) (some ⟨w4.heap.size, 0, none⟩) 1 1 [t]) := Blk.sl (enc := sv) (xs := [t]) (Blk.new w4 #[.string t] 9)
            have hb7 := stepB hb hb6
            replace HP := Lib.hid (HP.out.later hb7)
            replace HO := Lib.hid (Ow.later HO.out hb7)
            replace HR := Lib.hid (Ow.later HR.out hb7)
            replace HX1 := Lib.hid (HX1.out.later hb7)
            replace HX2 := Lib.hid (HX2.out.later hb7)
            replace HB := Lib.hid (stepB HB.out hb7)
            clear hb hb6 hb7 HRD c5
            go_wp2_with (at_builtin; refine wpList_append_sl elemS rfl (.tmp 57) (.tmp 59) rfl w.heap.size _ k (wasL bs s U k) rfl HR.out (some ⟨w4.heap.size, 0, none⟩) 1 1 [t] rfl HX6.out (by omega) (by decide) HB.out.size ?_; intro v7 w7 ho7)
            intro hg7
            replace HP : Hid (PgS w7 w.heap.size p b s (m, C, bs, F)) := Lib.hid (Pg.grown9 HP.out HR.out hg7)
            replace HO := Lib.hid (ow_kept9 HO.out HR.out hg7)
            replace HX1 := Lib.hid (blk_grown9 HX1.out (by decide) HR.out hg7)
            replace HX2 := Lib.hid (blk_grown9 HX2.out (by decide) HR.out hg7)
            replace HB := Lib.hid (HB.out.grown hg7 HB.out.size (fun j hj => (Ow.lt HR.out j hj).1))
            have HR7 : Hid (Ow sv w7 w.heap.size 9 v7 (k + 1) (wasL bs s U (k + 1))) := by
              rw [HSU.out]; exact ho7
            clear ho7 hg7 HX6 HR HSU
            go_wp2
            go_roundw
            case rel => exact ⟨k + 1, _, by omega, by go_num, rfl, HP.out, HO.out, HX1.out, HX2.out, HR7.out, HB.out⟩
            case measure => simp [intOf]; omega
          · obtain rfl : k = U.length := by omega
            have d5 : decide ((U.length : Int) < (U.length : Int)) = false := decide_eq_false (by omega)
            go_wp2_with fail
            refine (copy_any w.heap.size p b s m C bs F wr HP.out).mono ?_
            rintro e w4 ⟨p2, b2, rfl, hp2, hb⟩
            have HNE2 : Hid (q1 ≠ p2 ∧ q1 ≠ b2 ∧ q2 ≠ p2 ∧ q2 ≠ b2 ∧ w.heap.size ≤ p2 ∧ w.heap.size ≤ b2 ∧ p ≠ p2 ∧ p ≠ b2 ∧ b ≠ p2 ∧ b ≠ b2) := by
              have := HX1.out.lt; have := HX2.out.lt; have := hp2.at_.hp; have := hp2.at_.own.1; have := HB.out.size; have := (HP.out : Pg _ _ _ _ _ _ _ _ _).at_.plt; have := (HP.out : Pg _ _ _ _ _ _ _ _ _).at_.blt
              exact ⟨by omega, by omega, by omega, by omega, by omega, by omega, by omega, by omega, by omega, by omega⟩
            replace HP := Lib.hid (HP.out.later hb)
            have HP2 : Hid (PgS w4 w.heap.size p2 b2 s (m, C, bs, F)) := Lib.hid (hp2.base HB.out.size)
            replace HO := Lib.hid (Ow.later HO.out hb)
            replace HR := Lib.hid (Ow.later HR.out hb)
            replace HX1 := Lib.hid (HX1.out.later hb)
            replace HX2 := Lib.hid (HX2.out.later hb)
            replace HB := Lib.hid (stepB HB.out hb)
            clear hp2 hb
            have HAL := Lib.hid (all_any A2 n2 c2 s w.heap.size w.heap.size p2 b2 q2 q1 S2 (m, C, bs, F) w4 (HS2B.out.below HB.out) hn2 h4 HP2.out HX2.out HX1.out ⟨HNE2.out.2.2.2.2.1, HNE2.out.2.2.2.2.2.1, HB.out.size, HNE2.out.2.2.1, HNE2.out.2.2.2.1, HNE2.out.1, HNE2.out.2.1⟩)
            go_wp2_with fail
            refine HAL.out.mono ?_
            rintro e w5 ⟨A5, c5, rfl, hp5, ho5, hf⟩
            have HPF : Hid (PgS w5 w.heap.size p b s (m, C, bs, F)) := ⟨(HP.out : Pg _ _ _ _ _ _ _ _ _).at_.fr hf HNE2.out.2.2.2.2.2.2.1 HNE2.out.2.2.2.2.2.2.2.1 HNE2.out.2.2.2.2.2.2.2.2.1 HNE2.out.2.2.2.2.2.2.2.2.2, (HP.out : Pg _ _ _ _ _ _ _ _ _).inv⟩
            replace HO := Lib.hid (ow_fr HO.out (HP2.out : Pg _ _ _ _ _ _ _ _ _).at_ hf)
            replace HR := Lib.hid (ow_fr9 HR.out (HP2.out : Pg _ _ _ _ _ _ _ _ _).at_ hf)
            replace HX1 := Lib.hid (hf.blk HX1.out HNE2.out.1 HNE2.out.2.1)
            replace HX2 := Lib.hid (hf.blk HX2.out HNE2.out.2.2.1 HNE2.out.2.2.2.1)
            have HO5 := Lib.hid (Ow.base ho5 HB.out.size)
            replace HB := Lib.hid (hf.below HB.out HB.out.size HNE2.out.2.2.2.2.1 HNE2.out.2.2.2.2.2.1)
            replace HP2 := Lib.hid hp5
            replace HP := HPF
            have HSL := Lib.hid HS2B.out.1
            clear hp5 ho5 hf HAL HPF
            go_wp2
            go_loopw [17] (fun i wr => ∃ k : Nat, k ≤ U.length ∧ i = .int .i64 k ∧ SB w5 wr) (fun i _ => U.length - (intOf i).toNat)
            case atStart => exact ⟨0, Nat.zero_le _, rfl, Below.refl _ _⟩
            case round =>
              obtain ⟨w8, rfl⟩ : ∃ w8 : World, w8 = wr := ⟨_, rfl⟩
              obtain ⟨k, hk, rfl, hb⟩ := hrel
              have H8 := Lib.hid hb
              clear hb
              by_cases hlt : k < U.length
              · have d5 : decide ((k : Int) < (U.length : Int)) = true := decide_eq_true (by omega)
                have wk1 : IntKind.i64.wrap ((k : Int) + 1) = (k : Int) + 1 := IntWalk.i64_in _ (by omega)
                obtain ⟨g, o, rfl, hg, hc⟩ := ow_cell (Ow.later HO.out H8.out) hlt
                have i5 := index54 g o U.length cu k (k : Int) rfl hlt
                have c5 := hc k hlt
                obtain ⟨As, cs, es, hsl⟩ := Ow.sl (Ow.later HR.out H8.out)
                cases es
                obtain ⟨gs, os, rfl, hgs, hcs⟩ := hsl.rd.2 (by omega)
                have i6 := index49 gs os U.length cr k (k : Int) rfl hlt
                have KT : Hid (∀ W, Below w8.heap.size w8 W → W.cell? ⟨gs, os + k, none⟩ = some (.string (rdS bs (U.getD k 0).toNat s))) := fun W hb => (hb.cell (p := ⟨gs, os + k, none⟩) hgs).trans (hcs k _ (was_at hlt (Nat.le_refl _)))
                have HRD := Lib.hid (read_pg _ p b s m C bs F (U.getD k 0) w8 (HP.out.later H8.out) (HME.out k hlt))
                clear hc hg hgs hcs hsl
                generalize U.getD k 0 = u at *
                generalize rdS bs u.toNat s = t at *
                go_wp2_with fail
                refine HRD.out.mono ?_
                rintro e w9 ⟨rfl, hb⟩
                have c7 := KT.out _ hb
                have H9 := Lib.hid (stepB H8.out hb)
                clear hb HRD c5
                go_wp2
                go_roundw
                case rel => exact ⟨k + 1, by omega, by go_num, H9.out⟩
                case measure => simp [intOf]; omega
              · obtain rfl : k = U.length := by omega
                have d5 : decide ((U.length : Int) < (U.length : Int)) = false := decide_eq_false (by omega)
                replace HP := Lib.hid (HP.out.later H8.out)
                replace HP2 := Lib.hid (HP2.out.later H8.out)
                replace HO5 := Lib.hid (Ow.later HO5.out H8.out)
                replace HX1 := Lib.hid (HX1.out.later H8.out)
                replace HX2 := Lib.hid (HX2.out.later H8.out)
                replace HB := Lib.hid (stepB HB.out H8.out)
                clear HO HR H8
                have HAL := Lib.hid (all_any A2 n2 c2 s w.heap.size w.heap.size p b q2 q1 S2 (m, C, bs, F) w8 (HS2B.out.below HB.out) hn2 h4 HP.out HX2.out HX1.out ⟨HNE.out.2.2.2.2.1, HNE.out.2.2.2.2.2, HB.out.size, HNE.out.2.2.1, HNE.out.2.2.2.1, HNE.out.1, HNE.out.2.1⟩)
                go_wp2_with fail
                refine HAL.out.mono ?_
                rintro e w10 ⟨A6, c6, rfl, hp6, ho6, hf⟩
                have HP2F : Hid (PgS w10 w.heap.size p2 b2 s (runS s S2 (m, C, bs, F))) := ⟨(HP2.out : Pg _ _ _ _ _ _ _ _ _).at_.fr hf (Ne.symm HNE2.out.2.2.2.2.2.2.1) (Ne.symm HNE2.out.2.2.2.2.2.2.2.2.1) (Ne.symm HNE2.out.2.2.2.2.2.2.2.1) (Ne.symm HNE2.out.2.2.2.2.2.2.2.2.2), (HP2.out : Pg _ _ _ _ _ _ _ _ _).inv⟩
                replace HO5 := Lib.hid (ow_fr9 HO5.out (HP.out : Pg _ _ _ _ _ _ _ _ _).at_ hf)
                have HO6 := Lib.hid (Ow.base ho6 HB.out.size)
                replace HB := Lib.hid (hf.below HB.out HB.out.size HNE.out.2.2.2.2.1 HNE.out.2.2.2.2.2)
                replace HP := Lib.hid hp6
                replace HP2 := HP2F
                clear hp6 ho6 hf HAL HP2F HX1 HX2
                have hLL := outL_len s S2 (m, C, bs, F)
                generalize outL s S2 (m, C, bs, F) = L at *
                generalize runS s S2 (m, C, bs, F) = st at *
                go_wp2
                go_loopw [21] (fun i wr => ∃ k : Nat, k ≤ S2.length ∧ i = .int .i64 k ∧ SB w10 wr) (fun i _ => S2.length - (intOf i).toNat)
                case atStart => exact ⟨0, Nat.zero_le _, rfl, Below.refl _ _⟩
                case round =>
                  obtain ⟨w11, rfl⟩ : ∃ w11 : World, w11 = wr := ⟨_, rfl⟩
                  obtain ⟨k3, hk3, rfl, hb⟩ := hrel
                  have H11 := Lib.hid hb
                  clear hb
                  have hS2n : S2.length = n2 := HSL.out
                  by_cases hlt3 : k3 < S2.length
                  · have d5 : decide ((k3 : Int) < (S2.length : Int)) = true := decide_eq_true (by omega)
                    have wk1 : IntKind.i64.wrap ((k3 : Int) + 1) = (k3 : Int) + 1 := IntWalk.i64_in _ (by omega)
                    obtain ⟨_, _, es, hsl5⟩ := Ow.sl (Ow.later HO5.out H11.out)
                    cases es
                    obtain ⟨_, _, es, hsl6⟩ := Ow.sl (Ow.later HO6.out H11.out)
                    cases es
                    obtain ⟨g5, o5, rfl, hg5, hc5⟩ := hsl5.rd.2 (by omega)
                    obtain ⟨g6, o6, rfl, hg6, hc6⟩ := hsl6.rd.2 (by omega)
                    have i5 := index49 g5 o5 S2.length c5 k3 (k3 : Int) rfl hlt3
                    have i6 := index49 g6 o6 S2.length c6 k3 (k3 : Int) rfl hlt3
                    obtain ⟨t, ht⟩ : ∃ t, L[k3]? = some t := ⟨_, List.getElem?_eq_getElem (by omega)⟩
                    have e5 : ∀ n, (w11.drewN n).cell? ⟨g5, o5 + k3, none⟩ = some (.string t) := fun n => ((below_drewN (Below.refl _ _) n).cell (p := ⟨g5, o5 + k3, none⟩) hg5).trans (hc5 k3 t ht)
                    have e6 : ∀ n, (w11.drewN n).cell? ⟨g6, o6 + k3, none⟩ = some (.string t) := fun n => ((below_drewN (Below.refl _ _) n).cell (p := ⟨g6, o6 + k3, none⟩) hg6).trans (hc6 k3 t ht)
                    have e7 : w11.cell? ⟨g5, o5 + k3, none⟩ = some (.string t) := hc5 k3 t ht
                    have e8 : w11.cell? ⟨g6, o6 + k3, none⟩ = some (.string t) := hc6 k3 t ht
                    clear hsl5 hsl6 hg5 hc5 hg6 hc6 ht hS2n hLL
                    go_upto_region 25 with (fail)
                    go_quiet (fail)
                    have HYQ := Lib.hid (stepB H11.out (below_drewN (Below.refl _ _) nq))
                    clear e5 e6 e7 e8
                    go_wp2
                    go_roundw
                    case rel => exact ⟨k3 + 1, by omega, by go_num, HYQ.out⟩
                    case measure => simp [intOf]; omega
                  · obtain rfl : k3 = S2.length := by omega
                    have d5 : decide ((S2.length : Int) < (S2.length : Int)) = false := decide_eq_false (by omega)
                    have hU1 := used_any _ p b _ _ _ st.2.1 _ w11 ((HP.out.later H11.out : PgS _ _ _ _ _ _) : Pg _ _ _ _ _ _ _ _ _).at_
                    have hU2 := used_any _ p2 b2 _ _ _ st.2.1 _ w11 ((HP2.out.later H11.out : PgS _ _ _ _ _ _) : Pg _ _ _ _ _ _ _ _ _).at_
                    have KU1 := Lib.hid hU1
                    have KU2 := Lib.hid hU2
                    clear hU1 hU2 hS2n hLL
                    go_wp2_with fail
                    refine KU1.out.mono ?_
                    rintro e w12 ⟨rfl, rfl⟩
                    go_wp2_with fail
                    refine KU2.out.mono ?_
                    rintro e w12 ⟨rfl, rfl⟩
                    go_wp2
                    go_ret
                    exact ⟨rfl, stepB HB.out H11.out⟩


set_option maxRecDepth 100000 in
theorem lifted (os : Os) (started : os.Started) (H : Type) (enc : TypeId × Value → H) :
    ReturnsInHanded {} Try.checked os 8 .any (Rows.pageCopiesSpec.pre6 enc Try.prog Try.f8 Rows.pageCopiesRow.domain false) (Rows.pageCopiesSpec.post enc Try.prog Try.f8 false true false false) := by
  refine returnsInHanded_of_change_sized (C := Try.checked) own started (by kernel_rfl) Try.func8
    (ChangeSpec.witness6 (enc := enc) (C := Try.checked) false ⟨#[], #[.int .i64 0, .slice none 0 0, .slice none 0 0], []⟩ 8 (by kernel_rfl) (by kernel_rfl) (by kernel_rfl) (by kernel_rfl)) ?_
  intro W base args ds gs before hval0 hW _ hsz _
  have hval : ∀ (j : Nat) t v, Try.f8.params[j]? = some t → args[j]? = some v → Value.okWide Try.prog W .any base t v := hval0
  have hW' := hW
  obtain ⟨p, q, hA0, hV, hbef, _, _⟩ := hW
  have hA : DataW.TrodAll enc Try.prog W 0 (fun _ => true) true Try.f8.params.toList args.toList ds p := hA0
  rw [Try.params8] at hA hval
  obtain ⟨v0, vs0, d0, ds0, p0, q0, hargs, rfl, rfl, h0, r0⟩ := trodAll_cons hA
  obtain ⟨v1, vs1, d1, ds1, p1, q1, rfl, rfl, rfl, h1, r1⟩ := trodAll_cons r0
  obtain ⟨v2, vs2, d2, ds2, p2, q2, rfl, rfl, rfl, h2, r2⟩ := trodAll_cons r1
  obtain ⟨rfl, rfl, rfl⟩ := trodAll_nil r2
  obtain rfl : args = #[v0, v1, v2] := by cases args; simp_all
  obtain ⟨rfl, rfl⟩ := trodVars_none hV
  obtain ⟨a0, rfl, _, _, w0⟩ := open_int Try.underlying3 (hval 0 3 v0 rfl rfl) h0
  obtain ⟨A1, n1, c1, S1, rfl, st1, mx1, _, _⟩ := open_steps (hval 1 40 v1 rfl rfl) h1
  obtain ⟨A2, n2, c2, S2, rfl, st2, mx2, _, _⟩ := open_steps (hval 2 40 v2 rfl rfl) h2
  have wz2 := steps_w st2 h2 (weight_at (ts := Try.f8.params.toList) hsz (j := 2) (by rw [Try.params8]; rfl) rfl)
  refine (walk a0 A1 A2 n1 c1 n2 c2 S1 S2 W st1 mx1 st2 mx2 wz2).mono fun e W' ⟨he, hb⟩ => ?_
  subst he
  exact ⟨_, rfl, law_post laidOut (of_decide_eq_true (by kernel_rfl)) rfl Try.underlying4 rfl rfl hW' hb⟩

theorem over : Rows.pageCopiesRow.holds Try.pinned (OpenSpec.ofChange Rows.pageCopiesSpec) :=
  OpenClaim.holds_of_wide 8 Try.f8 rfl rfl rfl rfl rfl rfl rfl ⟨rfl, rfl, rfl, rfl, rfl⟩ rfl rfl rfl rfl rfl (by kernel_rfl) Try.func8 (by kernel_rfl)
    (of_decide_eq_true (by kernel_rfl)) (by unfold Func.isWrapper; first | (rw [if_pos (by decide +kernel)]; kernel_rfl) | (rw [if_neg (by decide +kernel)]; exact ⟨rfl, rfl⟩))
    (fun os started H enc _ => lifted os started H enc)

end Go.Proofs.Ytjkohdenmiljpaa.pageCopies
namespace Go.Proofs.Ytjkohdenmiljpaa
theorem pageCopies_holds : Rows.PageCopiesSaid := pageCopies.over
end Go.Proofs.Ytjkohdenmiljpaa
