/-
Whatever is done to an arena: each answer is the document's, how many slots are used, and pages there are; a copy goes its own way. For any length of a slot, any steps.
-/
import Derived.Test.YtbnbhhmgfogjeaaPM
import Derived.Test.YtbnbhhmgfogjeaaLF
import Derived.Test.YtbnbhhmgfogjeaaRows
namespace Go.Proofs.Ytbnbhhmgfogjeaa.arenaPlays
open Go.ChangeShapes Go.WideShapes Go.ChangeAt Go.RowKit Go.Maps
set_option linter.unusedVariables false
set_option linter.unusedSimpArgs false

theorem own : ownKnob Try.prog.godebug = none := by kernel_rfl
theorem laidOut : laidOutB Try.prog = true := by kernel_rfl

abbrev SX (w : World) (p : Addr) (v : Value) (W : World) : Prop := Below w.heap.size w W ∧ W.cell? p = some v
abbrev SC (w : World) (p : Addr) (v : Value) (W : World) : Prop := Below w.heap.size w W ∧ W.cell? p = some v
theorem dr (w : World) : Below w.heap.size w w.drew := Below.drew (Below.refl _ _)
set_option maxRecDepth 100000 in
set_option maxHeartbeats 8000000 in
theorem walk (x : Int) (A : Option Addr) (n c : Nat) (S : List Stp) (w : World) (hS : Steps w.heap.size w A n S) (hn : n ≤ maxLen) : Calls Try.prog 4 #[.int .i64 x, .slice A n c] w fun e w' => e = .returned (.bool true) ∧ Below w.heap.size w w' := by
  have HS := Lib.hid hS
  have HN := Lib.hid hn
  clear hS hn
  go_enter Try.func4, Try.ntmps4
  go_wp2_with fail
  refine (large_any A n c S w HS.out HN.out).mono ?_
  rintro e w2 ⟨r, rfl, rfl, hr⟩
  have HR := Lib.hid hr
  clear hr
  cases r with
  | true =>
    go_wp2_with fail
    refine (works_any _).mono ?_
    rintro e w2 ⟨rfl, hb⟩
    have HB2 := Lib.hid hb
    clear hb
    go_wp2
    go_ret
    exact ⟨rfl, HB2.out⟩
  | false =>
    have hn2 : n ≤ 200 := HR.out rfl
    clear HR
    by_cases hx : x < 2 ∨ 4096 < x
    · have HX := Lib.hid hx
      clear hx
      go_wp2_with fail
      refine (arnew_no x w HX.out).mono ?_
      rintro e w3 ⟨rfl, rfl⟩
      go_wp2_with fail
      refine (dar_no x w HX.out).mono ?_
      rintro e w3 ⟨rfl, rfl⟩
      go_wp2_with fail
      refine (works_any _).mono ?_
      rintro e w2 ⟨rfl, hb⟩
      have HB2 := Lib.hid hb
      clear hb
      go_wp2
      go_ret
      exact ⟨rfl, HB2.out⟩
    · obtain ⟨s, rfl⟩ : ∃ s : Nat, x = (s : Int) := ⟨x.toNat, by omega⟩
      have h2 : 2 ≤ s := by omega
      have h4 : s ≤ 4096 := by omega
      clear hx
      go_wp2_with fail
      refine (arnew_any s w h2 h4).mono ?_
      rintro e w3 ⟨a, S0, rfl, hA, hb⟩
      have HA3 := Lib.hid hA
      have HB3 := Lib.hid hb
      clear hA hb
      go_wp2_with fail
      refine (dar_new 0 s (by decide) w3 h2 h4).mono ?_
      rintro e w4 ⟨q, S00, rfl, hD, hb⟩
      have HA4 := Lib.hid (HA3.out.later hb)
      have HD4 := Lib.hid (hD.base HB3.out.size)
      have HB4 := Lib.hid (stepB HB3.out hb)
      have HS3 : Hid (∀ W, Below w.heap.size w W → Steps w.heap.size W A n S) := fun W hb => HS.out.below hb
      clear hD hb HA3 HB3
      go_wp2
      go_loopw [9, 10] (fun v9 i wr => ∃ (k : Nat) (st : AS) (S1 S2 : Nat → Prop) (U : List Int) (vU : Value), k ≤ n ∧ i = .int .i64 k ∧ vU = v9 ∧ AR wr w.heap.size a s st S1 ∧ DA k wr w.heap.size q s st S2 ∧ LI s st k ∧ U.length ≤ k ∧ (∀ y ∈ U, 0 ≤ y ∧ y ≤ 18446744073709551615) ∧ Ow hv wr w.heap.size 24 vU U.length U ∧ Below w.heap.size w wr) (fun _ i _ => n - (intOf i).toNat)
      case atStart => exact ⟨0, _, S0, S00, [], _, Nat.zero_le _, rfl, rfl, HA4.out, HD4.out, ⟨fun i h => absurd h (Nat.not_lt_zero _), Nat.le_refl _⟩, Nat.le_refl _, (fun y hy => by cases hy), Ow.none _ _ _, HB4.out⟩
      case round =>
        obtain ⟨k, st, S1, S2, U, vU, hk, rfl, rfl, hA, hD, hli, hul, hur, ho, hb⟩ := hrel
        obtain ⟨w4, rfl⟩ : ∃ w4 : World, w4 = wr := ⟨_, rfl⟩
        have HA := Lib.hid hA
        have HD := Lib.hid hD
        have HO := Lib.hid ho
        have HB := Lib.hid hb
        have HUL := Lib.hid hul
        have HUR := Lib.hid hur
        have HLI := Lib.hid hli
        have HPU := Lib.hid hA.pure
        clear hA hD ho hb hul hur hli HA4 HD4 HB4
        by_cases hlt : k < n
        · have d1 : decide ((k : Int) < (n : Int)) = true := decide_eq_true (by omega)
          have wk : IntKind.i64.wrap ((k : Int) + 1) = (k : Int) + 1 := IntWalk.i64_in _ (by omega)
          obtain ⟨g, off, rfl, hg, hcell⟩ := HS.out.2 (by omega)
          have i1 := sindex g off n c k (k : Int) rfl hlt
          obtain ⟨hc, hok⟩ := hcell k hlt
          obtain ⟨t, hx⟩ : ∃ t, S.getD k stp0 = t := ⟨_, rfl⟩
          rw [hx] at hc hok
          have HXC : Hid (∀ W, Below w.heap.size w W → SCell W g (off + k * 4) t) := fun W hb => hc.below hb hg
          have HXR : Hid (0 ≤ ofS t U ∧ ofS t U ≤ 18446744073709551615) := ofS_rg hok HUR.out
          clear hcell hx hg hc
          go_wp2_with fail
          refine (arcopy_any _ a s st S1 w4 HA.out).mono ?_
          rintro e w5 ⟨ac, S3, rfl, hA3, hb5⟩
          have HA5 := Lib.hid (HA.out.later hb5)
          have HD5 := Lib.hid (HD.out.later hb5)
          have HO5 := Lib.hid (Ow.later HO.out hb5)
          have HB5 := Lib.hid (stepB HB.out hb5)
          have HC5 := Lib.hid hA3
          have HZ5 : Hid (w4.heap.size ≤ w5.heap.size) := hb5.size
          clear hA3 hb5
          go_wp2_with fail
          refine (dacopy_any k _ q s st S2 w5 HD5.out HPU.out h4).mono ?_
          rintro e w6 ⟨qc, S4, rfl, hD4, hb6⟩
          have ht6 : TW w w6 a q s st st k vU U ac qc st := ⟨⟨S1, S2, S3, S4, k, HA5.out.later hb6, HD5.out.later hb6, (HC5.out.later hb6).base HB.out.size, hD4.base HB5.out.size, (fun j hj h' => by have h1 := (HC5.out.lt j hj).1; have h2 := (HA.out.lt j h').2; omega), (fun j hj h' => by have h1 := (hD4.lt j hj).1; have h2 := (HD.out.lt j h').2; have h3 := HZ5.out; omega)⟩, Ow.later HO5.out hb6, stepB HB5.out hb6⟩
          have HT6 := Lib.hid ht6
          have HOF := Lib.hid (of_any t U w.heap.size vU w6 hok ht6.ow (by have := HUL.out; omega))
          obtain ⟨x0, x1, x2, x3⟩ := HXC.out _ ht6.hb
          clear ht6 hD4 hb6 HA HD HO HB HA5 HD5 HO5 HB5 HC5 HZ5 hok
          obtain ⟨x, hxe⟩ : ∃ x, ofS t U = x := ⟨_, rfl⟩
          rw [hxe] at HOF HXR
          clear hxe
          obtain ⟨kd, m, rw_, tx⟩ := t
          simp only at x0 x1 x2 x3 HOF
          go_wp2_with fail
          refine HOF.out.mono ?_
          rintro e w7 ⟨rfl, hb⟩
          have HT7 := Lib.hid (HT6.out.later hb)
          clear hb HT6 HOF x0 x1 x2 x3
          go_wp2_with fail
          refine (HT7.out.isA1 HXR.out.1 HXR.out.2).mono ?_
          rintro e w8 ⟨rfl, hb⟩
          have HT8 := Lib.hid (HT7.out.later hb)
          clear hb HT7
          go_wp2_with fail
          refine (HT8.out.isD1 HPU.out HXR.out.1 HXR.out.2).mono ?_
          rintro e w9 ⟨rfl, hb⟩
          have HT9 := Lib.hid (HT8.out.later hb)
          clear hb HT8
          generalize isA st x = bi at *
          have db : (bi == bi) = true := by simp
          obtain ⟨x0, x1, x2, x3⟩ := HXC.out _ HT9.out.hb
          simp only at x0 x1 x2 x3
          go_upto_block 2 with (fail)
          clear x0 x1 x2
          go_cut [9, 13, 14] (fun v9 v13 v14 wx => ∃ (st' : AS) (U' : List Int) (vU' : Value) (x' : Int), vU' = v9 ∧ v13 = .int .u64 x' ∧ v14 = .bool true ∧ (0 ≤ x' ∧ x' ≤ 18446744073709551615) ∧ TW w wx a q s st' st' (k + 1) vU' U' ac qc st ∧ LI s st' (k + 1) ∧ U'.length ≤ k + 1 ∧ ∀ y ∈ U', 0 ≤ y ∧ y ≤ 18446744073709551615)
          case first =>
            clear x3
            by_cases h0 : kd = 0
            · as_aux_lemma =>
                have e0 : (kd == 0) = true := by rw [h0]; rfl
                clear h0
                go_wp2_with fail
                refine (HT9.out.alA h2 h4 (by have := HLI.out.len; omega)).mono ?_
                rintro e w10 ⟨rfl, ht⟩
                have HT10 := Lib.hid ht
                clear ht
                go_wp2_with fail
                refine (HT10.out.alD HPU.out HLI.out h2 h4 (by omega)).mono ?_
                rintro e w11 ⟨rfl, ht⟩
                have HT11 := Lib.hid ht
                have HLN := Lib.hid (HLI.out.al HPU.out)
                have HNR : Hid (0 ≤ (alA s st).2.1 ∧ (alA s st).2.1 ≤ 18446744073709551615) := alA_rg h2 h4 HPU.out
                clear ht HT10 HT9
                obtain ⟨⟨st', r1, r2⟩, hr⟩ : ∃ r, alA s st = r := ⟨_, rfl⟩
                rw [hr] at HT11 HLN HNR
                rw [hr]
                clear hr
                replace HT11 : Hid (TW w w11 a q s st' st' (k + 1) vU U ac qc st) := HT11
                replace HLN : Hid (LI s st' (k + 1)) := HLN
                replace HNR : Hid (0 ≤ r1 ∧ r1 ≤ 18446744073709551615) := HNR
                have q1 : (r1 == r1) = true := by simp
                have q2 : (r2 == r2) = true := by simp
                obtain ⟨AV, cV, hv1, _⟩ := Ow.sl HT11.out.ow
                subst hv1
                have hbx : Below w11.heap.size w11 (w11.alloc (.cells #[.int .u64 r1] 24)) := (Below.refl _ _).alloc (Nat.le_refl _) _
                have HX12 : Hid (Sl hv (w11.alloc (.cells #[.int .u64 r1] 24)) (some ⟨w11.heap.size, 0, none⟩) 1 1 [r1]) := Blk.sl (enc := hv) (xs := [r1]) (Blk.new w11 #[.int .u64 r1] 24)
                have HT12 := Lib.hid (HT11.out.later hbx)
                clear hbx
                go_wp2_with (first
                  | (at_builtin; refine wpList_append_sl elemH rfl (.tmp 104) (.tmp 106) rfl w.heap.size (.slice AV U.length cV) U.length U rfl HT12.out.ow (some ⟨w11.heap.size, 0, none⟩) 1 1 [r1] rfl HX12.out (by have := HUL.out; omega) (by decide) HT12.out.hb.size ?_; intro vn7 w13 ho13)
                  | fail)
                intro hg13
                have HT13 := Lib.hid (HT12.out.app hg13 (by simp) ho13)
                clear ho13 hg13 HX12 HT12 HT11
                go_wp2
                go_meet
                exact ⟨st', U ++ [r1], vn7, r1, rfl, rfl, rfl, HNR.out, HT13.out, HLN.out, by have := HUL.out; simp; omega, fun y hy => by
                  rcases List.mem_append.1 hy with hy | hy
                  · exact HUR.out y hy
                  · rw [List.mem_singleton.1 hy]; exact HNR.out⟩
            · by_cases h1 : kd = 1
              · as_aux_lemma =>
                  have e0 : (kd == 0) = false := by rw [h1]; rfl
                  have e1 : (kd == 1) = true := by rw [h1]; rfl
                  clear h0 h1
                  go_wp2_with fail
                  refine (HT9.out.frA HXR.out.1 HXR.out.2 h4).mono ?_
                  rintro e w10 ⟨rfl, ht⟩
                  have HT10 := Lib.hid ht
                  clear ht
                  go_wp2_with fail
                  refine (HT10.out.frD HPU.out HXR.out.1 HXR.out.2 h4).mono ?_
                  rintro e w11 ⟨rfl, ht⟩
                  have HT11 := Lib.hid (ht.mono (Nat.le_succ k) (by omega))
                  have HLN := Lib.hid ((HLI.out.fr (x := x)).mono (Nat.le_succ k))
                  clear ht HT10 HT9
                  generalize frAE x st = r2 at *
                  generalize frA x st = st' at *
                  have q2 : (r2 == r2) = true := by simp
                  go_wp2
                  go_meet
                  exact ⟨st', U, vU, x, rfl, rfl, rfl, HXR.out, HT11.out, HLN.out, by have := HUL.out; omega, HUR.out⟩
              · by_cases h2k : kd = 2
                · as_aux_lemma =>
                    have e0 : (kd == 0) = false := by rw [h2k]; rfl
                    have e1 : (kd == 1) = false := by rw [h2k]; rfl
                    have e2 : (kd == 2) = true := by rw [h2k]; rfl
                    clear h0 h1 h2k
                    have HW1 : Hid (∀ W st1 st2, TW w W a q s st1 st2 k vU U ac qc st → st1 = st → Calls Try.prog 14 #[.pointer (some ⟨a, 0, none⟩), .int .u64 x, .string tx] W fun e w' => e = .returned (.int .i64 (wrAE s x tx st)) ∧ TW w w' a q s (wrA s x tx st) st2 k vU U ac qc st) := fun W st1 st2 h e => by
                      subst e
                      exact h.wrA HXR.out.1 HXR.out.2 tx h4
                    have HW2 : Hid (∀ W st1 st2, TW w W a q s st1 st2 k vU U ac qc st → st2 = st → Calls Try.prog 30 #[.pointer (some ⟨q, 0, none⟩), .int .u64 x, .string tx] W fun e w' => e = .returned (.int .i64 (wrAE s x tx st)) ∧ TW w w' a q s st1 (wrA s x tx st) k vU U ac qc st) := fun W st1 st2 h e => by
                      subst e
                      exact h.wrD HPU.out HXR.out.1 HXR.out.2 tx h4
                    have HLN := Lib.hid ((HLI.out.wr (x := x) (T := tx)).mono (Nat.le_succ k))
                    have K5 : Hid (SX w ⟨g, off + k * 4 + 3, none⟩ (.string tx) w9.drew) := ⟨(HT9.out.later (dr _)).hb, (HXC.out _ (HT9.out.later (dr _)).hb).c3⟩
                    have KS : Hid (∀ W st1 st2, TW w W a q s st1 st2 k vU U ac qc st → SX w ⟨g, off + k * 4 + 3, none⟩ (.string tx) W) := fun W st1 st2 h => ⟨h.hb, (HXC.out _ h.hb).c3⟩
                    have HT9d := HT9.out.later (dr _)
                    obtain ⟨r2, hr2⟩ : ∃ r, wrAE s x tx st = r := ⟨_, rfl⟩
                    rw [hr2] at HW1 HW2
                    obtain ⟨st', hst'⟩ : ∃ r, wrA s x tx st = r := ⟨_, rfl⟩
                    rw [hst'] at HW1 HW2 HLN
                    clear hr2 hst'
                    have q2 : (r2 == r2) = true := by simp
                    go_upto_region 24 with (fail)
                    go_region_held3 (SX w ⟨g, off + k * 4 + 3, none⟩ (.string tx)) (first | assumption | exact K5.out | exact KS.out _ _ _ (by assumption) | exact KS.out _ _ _ (TW.later (by assumption) (dr _)) | exact KS.out _ _ _ (TW.later (by assumption) (below_drewN (Below.refl _ _) _))) (first
                      | (go_at_call 14; refine (HW1.out _ _ _ (by first | assumption | exact TW.later (by assumption) (dr _) | exact TW.later (by assumption) (below_drewN (Below.refl _ _) _)) rfl).mono ?_; rintro e wz ⟨rfl, hT⟩)
                      | (go_at_call 30; refine (HW2.out _ _ _ (by first | assumption | exact TW.later (by assumption) (dr _) | exact TW.later (by assumption) (below_drewN (Below.refl _ _) _)) rfl).mono ?_; rintro e wz ⟨rfl, hT⟩))
                    all_goals (
                      go_wp2_with fail
                      go_meet
                      exact ⟨st', U, vU, x, rfl, rfl, rfl, HXR.out, TW.mono (by first | assumption | exact TW.later (by assumption) (dr _) | exact TW.later (by assumption) (below_drewN (Below.refl _ _) _)) (Nat.le_succ k) (by omega), HLN.out, by have := HUL.out; omega, HUR.out⟩)
                · as_aux_lemma =>
                    have e0 : (kd == 0) = false := iq_no h0
                    have e1 : (kd == 1) = false := iq_no h1
                    have e2 : (kd == 2) = false := iq_no h2k
                    clear h0 h1 h2k
                    have HLN := Lib.hid (HLI.out.mono (Nat.le_succ k))
                    have HT11 := Lib.hid (HT9.out.mono (Nat.le_succ k) (by omega))
                    go_wp2
                    go_meet
                    exact ⟨st, U, vU, x, rfl, rfl, rfl, HXR.out, HT11.out, HLN.out, by have := HUL.out; omega, HUR.out⟩
          case rest =>
            clear x3 db HT9 HXR HXC
            obtain ⟨st', U', vU', x, rfl, rfl, rfl, hxr, ht, hli, hul, hur⟩ := hcut
            obtain ⟨w5, rfl⟩ : ∃ w5 : World, w5 = wc := ⟨_, rfl⟩
            have HT5 := Lib.hid ht
            have HXR := Lib.hid hxr
            have HLN := Lib.hid hli
            have HUN := Lib.hid hul
            have HRN := Lib.hid hur
            have HPN := Lib.hid ht.pure.1
            clear ht hxr hli hul hur HLI HUL HUR HPU
            go_wp2_with fail
            refine (HT5.out.rdA1 HXR.out.1 HXR.out.2).mono ?_
            rintro e w6 ⟨rfl, hb⟩
            have HT6 := Lib.hid (HT5.out.later hb)
            clear hb HT5
            go_wp2_with fail
            refine (HT6.out.rdD1 HPN.out HXR.out.1 HXR.out.2).mono ?_
            rintro e w7 ⟨rfl, hb⟩
            have HT7 := Lib.hid (HT6.out.later hb)
            clear hb HT6
            obtain ⟨AP, cP, hpg⟩ := HT7.out.pgD
            have HPG := Lib.hid hpg
            clear hpg
            generalize rdA s x st' = tt at *
            generalize rdAE x st' = te at *
            have z1 : (tt.toList != tt.toList) = false := by simp
            have z1' : (tt.toList == tt.toList) = true := by simp
            have z2 : (te != te) = false := by simp
            have z3 : (isA st' x != isA st' x) = false := by simp
            have z4 : (((usA st' : Nat) : Int) != ((usA st' : Nat) : Int)) = false := by simp
            have z5 : (((st'.2.1.length : Nat) : Int) != ((st'.2.1.length : Nat) : Int)) = false := by simp
            have z6 : ((s : Int) != (s : Int)) = false := by simp
            have z7 : (((usA st : Nat) : Int) != ((usA st : Nat) : Int)) = false := by simp
            have z8 : (isA st x != isA st x) = false := by simp
            have C1 : Hid (∀ W, SC w7 ⟨q, 1, none⟩ (.slice AP st'.2.1.length cP) W → Calls Try.prog 15 #[.pointer (some ⟨a, 0, none⟩), .int .u64 x] W fun e w' => e = .returned (.bool (isA st' x)) ∧ Below W.heap.size W w') := fun W h => (HT7.out.later h.1).isA1 HXR.out.1 HXR.out.2
            have C2 : Hid (∀ W, SC w7 ⟨q, 1, none⟩ (.slice AP st'.2.1.length cP) W → Calls Try.prog 27 #[.pointer (some ⟨q, 0, none⟩), .int .u64 x] W fun e w' => e = .returned (.bool (isA st' x)) ∧ Below W.heap.size W w') := fun W h => (HT7.out.later h.1).isD1 HPN.out HXR.out.1 HXR.out.2
            have C3 : Hid (∀ W, SC w7 ⟨q, 1, none⟩ (.slice AP st'.2.1.length cP) W → Calls Try.prog 16 #[.pointer (some ⟨a, 0, none⟩)] W fun e w' => e = .returned (.int .i64 (usA st' : Nat)) ∧ Below W.heap.size W w') := fun W h => (HT7.out.later h.1).usA1
            have C4 : Hid (∀ W, SC w7 ⟨q, 1, none⟩ (.slice AP st'.2.1.length cP) W → Calls Try.prog 32 #[.pointer (some ⟨q, 0, none⟩)] W fun e w' => e = .returned (.int .i64 (usA st' : Nat)) ∧ Below W.heap.size W w') := fun W h => (HT7.out.later h.1).usD1 HPN.out
            have C5 : Hid (∀ W, SC w7 ⟨q, 1, none⟩ (.slice AP st'.2.1.length cP) W → Calls Try.prog 17 #[.pointer (some ⟨a, 0, none⟩)] W fun e w' => e = .returned (.int .i64 (st'.2.1.length : Nat)) ∧ Below W.heap.size W w') := fun W h => (HT7.out.later h.1).pgA1
            have C6 : Hid (∀ W, SC w7 ⟨q, 1, none⟩ (.slice AP st'.2.1.length cP) W → Calls Try.prog 18 #[.pointer (some ⟨a, 0, none⟩)] W fun e w' => e = .returned (.int .i64 (s : Int)) ∧ Below W.heap.size W w') := fun W h => (HT7.out.later h.1).slA1
            have C7 : Hid (∀ W, SC w7 ⟨q, 1, none⟩ (.slice AP st'.2.1.length cP) W → Calls Try.prog 16 #[.pointer (some ⟨ac, 0, none⟩)] W fun e w' => e = .returned (.int .i64 (usA st : Nat)) ∧ Below W.heap.size W w') := fun W h => (HT7.out.later h.1).usA0
            have C8 : Hid (∀ W, SC w7 ⟨q, 1, none⟩ (.slice AP st'.2.1.length cP) W → Calls Try.prog 32 #[.pointer (some ⟨qc, 0, none⟩)] W fun e w' => e = .returned (.int .i64 (usA st : Nat)) ∧ Below W.heap.size W w') := fun W h => (HT7.out.later h.1).usD0
            have C9 : Hid (∀ W, SC w7 ⟨q, 1, none⟩ (.slice AP st'.2.1.length cP) W → Calls Try.prog 15 #[.pointer (some ⟨ac, 0, none⟩), .int .u64 x] W fun e w' => e = .returned (.bool (isA st x)) ∧ Below W.heap.size W w') := fun W h => (HT7.out.later h.1).isA0 HXR.out.1 HXR.out.2
            have CA : Hid (∀ W, SC w7 ⟨q, 1, none⟩ (.slice AP st'.2.1.length cP) W → Calls Try.prog 27 #[.pointer (some ⟨qc, 0, none⟩), .int .u64 x] W fun e w' => e = .returned (.bool (isA st x)) ∧ Below W.heap.size W w') := fun W h => (HT7.out.later h.1).isD0 HXR.out.1 HXR.out.2
            have KSS : Hid (∀ W W2, Below W.heap.size W W2 → SC w7 ⟨q, 1, none⟩ (.slice AP st'.2.1.length cP) W → SC w7 ⟨q, 1, none⟩ (.slice AP st'.2.1.length cP) W2) := fun W W2 h2 h1 => ⟨stepB h1.1 h2, HPG.out _ (stepB h1.1 h2)⟩
            have K0S : Hid (SC w7 ⟨q, 1, none⟩ (.slice AP st'.2.1.length cP) w7.drew) := ⟨dr _, HPG.out _ (dr _)⟩
            generalize isA st' x = b1 at *
            generalize isA st x = b0 at *
            generalize usA st' = u1 at *
            generalize usA st = u0 at *
            generalize st'.2.1.length = pn at *
            go_upto_region 27 with (fail)
            go_cut [214] (fun s wx => s = .bool false ∧ Below w7.heap.size w7 wx)
            case first => as_aux_lemma =>
              go_region_held3 (SC w7 ⟨q, 1, none⟩ (.slice AP pn cP)) (first | assumption | exact K0S.out | exact KSS.out _ _ (by assumption) (by assumption) | exact KSS.out _ _ (below_drewN (Below.refl _ _) _) (by assumption)) (first
                | (go_at_call_of 15 (Value.pointer (some ⟨a, 0, none⟩)); refine (C1.out _ (by assumption)).mono ?_; rintro e wz ⟨rfl, hb⟩)
                | (go_at_call_of 27 (Value.pointer (some ⟨q, 0, none⟩)); refine (C2.out _ (by assumption)).mono ?_; rintro e wz ⟨rfl, hb⟩)
                | (go_at_call_of 16 (Value.pointer (some ⟨a, 0, none⟩)); refine (C3.out _ (by assumption)).mono ?_; rintro e wz ⟨rfl, hb⟩)
                | (go_at_call_of 32 (Value.pointer (some ⟨q, 0, none⟩)); refine (C4.out _ (by assumption)).mono ?_; rintro e wz ⟨rfl, hb⟩)
                | (go_at_call_of 17 (Value.pointer (some ⟨a, 0, none⟩)); refine (C5.out _ (by assumption)).mono ?_; rintro e wz ⟨rfl, hb⟩)
                | (go_at_call_of 18 (Value.pointer (some ⟨a, 0, none⟩)); refine (C6.out _ (by assumption)).mono ?_; rintro e wz ⟨rfl, hb⟩)
                | (go_at_call_of 16 (Value.pointer (some ⟨ac, 0, none⟩)); refine (C7.out _ (by assumption)).mono ?_; rintro e wz ⟨rfl, hb⟩)
                | (go_at_call_of 32 (Value.pointer (some ⟨qc, 0, none⟩)); refine (C8.out _ (by assumption)).mono ?_; rintro e wz ⟨rfl, hb⟩)
                | (go_at_call_of 15 (Value.pointer (some ⟨ac, 0, none⟩)); refine (C9.out _ (by assumption)).mono ?_; rintro e wz ⟨rfl, hb⟩)
                | (go_at_call_of 27 (Value.pointer (some ⟨qc, 0, none⟩)); refine (CA.out _ (by assumption)).mono ?_; rintro e wz ⟨rfl, hb⟩))
              all_goals (
                rename SC _ _ _ _ => hSO
                have hz := Lib.hid hSO.1
                clear hSO
                go_wp2_with fail
                go_meet
                exact ⟨rfl, hz.out⟩)
            case rest => as_aux_lemma =>
              obtain ⟨rfl, hb⟩ := hcut
              have HT8 := Lib.hid (HT7.out.later hb)
              clear hb HT7 z1 z1' z2 z3 z4 z5 z6 z7 z8 C1 C2 C3 C4 C5 C6 C7 C8 C9 CA HPG KSS K0S
              obtain ⟨S1, S2, S3, S4, K0, h1, h2', h3, h4', h5, h6⟩ := HT8.out.ex
              have HA9 := Lib.hid h1
              have HD9 := Lib.hid h2'
              have HO9 := Lib.hid HT8.out.ow
              have HB9 := Lib.hid HT8.out.hb
              clear h1 h2' h3 h4' h5 h6 HT8
              go_wp2
              go_roundw
              case rel => exact ⟨k + 1, st', S1, S2, U', vU', by omega, by go_num, rfl, HA9.out, HD9.out, HLN.out, HUN.out, HRN.out, HO9.out, HB9.out⟩
              case measure => simp [intOf]; omega

        · obtain rfl : k = n := by omega
          have d1 : decide ((k : Int) < (k : Int)) = false := decide_eq_false (by omega)
          go_wp2_with fail
          refine (works_any _).mono ?_
          rintro e w2 ⟨rfl, hb⟩
          have HB2 := Lib.hid (stepB HB.out hb)
          clear hb
          go_wp2
          go_ret
          exact ⟨rfl, HB2.out⟩


set_option maxRecDepth 100000 in
theorem lifted (os : Os) (started : os.Started) (H : Type) (enc : TypeId × Value → H) :
    ReturnsInHanded {} Try.checked os 4 .any (Rows.arenaPlaysSpec.pre6 enc Try.prog Try.f4 Rows.arenaPlaysRow.domain false) (Rows.arenaPlaysSpec.post enc Try.prog Try.f4 false true false false) := by
  refine returnsInHanded_of_change_sized (C := Try.checked) own started (by kernel_rfl) Try.func4
    (ChangeSpec.witness6 (enc := enc) (C := Try.checked) false ⟨#[], #[.int .i64 0, .slice none 0 0], []⟩ 8 (by kernel_rfl) (by kernel_rfl) (by kernel_rfl) (by kernel_rfl)) ?_
  intro W base args ds gs before hval0 hW _ hsz _
  have hval : ∀ (j : Nat) t v, Try.f4.params[j]? = some t → args[j]? = some v → Value.okWide Try.prog W .any base t v := hval0
  have hW' := hW
  obtain ⟨p, q, hA0, hV, hbef, _, _⟩ := hW
  have hA : DataW.TrodAll enc Try.prog W 0 (fun _ => true) true Try.f4.params.toList args.toList ds p := hA0
  rw [Try.params4] at hA hval
  obtain ⟨v0, vs0, d0, ds0, p0, q0, hargs, rfl, rfl, h0, r0⟩ := trodAll_cons hA
  obtain ⟨v1, vs1, d1, ds1, p1, q1, rfl, rfl, rfl, h1, r1⟩ := trodAll_cons r0
  obtain ⟨rfl, rfl, rfl⟩ := trodAll_nil r1
  obtain rfl : args = #[v0, v1] := by cases args; simp_all
  obtain ⟨rfl, rfl⟩ := trodVars_none hV
  obtain ⟨a0, rfl, _, _, w0⟩ := open_int Try.underlying3 (hval 0 3 v0 rfl rfl) h0
  obtain ⟨A1, n1, c1, S1, rfl, st1, mx1, _, _⟩ := open_steps (hval 1 43 v1 rfl rfl) h1
  refine (walk a0 A1 n1 c1 S1 W st1 mx1).mono fun e W' ⟨he, hb⟩ => ?_
  subst he
  exact ⟨_, rfl, law_post laidOut (of_decide_eq_true (by kernel_rfl)) rfl Try.underlying4 rfl rfl hW' hb⟩

theorem over : Rows.arenaPlaysRow.holds Try.pinned (OpenSpec.ofChange Rows.arenaPlaysSpec) :=
  OpenClaim.holds_of_wide 4 Try.f4 rfl rfl rfl rfl rfl rfl rfl ⟨rfl, rfl, rfl, rfl, rfl⟩ rfl rfl rfl rfl rfl (by kernel_rfl) Try.func4 (by kernel_rfl)
    (of_decide_eq_true (by kernel_rfl)) (by unfold Func.isWrapper; first | (rw [if_pos (by decide +kernel)]; kernel_rfl) | (rw [if_neg (by decide +kernel)]; exact ⟨rfl, rfl⟩))
    (fun os started H enc _ => lifted os started H enc)

end Go.Proofs.Ytbnbhhmgfogjeaa.arenaPlays
namespace Go.Proofs.Ytbnbhhmgfogjeaa
theorem arenaPlays_holds : Rows.ArenaPlaysSaid := arenaPlays.over
end Go.Proofs.Ytbnbhhmgfogjeaa
