/-
Who is busy is who is active, and who is falling; who began later than another one has the greater number, below High. For any steps.
-/
import Derived.Test.YtmkgipbepipjkaaDoorM
import Derived.Test.YtmkgipbepipjkaaDoorTie
import Derived.Test.YtmkgipbepipjkaaDoorCards
import Derived.SevenTiedAt
import Derived.Lay
import Derived.LaidLaws
import Derived.LaidHandle
namespace Go.Proofs.YtmkgipbepipjkaaDoor.statusBusy
open Go.ChangeShapes Go.WideShapes Go.ChangeAt Go.RowKit
set_option linter.unusedVariables false
set_option linter.unusedSimpArgs false
theorem own : ownKnob Tryd.prog.godebug = none := by kernel_rfl
theorem laidOut : laidOutB Tryd.prog = true := by kernel_rfl

set_option maxRecDepth 100000 in
set_option maxHeartbeats 4000000 in
theorem w_long (A : Option Addr) (n c : Nat) (S : List Stp) (w : World) (hS : Steps w.heap.size w A n S) (hm : n ≤ maxLen) (hT : TabAt w) (hn : 120 < n) : Calls Tryd.prog 6 #[.slice A n c] w (fun e w' => e = .returned (.bool true) ∧ Below w.heap.size w w') := by
  have d1 : decide ((120 : Int) < (n : Int)) = true := decide_eq_true (by omega)
  have HT := Lib.hid hT
  clear hS hT
  go_enter Tryd.func6, Tryd.ntmps6
  go_wp2_with fail
  refine (works_any w HT.out).mono ?_
  rintro x w1 ⟨rfl, hb⟩
  have HT1 := Lib.hid (HT.out.later hb)
  have HB1 := Lib.hid hb
  clear hb HT
  go_wp2_with fail
  refine (works_any w1 HT1.out).mono ?_
  rintro x w2 ⟨rfl, hb⟩
  have HB2 := Lib.hid (stepB HB1.out hb)
  clear hb HT1
  go_wp2
  go_ret
  exact ⟨rfl, HB2.out⟩
set_option maxRecDepth 100000 in
set_option maxHeartbeats 4000000 in
theorem w_main (A : Option Addr) (n c : Nat) (S : List Stp) (w : World) (hS : Steps w.heap.size w A n S) (hT : TabAt w) (hn : ¬ 120 < n) : Calls Tryd.prog 6 #[.slice A n c] w (fun e w' => e = .returned (.bool true) ∧ Below w.heap.size w w') := by
  have d1 : decide ((120 : Int) < (n : Int)) = false := decide_eq_false (by omega)
  have HT := Lib.hid hT
  have HS := Lib.hid hS
  have hpos := hT.lt
  obtain ⟨i0, hi, hz0, hz1, hz2⟩ := info_parts i3info
  clear hS hT
  go_enter Tryd.func6, Tryd.ntmps6
  go_wp2_with fail
  refine (works_any w HT.out).mono ?_
  rintro x w1 ⟨rfl, hb⟩
  have HT1 := Lib.hid (HT.out.later hb)
  have HB1 := Lib.hid hb
  clear hb HT
  go_wp2_with fail
  refine (new_any w1).mono ?_
  rintro x w2 ⟨rfl, ho, hb⟩
  have HO2 := Lib.hid (ho.base HB1.out.size)
  have HT2 := Lib.hid (HT1.out.later hb)
  have HB2 := Lib.hid (stepB HB1.out hb)
  generalize w1.heap.size = p at *
  clear hb ho HT1 HB1
  go_wp2
  go_loopw [4, 5] (fun bg i wr => ∃ (k : Nat) (v : Value) (L : List Wr) (la : Int) (en : Nat), k ≤ n ∧ i = .int .i64 k ∧ bg = .int .i64 (L.length : Nat) ∧ L.length ≤ k ∧ WrAt wr w.heap.size p v L la en ∧ TabAt wr ∧ Below w.heap.size w wr) (fun _ i _ => n - (intOf i).toNat)
  case atStart => exact ⟨0, _, _, _, _, Nat.zero_le _, rfl, rfl, Nat.le_refl _, HO2.out, HT2.out, HB2.out⟩
  case round =>
    obtain ⟨k, v, L, la, en, hk, rfl, rfl, hlk, ho, ht, hb⟩ := hrel
    have HO := Lib.hid ho
    have HTT := Lib.hid ht
    have HB := Lib.hid hb
    clear ho ht hb HO2 HT2 HB2
    by_cases hlt : k < n
    · obtain ⟨g, off, rfl, hg, hcell⟩ := (HS.out.later HB.out).2 (by omega)
      obtain ⟨x0, x1, x2⟩ := hcell k hlt
      have i1 := sindex g off n c k (k : Int) rfl hlt
      obtain ⟨⟨wh, wi, ts⟩, hx⟩ : ∃ x, S.getD k stp0 = x := ⟨_, rfl⟩
      rw [hx] at x0 x1 x2
      simp only at x0 x1 x2
      have d2 : decide ((k : Int) < (n : Int)) = true := decide_eq_true (by omega)
      have HX := Lib.hid hx
      clear hcell hx
      go_wp2_with fail
      refine (high_e HO.out (by omega)).mono ?_
      rintro x _ ⟨rfl, rfl⟩
      go_wp2_with fail
      refine (do_any w.heap.size p v L la en wh wi ts wr HO.out HTT.out hpos HB.out.size (by omega)).mono ?_
      rintro x w3 ⟨rfl, v3, en3, ho3, hf3⟩
      have hlen := doS_len L la wh wi ts
      have HO3 := Lib.hid ho3
      have HT3 := Lib.hid (HTT.out.fr HO.out hf3 hpos)
      have hb3 := Fr.below HB.out hf3 HB.out.size HO.out.hp (fun k hk => (HO.out.own.lt k hk).1)
      have HB3 := Lib.hid hb3
      obtain ⟨g', off', e', hg', hc'⟩ := (HS.out.later hb3).2 (by omega)
      cases e'
      obtain ⟨y0, y1, y2⟩ := hc' k hlt
      rw [HX.out] at y0 y1 y2
      simp only at y0 y1 y2
      generalize doS L la wh wi ts = M at *
      generalize doT L la wh wi ts = lb at *
      generalize doE L la wh wi ts = ee at *
      clear ho3 hf3 hb3 hg' hc' x0 x1 x2 HO HTT HB y1 y2
      obtain ⟨m, hm⟩ : ∃ m, M.length = m := ⟨_, rfl⟩
      have HM := Lib.hid hm
      rw [hm] at hlen
      by_cases h0 : wh = 0
      · subst h0
        rw [if_pos rfl] at hlen
        have hN : doN L 0 = (L.length : Int) + 1 := if_pos rfl
        rw [hN]
        have wb : IntKind.i64.wrap ((L.length : Int) + 1) = (L.length : Int) + 1 := IntWalk.i64_in _ (by omega)
        have hml : (L.length : Int) + 1 = (m : Int) := by omega
        have HML := Lib.hid hml
        have hmk : m ≤ k + 1 := by omega
        clear hN hml hm hlen
        go_upto_region 14 with (fail)
        rw [HML.out]
        clear wb
        clear i1 y0
        go_wp2
        go_loopw [9, 10, 11] (fun bs ac iw wr2 => ∃ (q : Nat), q ≤ m ∧ iw = .int .i64 ((q : Int) + 1) ∧ OwI wr2 w.heap.size bs (busyOf (seqE M 0 q)) ∧ ac = .int .i64 (actOf (seqE M 0 q) : Nat) ∧ WrAt wr2 w.heap.size p v3 M lb en3 ∧ TabAt wr2 ∧ Below w.heap.size w wr2) (fun _ _ iw _ => m + 1 - (intOf iw).toNat)
        case atStart => exact ⟨0, Nat.zero_le _, rfl, Ow.none _ _ _, rfl, HO3.out, HT3.out, HB3.out⟩
        case round =>
          obtain ⟨q, hq, rfl, hbs, rfl, ho4, ht4, hb4⟩ := hrel
          have HBS := Lib.hid hbs
          have HO4 := Lib.hid ho4
          have HT4 := Lib.hid ht4
          have HB4 := Lib.hid hb4
          obtain ⟨Ab, cb, rfl, _⟩ := Ow.sl hbs
          clear hbs ho4 ht4 hb4 HO3 HT3 HB3
          by_cases hqm : q < m
          · have d3 : decide ((q : Int) + 1 ≤ (m : Int)) = true := decide_eq_true (by omega)
            obtain ⟨⟨s, t⟩, hst⟩ : ∃ x, M.getD q w0r = x := ⟨_, rfl⟩
            have hqM : q < M.length := by rw [HM.out]; exact hqm
            have HOF : Hid (ofL M ((q : Int) + 1) = (s, t)) := (of_in hqM).trans hst
            obtain ⟨bz, hbz⟩ : ∃ b, busyB (s, t) = b := ⟨_, rfl⟩
            have HNB : Hid (busyOf (seqE M 0 (q + 1)) = if bz then busyOf (seqE M 0 q) ++ [(q : Int) + 1] else busyOf (seqE M 0 q)) := busyOf_next M q (by rw [hst]; exact hbz)
            have HNA : Hid (actOf (seqE M 0 (q + 1)) = if s = 1 then actOf (seqE M 0 q) + 1 else actOf (seqE M 0 q)) := actOf_next M q hst
            have hal := actOf_len (seqE M 0 q)
            have hbl := busyOf_len (seqE M 0 q)
            rw [seqE_len] at hal hbl
            clear hst hqM
            go_wp2_with fail
            refine (of_any w.heap.size p v3 M lb en3 _ _ HO4.out (by rw [HM.out]; omega)).mono ?_
            rintro x w5 ⟨rfl, hb5⟩
            rw [HOF.out]
            have HO5 := Lib.hid (HO4.out.later hb5)
            have HT5 := Lib.hid (HT4.out.later hb5)
            have HB5 := Lib.hid (stepB HB4.out hb5)
            have HS5 := Lib.hid (HBS.out.later hb5)
            clear hb5 HO4 HT4 HB4 HBS
            have wa : IntKind.i64.wrap ((actOf (seqE M 0 q) : Int) + 1) = (actOf (seqE M 0 q) : Int) + 1 := IntWalk.i64_in _ (by omega)
            have wq : IntKind.i64.wrap ((q : Int) + 1 + 1) = (q : Int) + 1 + 1 := IntWalk.i64_in _ (by omega)
            have hb6 : Below w5.heap.size w5 (w5.alloc (.cells #[.int .i64 ((q : Int) + 1)] 3)) := (Below.refl _ _).alloc (Nat.le_refl _) _
            have HO6 := Lib.hid (HO5.out.later hb6)
            have HT6 := Lib.hid (HT5.out.later hb6)
            have HB6 := Lib.hid (stepB HB5.out hb6)
            have HS6 := Lib.hid (HS5.out.later hb6)
            have HX6 := Lib.hid (Blk.new w5 #[.int .i64 ((q : Int) + 1)] 3)
            have hcell : ∀ j u, [Value.int .i64 ((q : Int) + 1)][j]? = some u → (w5.alloc (.cells #[.int .i64 ((q : Int) + 1)] 3)).cell? ((⟨w5.heap.size, 0, none⟩ : Addr).add j) = some u := fun j u hu => by
              rw [add_plain, Nat.zero_add, HX6.out.cell]; simpa using hu
            have HCE := Lib.hid hcell
            clear hb6 hcell
            by_cases hs1 : s = 1
            · subst hs1
              obtain rfl : bz = true := by rw [← hbz]; rfl
              clear hbz
              go_wp2_with (at_builtin; refine wpList_append_own _ rfl (.tmp 77) (.tmp 79) 29 rfl w.heap.size 3 i0 _ 1 8 Tryd.underlying29 hi hz0 hz1 hz2 rfl (by decide) _ _ _ rfl HS6.out ⟨w5.heap.size, 0, none⟩ 1 1 [.int .i64 ((q : Int) + 1)] rfl rfl HCE.out (by simp [Value.oneCell']) (by unfold maxLen; omega) (by omega) HB6.out.size ?_; intro v7 w7 ho7 hg7)
              intro hnil
              clear hnil
              have HNB2 : Hid (busyOf (seqE M 0 (q + 1)) = busyOf (seqE M 0 q) ++ [(q : Int) + 1]) := HNB.out
              have ho8 : OwI w7 w.heap.size v7 (busyOf (seqE M 0 (q + 1))) := by
                rw [HNB2.out]
                show World.ownsRow _ _ _ _ _ _ _
                rw [List.length_append, List.map_append]
                exact ho7
              have hg8 : (w5.alloc (.cells #[.int .i64 ((q : Int) + 1)] 3)).grownBy w7 (Value.slice Ab (busyOf (seqE M 0 q)).length cb).ownBlock := hg7
              have htag := fun k hk => Ow.tag HS6.out k hk
              have HO7 := Lib.hid (HO6.out.grown hg8 (fun k hk => by obtain ⟨cur, hc⟩ := htag k hk; exact ⟨cur, 3, hc, by decide, by decide⟩))
              have HT7 := Lib.hid (HT6.out.grown hg8 (fun k hk => by have := (Ow.lt HS6.out k hk).1; omega))
              have HB7 : Hid (Below w.heap.size w w7) := HB6.out.grown hg8 HB6.out.size (fun k hk => (Ow.lt HS6.out k hk).1)
              obtain ⟨A8, c8, rfl, _⟩ := Ow.sl ho8
              have HS7 := Lib.hid ho8
              clear ho7 hg7 ho8 hg8 htag HO6 HT6 HB6 HS6 HX6 HCE HO5 HT5 HB5 HS5
              have HNA2 : Hid (actOf (seqE M 0 (q + 1)) = actOf (seqE M 0 q) + 1) := by show _ = _; rw [HNA.out]; simp
              go_wp2
              go_roundw
              case rel => exact ⟨q + 1, by omega, by go_num, HS7.out, by rw [HNA2.out]; go_num, HO7.out, HT7.out, HB7.out⟩
              case measure => simp [intOf]; omega
            · have e1 : (s == 1) = false := by rw [beq_eq_false_iff_ne]; exact hs1
              have HNA2 : Hid (actOf (seqE M 0 (q + 1)) = actOf (seqE M 0 q)) := HNA.out.trans (if_neg hs1)
              by_cases hs2 : s = 2
              · subst hs2
                obtain rfl : bz = true := by rw [← hbz]; rfl
                clear hbz hs1
                go_wp2_with (at_builtin; refine wpList_append_own _ rfl (.tmp 77) (.tmp 79) 29 rfl w.heap.size 3 i0 _ 1 8 Tryd.underlying29 hi hz0 hz1 hz2 rfl (by decide) _ _ _ rfl HS6.out ⟨w5.heap.size, 0, none⟩ 1 1 [.int .i64 ((q : Int) + 1)] rfl rfl HCE.out (by simp [Value.oneCell']) (by unfold maxLen; omega) (by omega) HB6.out.size ?_; intro v7 w7 ho7 hg7)
                intro hnil
                clear hnil
                have HNB2 : Hid (busyOf (seqE M 0 (q + 1)) = busyOf (seqE M 0 q) ++ [(q : Int) + 1]) := HNB.out
                have ho8 : OwI w7 w.heap.size v7 (busyOf (seqE M 0 (q + 1))) := by
                  rw [HNB2.out]
                  show World.ownsRow _ _ _ _ _ _ _
                  rw [List.length_append, List.map_append]
                  exact ho7
                have hg8 : (w5.alloc (.cells #[.int .i64 ((q : Int) + 1)] 3)).grownBy w7 (Value.slice Ab (busyOf (seqE M 0 q)).length cb).ownBlock := hg7
                have htag := fun k hk => Ow.tag HS6.out k hk
                have HO7 := Lib.hid (HO6.out.grown hg8 (fun k hk => by obtain ⟨cur, hc⟩ := htag k hk; exact ⟨cur, 3, hc, by decide, by decide⟩))
                have HT7 := Lib.hid (HT6.out.grown hg8 (fun k hk => by have := (Ow.lt HS6.out k hk).1; omega))
                have HB7 : Hid (Below w.heap.size w w7) := HB6.out.grown hg8 HB6.out.size (fun k hk => (Ow.lt HS6.out k hk).1)
                obtain ⟨A8, c8, rfl, _⟩ := Ow.sl ho8
                have HS7 := Lib.hid ho8
                clear ho7 hg7 ho8 hg8 htag HO6 HT6 HB6 HS6 HX6 HCE HO5 HT5 HB5 HS5
                go_wp2
                go_roundw
                case rel => exact ⟨q + 1, by omega, by go_num, HS7.out, by rw [HNA2.out], HO7.out, HT7.out, HB7.out⟩
                case measure => simp [intOf]; omega
              · have e2 : (s == 2) = false := by rw [beq_eq_false_iff_ne]; exact hs2
                obtain rfl : bz = false := by rw [← hbz]; unfold busyB; rw [decide_eq_false hs1, decide_eq_false hs2]; rfl
                have HNB2 : Hid (busyOf (seqE M 0 (q + 1)) = busyOf (seqE M 0 q)) := HNB.out
                clear hbz hs1 hs2 HO6 HT6 HB6 HS6 HX6 HCE
                go_wp2
                go_roundw
                case rel => exact ⟨q + 1, by omega, by go_num, by rw [HNB2.out]; exact HS5.out, by rw [HNA2.out], HO5.out, HT5.out, HB5.out⟩
                case measure => simp [intOf]; omega
          · obtain rfl : m = q := by omega
            have d3 : decide ((m : Int) + 1 ≤ (m : Int)) = false := decide_eq_false (by omega)
            have hbl := busyOf_len (seqE M 0 m)
            rw [seqE_len] at hbl
            have HBL : Hid (busyOf (seqE M 0 m) = busyL M) := by show _ = _; unfold busyL; rw [HM.out]
            have HAL : Hid (actOf (seqE M 0 m) = actL M) := by show _ = _; unfold actL; rw [HM.out]
            rw [HBL.out] at HBS hbl
            rw [HBL.out, HAL.out]
            go_wp2_with fail
            refine (busy_any w.heap.size p v3 M lb en3 _ HO4.out (by rw [HM.out]; omega)).mono ?_
            rintro x w5 ⟨vc, rfl, hoc, hb5⟩
            obtain ⟨Ac, cc, rfl, hsc⟩ := Ow.sl hoc
            have HO5 := Lib.hid (HO4.out.later hb5)
            have HT5 := Lib.hid (HT4.out.later hb5)
            have HB5 := Lib.hid (stepB HB4.out hb5)
            obtain ⟨Ab', cb', eb, hsb⟩ := Ow.sl (HBS.out.later hb5)
            cases eb
            clear hb5 HO4 HT4 HB4 hoc HBS
            go_wp2_with fail
            refine (ints_any Ac Ab (busyL M).length (busyL M).length cc cb (busyL M) (busyL M) w5 hsc.rd hsb.rd (by omega) (by omega)).mono ?_
            rintro x w6 ⟨rfl, d, hw6⟩
            rw [show decide (busyL M = busyL M) = true from decide_eq_true rfl]
            have hb6 : Below w5.heap.size w5 w6 := by rw [hw6]; exact below_drewN (Below.refl _ _) d
            have HO6 := Lib.hid (HO5.out.later hb6)
            have HT6 := Lib.hid (HT5.out.later hb6)
            have HB6 := Lib.hid (stepB HB5.out hb6)
            clear hw6 hb6 HO5 HT5 HB5 hsb hsc
            go_wp2_with fail
            refine (active_any w.heap.size p v3 M lb en3 _ HO6.out (by rw [HM.out]; omega)).mono ?_
            rintro x w7 ⟨rfl, hb7⟩
            have HO7 := Lib.hid (HO6.out.later hb7)
            have HT7 := Lib.hid (HT6.out.later hb7)
            have HB7 := Lib.hid (stepB HB6.out hb7)
            clear hb7 HO6 HT6 HB6
            go_wp2_with fail
            refine (high_e HO7.out (by rw [HM.out]; omega)).mono ?_
            rintro x _ ⟨rfl, rfl⟩
            rw [HM.out]
            have wm : IntKind.i64.wrap ((m : Int) + 1) = (m : Int) + 1 := IntWalk.i64_in _ (by omega)
            go_wp2
            go_roundw
            case rel => exact ⟨k + 1, v3, M, lb, en3, by omega, by go_num, by rw [HM.out], by rw [HM.out]; omega, HO7.out, HT7.out, HB7.out⟩
            case measure => simp [intOf]; omega
      · rw [if_neg h0] at hlen
        have hml : L.length = m := hlen.symm
        have HML := Lib.hid hml
        generalize doN L wh = nn at *
        have d0 : (wh == 0) = false := by rw [beq_eq_false_iff_ne]; exact h0
        have hmk : m ≤ k + 1 := by omega
        clear hml hm hlen
        go_upto_region 14 with (fail)
        rw [HML.out]
        clear d0
        clear i1 y0
        go_wp2
        go_loopw [9, 10, 11] (fun bs ac iw wr2 => ∃ (q : Nat), q ≤ m ∧ iw = .int .i64 ((q : Int) + 1) ∧ OwI wr2 w.heap.size bs (busyOf (seqE M 0 q)) ∧ ac = .int .i64 (actOf (seqE M 0 q) : Nat) ∧ WrAt wr2 w.heap.size p v3 M lb en3 ∧ TabAt wr2 ∧ Below w.heap.size w wr2) (fun _ _ iw _ => m + 1 - (intOf iw).toNat)
        case atStart => exact ⟨0, Nat.zero_le _, rfl, Ow.none _ _ _, rfl, HO3.out, HT3.out, HB3.out⟩
        case round =>
          obtain ⟨q, hq, rfl, hbs, rfl, ho4, ht4, hb4⟩ := hrel
          have HBS := Lib.hid hbs
          have HO4 := Lib.hid ho4
          have HT4 := Lib.hid ht4
          have HB4 := Lib.hid hb4
          obtain ⟨Ab, cb, rfl, _⟩ := Ow.sl hbs
          clear hbs ho4 ht4 hb4 HO3 HT3 HB3
          by_cases hqm : q < m
          · have d3 : decide ((q : Int) + 1 ≤ (m : Int)) = true := decide_eq_true (by omega)
            obtain ⟨⟨s, t⟩, hst⟩ : ∃ x, M.getD q w0r = x := ⟨_, rfl⟩
            have hqM : q < M.length := by rw [HM.out]; exact hqm
            have HOF : Hid (ofL M ((q : Int) + 1) = (s, t)) := (of_in hqM).trans hst
            obtain ⟨bz, hbz⟩ : ∃ b, busyB (s, t) = b := ⟨_, rfl⟩
            have HNB : Hid (busyOf (seqE M 0 (q + 1)) = if bz then busyOf (seqE M 0 q) ++ [(q : Int) + 1] else busyOf (seqE M 0 q)) := busyOf_next M q (by rw [hst]; exact hbz)
            have HNA : Hid (actOf (seqE M 0 (q + 1)) = if s = 1 then actOf (seqE M 0 q) + 1 else actOf (seqE M 0 q)) := actOf_next M q hst
            have hal := actOf_len (seqE M 0 q)
            have hbl := busyOf_len (seqE M 0 q)
            rw [seqE_len] at hal hbl
            clear hst hqM
            go_wp2_with fail
            refine (of_any w.heap.size p v3 M lb en3 _ _ HO4.out (by rw [HM.out]; omega)).mono ?_
            rintro x w5 ⟨rfl, hb5⟩
            rw [HOF.out]
            have HO5 := Lib.hid (HO4.out.later hb5)
            have HT5 := Lib.hid (HT4.out.later hb5)
            have HB5 := Lib.hid (stepB HB4.out hb5)
            have HS5 := Lib.hid (HBS.out.later hb5)
            clear hb5 HO4 HT4 HB4 HBS
            have wa : IntKind.i64.wrap ((actOf (seqE M 0 q) : Int) + 1) = (actOf (seqE M 0 q) : Int) + 1 := IntWalk.i64_in _ (by omega)
            have wq : IntKind.i64.wrap ((q : Int) + 1 + 1) = (q : Int) + 1 + 1 := IntWalk.i64_in _ (by omega)
            have hb6 : Below w5.heap.size w5 (w5.alloc (.cells #[.int .i64 ((q : Int) + 1)] 3)) := (Below.refl _ _).alloc (Nat.le_refl _) _
            have HO6 := Lib.hid (HO5.out.later hb6)
            have HT6 := Lib.hid (HT5.out.later hb6)
            have HB6 := Lib.hid (stepB HB5.out hb6)
            have HS6 := Lib.hid (HS5.out.later hb6)
            have HX6 := Lib.hid (Blk.new w5 #[.int .i64 ((q : Int) + 1)] 3)
            have hcell : ∀ j u, [Value.int .i64 ((q : Int) + 1)][j]? = some u → (w5.alloc (.cells #[.int .i64 ((q : Int) + 1)] 3)).cell? ((⟨w5.heap.size, 0, none⟩ : Addr).add j) = some u := fun j u hu => by
              rw [add_plain, Nat.zero_add, HX6.out.cell]; simpa using hu
            have HCE := Lib.hid hcell
            clear hb6 hcell
            by_cases hs1 : s = 1
            · subst hs1
              obtain rfl : bz = true := by rw [← hbz]; rfl
              clear hbz
              go_wp2_with (at_builtin; refine wpList_append_own _ rfl (.tmp 77) (.tmp 79) 29 rfl w.heap.size 3 i0 _ 1 8 Tryd.underlying29 hi hz0 hz1 hz2 rfl (by decide) _ _ _ rfl HS6.out ⟨w5.heap.size, 0, none⟩ 1 1 [.int .i64 ((q : Int) + 1)] rfl rfl HCE.out (by simp [Value.oneCell']) (by unfold maxLen; omega) (by omega) HB6.out.size ?_; intro v7 w7 ho7 hg7)
              intro hnil
              clear hnil
              have HNB2 : Hid (busyOf (seqE M 0 (q + 1)) = busyOf (seqE M 0 q) ++ [(q : Int) + 1]) := HNB.out
              have ho8 : OwI w7 w.heap.size v7 (busyOf (seqE M 0 (q + 1))) := by
                rw [HNB2.out]
                show World.ownsRow _ _ _ _ _ _ _
                rw [List.length_append, List.map_append]
                exact ho7
              have hg8 : (w5.alloc (.cells #[.int .i64 ((q : Int) + 1)] 3)).grownBy w7 (Value.slice Ab (busyOf (seqE M 0 q)).length cb).ownBlock := hg7
              have htag := fun k hk => Ow.tag HS6.out k hk
              have HO7 := Lib.hid (HO6.out.grown hg8 (fun k hk => by obtain ⟨cur, hc⟩ := htag k hk; exact ⟨cur, 3, hc, by decide, by decide⟩))
              have HT7 := Lib.hid (HT6.out.grown hg8 (fun k hk => by have := (Ow.lt HS6.out k hk).1; omega))
              have HB7 : Hid (Below w.heap.size w w7) := HB6.out.grown hg8 HB6.out.size (fun k hk => (Ow.lt HS6.out k hk).1)
              obtain ⟨A8, c8, rfl, _⟩ := Ow.sl ho8
              have HS7 := Lib.hid ho8
              clear ho7 hg7 ho8 hg8 htag HO6 HT6 HB6 HS6 HX6 HCE HO5 HT5 HB5 HS5
              have HNA2 : Hid (actOf (seqE M 0 (q + 1)) = actOf (seqE M 0 q) + 1) := by show _ = _; rw [HNA.out]; simp
              go_wp2
              go_roundw
              case rel => exact ⟨q + 1, by omega, by go_num, HS7.out, by rw [HNA2.out]; go_num, HO7.out, HT7.out, HB7.out⟩
              case measure => simp [intOf]; omega
            · have e1 : (s == 1) = false := by rw [beq_eq_false_iff_ne]; exact hs1
              have HNA2 : Hid (actOf (seqE M 0 (q + 1)) = actOf (seqE M 0 q)) := HNA.out.trans (if_neg hs1)
              by_cases hs2 : s = 2
              · subst hs2
                obtain rfl : bz = true := by rw [← hbz]; rfl
                clear hbz hs1
                go_wp2_with (at_builtin; refine wpList_append_own _ rfl (.tmp 77) (.tmp 79) 29 rfl w.heap.size 3 i0 _ 1 8 Tryd.underlying29 hi hz0 hz1 hz2 rfl (by decide) _ _ _ rfl HS6.out ⟨w5.heap.size, 0, none⟩ 1 1 [.int .i64 ((q : Int) + 1)] rfl rfl HCE.out (by simp [Value.oneCell']) (by unfold maxLen; omega) (by omega) HB6.out.size ?_; intro v7 w7 ho7 hg7)
                intro hnil
                clear hnil
                have HNB2 : Hid (busyOf (seqE M 0 (q + 1)) = busyOf (seqE M 0 q) ++ [(q : Int) + 1]) := HNB.out
                have ho8 : OwI w7 w.heap.size v7 (busyOf (seqE M 0 (q + 1))) := by
                  rw [HNB2.out]
                  show World.ownsRow _ _ _ _ _ _ _
                  rw [List.length_append, List.map_append]
                  exact ho7
                have hg8 : (w5.alloc (.cells #[.int .i64 ((q : Int) + 1)] 3)).grownBy w7 (Value.slice Ab (busyOf (seqE M 0 q)).length cb).ownBlock := hg7
                have htag := fun k hk => Ow.tag HS6.out k hk
                have HO7 := Lib.hid (HO6.out.grown hg8 (fun k hk => by obtain ⟨cur, hc⟩ := htag k hk; exact ⟨cur, 3, hc, by decide, by decide⟩))
                have HT7 := Lib.hid (HT6.out.grown hg8 (fun k hk => by have := (Ow.lt HS6.out k hk).1; omega))
                have HB7 : Hid (Below w.heap.size w w7) := HB6.out.grown hg8 HB6.out.size (fun k hk => (Ow.lt HS6.out k hk).1)
                obtain ⟨A8, c8, rfl, _⟩ := Ow.sl ho8
                have HS7 := Lib.hid ho8
                clear ho7 hg7 ho8 hg8 htag HO6 HT6 HB6 HS6 HX6 HCE HO5 HT5 HB5 HS5
                go_wp2
                go_roundw
                case rel => exact ⟨q + 1, by omega, by go_num, HS7.out, by rw [HNA2.out], HO7.out, HT7.out, HB7.out⟩
                case measure => simp [intOf]; omega
              · have e2 : (s == 2) = false := by rw [beq_eq_false_iff_ne]; exact hs2
                obtain rfl : bz = false := by rw [← hbz]; unfold busyB; rw [decide_eq_false hs1, decide_eq_false hs2]; rfl
                have HNB2 : Hid (busyOf (seqE M 0 (q + 1)) = busyOf (seqE M 0 q)) := HNB.out
                clear hbz hs1 hs2 HO6 HT6 HB6 HS6 HX6 HCE
                go_wp2
                go_roundw
                case rel => exact ⟨q + 1, by omega, by go_num, by rw [HNB2.out]; exact HS5.out, by rw [HNA2.out], HO5.out, HT5.out, HB5.out⟩
                case measure => simp [intOf]; omega
          · obtain rfl : m = q := by omega
            have d3 : decide ((m : Int) + 1 ≤ (m : Int)) = false := decide_eq_false (by omega)
            have hbl := busyOf_len (seqE M 0 m)
            rw [seqE_len] at hbl
            have HBL : Hid (busyOf (seqE M 0 m) = busyL M) := by show _ = _; unfold busyL; rw [HM.out]
            have HAL : Hid (actOf (seqE M 0 m) = actL M) := by show _ = _; unfold actL; rw [HM.out]
            rw [HBL.out] at HBS hbl
            rw [HBL.out, HAL.out]
            go_wp2_with fail
            refine (busy_any w.heap.size p v3 M lb en3 _ HO4.out (by rw [HM.out]; omega)).mono ?_
            rintro x w5 ⟨vc, rfl, hoc, hb5⟩
            obtain ⟨Ac, cc, rfl, hsc⟩ := Ow.sl hoc
            have HO5 := Lib.hid (HO4.out.later hb5)
            have HT5 := Lib.hid (HT4.out.later hb5)
            have HB5 := Lib.hid (stepB HB4.out hb5)
            obtain ⟨Ab', cb', eb, hsb⟩ := Ow.sl (HBS.out.later hb5)
            cases eb
            clear hb5 HO4 HT4 HB4 hoc HBS
            go_wp2_with fail
            refine (ints_any Ac Ab (busyL M).length (busyL M).length cc cb (busyL M) (busyL M) w5 hsc.rd hsb.rd (by omega) (by omega)).mono ?_
            rintro x w6 ⟨rfl, d, hw6⟩
            rw [show decide (busyL M = busyL M) = true from decide_eq_true rfl]
            have hb6 : Below w5.heap.size w5 w6 := by rw [hw6]; exact below_drewN (Below.refl _ _) d
            have HO6 := Lib.hid (HO5.out.later hb6)
            have HT6 := Lib.hid (HT5.out.later hb6)
            have HB6 := Lib.hid (stepB HB5.out hb6)
            clear hw6 hb6 HO5 HT5 HB5 hsb hsc
            go_wp2_with fail
            refine (active_any w.heap.size p v3 M lb en3 _ HO6.out (by rw [HM.out]; omega)).mono ?_
            rintro x w7 ⟨rfl, hb7⟩
            have HO7 := Lib.hid (HO6.out.later hb7)
            have HT7 := Lib.hid (HT6.out.later hb7)
            have HB7 := Lib.hid (stepB HB6.out hb7)
            clear hb7 HO6 HT6 HB6
            go_wp2_with fail
            refine (high_e HO7.out (by rw [HM.out]; omega)).mono ?_
            rintro x _ ⟨rfl, rfl⟩
            rw [HM.out]
            have wm : IntKind.i64.wrap ((m : Int) + 1) = (m : Int) + 1 := IntWalk.i64_in _ (by omega)
            go_wp2
            go_roundw
            case rel => exact ⟨k + 1, v3, M, lb, en3, by omega, by go_num, by rw [HM.out], by rw [HM.out]; omega, HO7.out, HT7.out, HB7.out⟩
            case measure => simp [intOf]; omega
    · obtain rfl : k = n := by omega
      have d2 : decide ((k : Int) < (k : Int)) = false := decide_eq_false (by omega)
      go_wp2
      go_ret
      exact ⟨rfl, HB.out⟩
theorem walk (A : Option Addr) (n c : Nat) (S : List Stp) (w : World) (hS : Steps w.heap.size w A n S) (hm : n ≤ maxLen) (hT : TabAt w) : Calls Tryd.prog 6 #[.slice A n c] w (fun e w' => e = .returned (.bool true) ∧ Below w.heap.size w w') := by
  by_cases hn : 120 < n
  · exact w_long A n c S w hS hm hT hn
  · exact w_main A n c S w hS hT hn


set_option maxRecDepth 100000 in
theorem lifted (os : Os) (started : os.Started) (H : Type) (enc : TypeId × Value → H) :
    ReturnsInHanded {} Tryd.checked os 6 .any (fun w args => (Rows.statusBusySpec.pre enc Tryd.prog Tryd.f6 Rows.statusBusyRow.domain false w args ∧ laidMetH Tryd.prog Rows.statusBusyRow.laid w) ∧ sizedMet enc Tryd.prog Tryd.f6 (OpenSpec.ofChange Rows.statusBusySpec) false w args) (Rows.statusBusySpec.post enc Tryd.prog Tryd.f6 false true false false) := by
  refine returnsInHanded_of_change_and (C := Tryd.checked) (X := fun w _ => laidMetH Tryd.prog Rows.statusBusyRow.laid w) (fun _ _ _ hh h => h.of_heap hh) own started (by kernel_rfl) Tryd.func6
    (ChangeSpec.witness_shaped (enc := enc) (C := Tryd.checked) (os := os) (X := fun w _ => laidMetH Tryd.prog Rows.statusBusyRow.laid w) false (World.laidAll Tryd.prog os Rows.statusBusyRow.laid) #[.slice none 0 0] 8 (World.laidAll_os _ _ _)
      (World.shaped_of_ZipB (by kernel_rfl) (by kernel_rfl)) (by kernel_rfl) (by kernel_rfl) (by kernel_rfl)
      (by rw [MakeChecks.laidMetH_plain _ _ _ (by kernel_rfl)]; exact laidMet_laidAll _ (by kernel_rfl) (by kernel_rfl))) ?_
  intro W base args ds gs before hval0 hW _ hsz hL _
  have hval : ∀ (j : Nat) t v, Tryd.f6.params[j]? = some t → args[j]? = some v → Value.okWide Tryd.prog W .any base t v := hval0
  have hW' := hW
  obtain ⟨p, q, hA0, hV, hbef, _, _⟩ := hW
  have hA : DataW.TrodAll enc Tryd.prog W 0 (fun _ => true) true Tryd.f6.params.toList args.toList ds p := hA0
  rw [Tryd.params6] at hA hval
  obtain ⟨v0, vs0, d0, ds0, p0, q0, hargs, rfl, rfl, h0, r0⟩ := trodAll_cons hA
  obtain ⟨rfl, rfl, rfl⟩ := trodAll_nil r0
  obtain rfl : args = #[v0] := by cases args; simp_all
  obtain ⟨rfl, rfl⟩ := trodVars_none hV
  obtain ⟨A0, n0, c0, S0, rfl, st0, mx0⟩ := open_steps (hval 0 32 v0 rfl rfl) h0
  refine (walk A0 n0 c0 S0 W st0 mx0 (tab_of_laid hL)).mono fun e W' ⟨he, hb⟩ => ?_
  subst he
  exact ⟨_, rfl, law_post laidOut (of_decide_eq_true (by kernel_rfl)) rfl Tryd.underlying4 rfl rfl hW' hb⟩

theorem over : Rows.statusBusyRow.holds Tryd.pinned (OpenSpec.ofChange Rows.statusBusySpec) :=
  OpenClaim.holds_of_wide 6 Tryd.f6 rfl rfl rfl rfl rfl rfl rfl ⟨rfl, rfl, rfl, rfl, rfl⟩ rfl rfl rfl rfl rfl (by kernel_rfl) Tryd.func6 (by kernel_rfl)
    (of_decide_eq_true (by kernel_rfl)) (by unfold Func.isWrapper; first | (rw [if_pos (by decide +kernel)]; kernel_rfl) | (rw [if_neg (by decide +kernel)]; exact ⟨rfl, rfl⟩))
    (fun os started H enc _ => lifted os started H enc)
theorem card : Rows.StatusBusyCardSaid :=
  Claim7.holds_tied_plain_at .later [] [.data] true (true, "b1f80fd74cd5558cecf8c137d8407ecb493cf558ae174e6cefbb4fc2bec1b4f4") false over (fun _ h => by cases h) (by kernel_rfl) (fun _ h => by cases h) statusBusy_row_tie rfl ⟨rfl, rfl⟩ (by kernel_rfl) rfl
    (fun f fn hf hfn => by
      obtain rfl : f = 6 := Option.some.inj ((show Tryd.prog.funcNamed "ferryman/ferrymanlaw08.StatusBusy" = some 6 by kernel_rfl).symm.trans hf) |>.symm
      obtain rfl : fn = Tryd.f6 := (Option.some.inj (Tryd.func6.symm.trans hfn)).symm
      exact ⟨by kernel_rfl, fun j t ht => by
        rw [Tryd.params6] at ht
        have hm : t ∈ [32] := by have := Array.mem_of_getElem? ht; simpa using this
        have hall : ([32].all fun u => !Tryd.prog.wantsStandIn u) = true := by kernel_rfl
        exact (show Tryd.prog.wantsStandIn t = false by simpa using List.all_eq_true.1 hall t hm)⟩)
    (by kernel_rfl)
end Go.Proofs.YtmkgipbepipjkaaDoor.statusBusy
namespace Go.Proofs.YtmkgipbepipjkaaDoor
theorem statusBusy_holds : Rows.StatusBusyCardSaid := statusBusy.card
end Go.Proofs.YtmkgipbepipjkaaDoor
