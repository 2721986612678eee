/-
What writers are told only rises; who is done later has the later timestamp. For any steps.
-/
import Derived.Test.YtmkgipbepipjkaaDoorN
import Derived.Test.YtmkgipbepipjkaaDoorTie
import Derived.Test.YtmkgipbepipjkaaDoorCards
import Derived.SevenTiedAt
import Derived.Lay
import Derived.LaidLaws
import Derived.LaidHandle
namespace Go.Proofs.YtmkgipbepipjkaaDoor.statusRises
open Go.ChangeShapes Go.WideShapes Go.ChangeAt Go.RowKit
set_option linter.unusedVariables false
set_option linter.unusedSimpArgs false
theorem own : ownKnob Tryd.prog.godebug = none := by kernel_rfl
theorem laidOut : laidOutB Tryd.prog = true := by kernel_rfl

set_option maxRecDepth 100000 in
set_option maxHeartbeats 4000000 in
theorem w_long (A : Option Addr) (n c : Nat) (S : List Stp) (w : World) (hS : Steps w.heap.size w A n S) (hm : n ≤ maxLen) (hT : TabAt w) (hn : 120 < n) : Calls Tryd.prog 5 #[.slice A n c] w (fun e w' => e = .returned (.bool true) ∧ Below w.heap.size w w') := by
  have d1 : decide ((120 : Int) < (n : Int)) = true := decide_eq_true (by omega)
  have HT := Lib.hid hT
  clear hS hT
  go_enter Tryd.func5, Tryd.ntmps5
  go_wp2_with fail
  refine (works_any w HT.out).mono ?_
  rintro x w1 ⟨rfl, hb⟩
  have HT1 := Lib.hid (HT.out.later hb)
  have HB1 := Lib.hid hb
  clear hb HT
  go_wp2_with fail
  refine (works_any w1 HT1.out).mono ?_
  rintro x w2 ⟨rfl, hb⟩
  have HB2 := Lib.hid (stepB HB1.out hb)
  clear hb HT1
  go_wp2
  go_ret
  exact ⟨rfl, HB2.out⟩
set_option maxRecDepth 100000 in
set_option maxHeartbeats 4000000 in
theorem w_main (A : Option Addr) (n c : Nat) (S : List Stp) (w : World) (hS : Steps w.heap.size w A n S) (hT : TabAt w) (hn : ¬ 120 < n) : Calls Tryd.prog 5 #[.slice A n c] w (fun e w' => e = .returned (.bool true) ∧ Below w.heap.size w w') := by
  have d1 : decide ((120 : Int) < (n : Int)) = false := decide_eq_false (by omega)
  have HT := Lib.hid hT
  have HS := Lib.hid hS
  have hpos := hT.lt
  clear hS hT
  go_enter Tryd.func5, Tryd.ntmps5
  go_wp2_with fail
  refine (works_any w HT.out).mono ?_
  rintro x w1 ⟨rfl, hb⟩
  have HT1 := Lib.hid (HT.out.later hb)
  have HB1 := Lib.hid hb
  clear hb HT
  go_wp2_with fail
  refine (new_any w1).mono ?_
  rintro x w2 ⟨rfl, ho, hb⟩
  have HO2 := Lib.hid (ho.base HB1.out.size)
  have HT2 := Lib.hid (HT1.out.later hb)
  have HB2 := Lib.hid (stepB HB1.out hb)
  generalize w1.heap.size = p at *
  clear hb ho HT1 HB1
  go_wp2
  go_loopw [4] (fun i wr => ∃ (k : Nat) (v : Value) (L : List Wr) (la : Int) (en : Nat), k ≤ n ∧ i = .int .i64 k ∧ L.length ≤ k ∧ Good L la ∧ WrAt wr w.heap.size p v L la en ∧ TabAt wr ∧ Below w.heap.size w wr) (fun i _ => n - (intOf i).toNat)
  case atStart => exact ⟨0, _, _, _, _, Nat.zero_le _, rfl, Nat.le_refl _, Good.nil, HO2.out, HT2.out, HB2.out⟩
  case round =>
    obtain ⟨k, v, L, la, en, hk, rfl, hlk, hg, ho, ht, hb⟩ := hrel
    have HG := Lib.hid hg
    have HO := Lib.hid ho
    have HTT := Lib.hid ht
    have HB := Lib.hid hb
    clear hg ho ht hb HO2 HT2 HB2
    by_cases hlt : k < n
    · have d2 : decide ((k : Int) < (n : Int)) = true := decide_eq_true (by omega)
      obtain ⟨g, off, rfl, hg, hcell⟩ := (HS.out.later HB.out).2 (by omega)
      have i1 := sindex g off n c k (k : Int) rfl hlt
      clear hg hcell
      go_wp2_with fail
      refine (copy_any w.heap.size p v L la en wr HO.out (by omega)).mono ?_
      rintro x wc ⟨v2, rfl, hoc, hbc⟩
      have hsz := HB.out.size
      have hvb := fun k0 hk0 => (hoc.own.lt k0 hk0).1
      have hub := fun k0 hk0 => (HO.out.own.lt k0 hk0).2
      have hpl := HO.out.plt
      have HAP : Hid (Apart v2 v) := fun k0 h1 h2 => by have := hvb k0 h1; have := hub k0 h2; omega
      have HPP := Lib.hid (show wr.heap.size ≠ p from by omega)
      have HA1 := Lib.hid (hoc.base hsz)
      have HO1 := Lib.hid (HO.out.later hbc)
      have HT1 := Lib.hid (HTT.out.later hbc)
      have HB1 := Lib.hid (stepB HB.out hbc)
      generalize wr.heap.size = p2 at *
      clear hsz hvb hub hpl hoc hbc HO HTT HB
      obtain ⟨g', off', e', hg', hcell⟩ := (HS.out.later HB1.out).2 (by omega)
      cases e'
      obtain ⟨x0, x1, x2⟩ := hcell k hlt
      obtain ⟨⟨wh, wi, ts⟩, hx⟩ : ∃ x, S.getD k stp0 = x := ⟨_, rfl⟩
      rw [hx] at x0 x1 x2
      simp only at x0 x1 x2
      clear hcell hx hg'
      go_wp2_with fail
      refine (do_any w.heap.size p v L la en wh wi ts wc HO1.out HT1.out hpos HB1.out.size (by omega)).mono ?_
      rintro x w3 ⟨rfl, v3, en3, ho3, hf3⟩
      have hlen := doS_len L la wh wi ts
      have HD := Lib.hid (do_d (L := L) wh wi ts HO1.out.la0)
      have HO3 := Lib.hid ho3
      have HA3 := Lib.hid (HA1.out.fr hf3 HO1.out.blk HO1.out.own HPP.out HAP.out)
      have HT3 := Lib.hid (HT1.out.fr HO1.out hf3 hpos)
      have HB3 := Lib.hid (Fr.below HB1.out hf3 HB1.out.size HO1.out.hp (fun k hk => (HO1.out.own.lt k hk).1))
      generalize en = en2 at *
      generalize doS L la wh wi ts = M at *
      generalize doT L la wh wi ts = lb at *
      generalize doE L la wh wi ts = ee at *
      generalize doN L wh = nn at *
      have hmk : M.length ≤ k + 1 := by rw [hlen]; split <;> omega
      have wk : IntKind.i64.wrap ((k : Int) + 1) = (k : Int) + 1 := IntWalk.i64_in _ (by omega)
      clear ho3 hf3 x0 x1 x2 HO1 HT1 HB1 HA1 HAP HPP i1 hlen
      go_wp2
      go_loopw [8, 9] (fun tu iw wr2 => ∃ (q : Nat), q ≤ L.length + 2 ∧ iw = .int .i64 q ∧ tu = .int .i64 (chg L M q : Nat) ∧ WrAt wr2 w.heap.size p2 v2 L la en2 ∧ WrAt wr2 w.heap.size p v3 M lb en3 ∧ TabAt wr2 ∧ Below w.heap.size w wr2) (fun _ iw _ => L.length + 2 - (intOf iw).toNat)
      case atStart => exact ⟨0, Nat.zero_le _, rfl, rfl, HA3.out, HO3.out, HT3.out, HB3.out⟩
      case round =>
        obtain ⟨q, hq, rfl, rfl, ha4, ho4, ht4, hb4⟩ := hrel
        have HA4 := Lib.hid ha4
        have HO4 := Lib.hid ho4
        have HT4 := Lib.hid ht4
        have HB4 := Lib.hid hb4
        clear ha4 ho4 ht4 hb4 HA3 HO3 HT3 HB3
        by_cases hqm : q < L.length + 2
        · have d3 : decide ((q : Int) ≤ (L.length : Int) + 1) = true := decide_eq_true (by omega)
          have hc1 : chg L M q ≤ 1 := StepD.le1 HD.out q
          have wq : IntKind.i64.wrap ((q : Int) + 1) = (q : Int) + 1 := IntWalk.i64_in _ (by omega)
          obtain ⟨f1, f2, f3, f4⟩ := StepD.at HD.out HG.out HA4.out.la0 (q : Int)
          obtain ⟨⟨a, t⟩, hx⟩ : ∃ x, ofL L (q : Int) = x := ⟨_, rfl⟩
          obtain ⟨⟨b, u⟩, hy⟩ : ∃ x, ofL M (q : Int) = x := ⟨_, rfl⟩
          rw [hx, hy] at f1 f2 f4
          rw [hy] at f3
          simp only at f1 f2 f3 f4
          have HX := Lib.hid hx
          have HY := Lib.hid hy
          have db : decide (b < a) = false := decide_eq_false f1
          clear hx hy
          go_wp2_with fail
          refine (high_e HA4.out (by omega)).mono ?_
          rintro x _ ⟨rfl, rfl⟩
          go_wp2_with fail
          refine (of_any w.heap.size p2 v2 L la en2 _ _ HA4.out (by omega)).mono ?_
          rintro x w5 ⟨rfl, hb5⟩
          rw [HX.out]
          have HA5 := Lib.hid (HA4.out.later hb5)
          have HO5 := Lib.hid (HO4.out.later hb5)
          have HT5 := Lib.hid (HT4.out.later hb5)
          have HB5 := Lib.hid (stepB HB4.out hb5)
          clear hb5 HA4 HO4 HT4 HB4
          go_wp2_with fail
          refine (of_any w.heap.size p v3 M lb en3 _ _ HO5.out (by omega)).mono ?_
          rintro x w6 ⟨rfl, hb6⟩
          rw [HY.out]
          have HA6 := Lib.hid (HA5.out.later hb6)
          have HO6 := Lib.hid (HO5.out.later hb6)
          have HT6 := Lib.hid (HT5.out.later hb6)
          have HB6 := Lib.hid (stepB HB5.out hb6)
          clear hb6 HA5 HO5 HT5 HB5
          by_cases ht0 : t = 0
          · subst ht0
            clear f2
            by_cases hu0 : u = 0
            · subst hu0
              clear f3 f4
              by_cases hab : a = b
              · subst hab
                have hc : chg L M (q + 1) = chg L M q := by show (if _ then _ else _) = _; rw [if_pos (by rw [HX.out, HY.out])]
                clear HX HY
                go_wp2
                go_roundw
                case rel => exact ⟨q + 1, by omega, by go_num, by rw [hc], HA6.out, HO6.out, HT6.out, HB6.out⟩
                case measure => simp [intOf]; omega
              · have hc : chg L M (q + 1) = chg L M q + 1 := by show (if _ then _ else _) = _; rw [if_neg (by rw [HX.out, HY.out]; exact hab)]
                have hab2 : (a != b) = true := ine_yes hab
                have wq2 : IntKind.i64.wrap ((chg L M q : Int) + 1) = (chg L M q : Int) + 1 := IntWalk.i64_in _ (by omega)
                clear HX HY
                go_wp2
                go_roundw
                case rel => exact ⟨q + 1, by omega, by go_num, by rw [hc]; go_num, HA6.out, HO6.out, HT6.out, HB6.out⟩
                case measure => simp [intOf]; omega
            · have du : (u != 0) = true := ine_yes hu0
              obtain rfl := f3 hu0
              clear f3
              by_cases hab : a = 3
              · subst hab
                have hc : chg L M (q + 1) = chg L M q := by show (if _ then _ else _) = _; rw [if_pos (by rw [HX.out, HY.out])]
                clear HX HY
                go_wp2
                go_roundw
                case rel => exact ⟨q + 1, by omega, by go_num, by rw [hc], HA6.out, HO6.out, HT6.out, HB6.out⟩
                case measure => simp [intOf]; omega
              · have hla := f4 hab hu0
                have dl : decide (u ≤ la) = false := decide_eq_false (by omega)
                clear f4
                have hc : chg L M (q + 1) = chg L M q + 1 := by show (if _ then _ else _) = _; rw [if_neg (by rw [HX.out, HY.out]; exact hab)]
                have hab2 : (a != 3) = true := ine_yes hab
                have wq2 : IntKind.i64.wrap ((chg L M q : Int) + 1) = (chg L M q : Int) + 1 := IntWalk.i64_in _ (by omega)
                clear HX HY
                go_wp2_with fail
                refine (last_e HA6.out).mono ?_
                rintro x _ ⟨rfl, rfl⟩
                go_wp2
                go_roundw
                case rel => exact ⟨q + 1, by omega, by go_num, by rw [hc]; go_num, HA6.out, HO6.out, HT6.out, HB6.out⟩
                case measure => simp [intOf]; omega
          · have dt : (t != 0) = true := ine_yes ht0
            obtain rfl := f2 ht0
            obtain rfl := f3 ht0
            clear f2 f3
            by_cases hab : a = 3
            · subst hab
              have hc : chg L M (q + 1) = chg L M q := by show (if _ then _ else _) = _; rw [if_pos (by rw [HX.out, HY.out])]
              clear HX HY
              go_wp2
              go_roundw
              case rel => exact ⟨q + 1, by omega, by go_num, by rw [hc], HA6.out, HO6.out, HT6.out, HB6.out⟩
              case measure => simp [intOf]; omega
            · exfalso
              have := HG.out.three (q : Int)
              rw [HX.out] at this
              exact hab (this ht0)
        · obtain rfl : q = L.length + 2 := by omega
          have d3 : decide (((L.length + 2 : Nat) : Int) ≤ (L.length : Int) + 1) = false := decide_eq_false (by omega)
          have HGM := Lib.hid (StepD.good HD.out HG.out HA4.out.la0)
          have dl : decide (lb < la) = false := decide_eq_false (by have := StepD.la_le HD.out; omega)
          have hall := StepD.all HD.out (k := L.length + 2) rfl
          go_wp2_with fail
          refine (high_e HA4.out (by omega)).mono ?_
          rintro x _ ⟨rfl, rfl⟩
          rcases hall with ⟨he, hc⟩ | ⟨he, hc⟩
          · subst he
            rw [hc]
            go_wp2_with fail
            refine (last_e HO4.out).mono ?_
            rintro x _ ⟨rfl, rfl⟩
            go_wp2_with fail
            refine (last_e HA4.out).mono ?_
            rintro x _ ⟨rfl, rfl⟩
            go_wp2
            go_roundw
            case rel => exact ⟨k + 1, v3, M, lb, en3, by omega, by go_num, hmk, HGM.out, HO4.out, HT4.out, HB4.out⟩
            case measure => simp [intOf]; omega
          · have de : (ee == 0) = false := ieq_no he
            rw [hc]
            go_wp2_with fail
            refine (last_e HO4.out).mono ?_
            rintro x _ ⟨rfl, rfl⟩
            go_wp2_with fail
            refine (last_e HA4.out).mono ?_
            rintro x _ ⟨rfl, rfl⟩
            go_wp2
            go_roundw
            case rel => exact ⟨k + 1, v3, M, lb, en3, by omega, by go_num, hmk, HGM.out, HO4.out, HT4.out, HB4.out⟩
            case measure => simp [intOf]; omega
    · obtain rfl : k = n := by omega
      have d2 : decide ((k : Int) < (k : Int)) = false := decide_eq_false (by omega)
      go_wp2
      go_loopw [14] (fun iw wr2 => ∃ (q : Nat), q ≤ L.length ∧ iw = .int .i64 ((q : Int) + 1) ∧ WrAt wr2 w.heap.size p v L la en ∧ Below w.heap.size w wr2) (fun iw _ => L.length + 1 - (intOf iw).toNat)
      case atStart => exact ⟨0, Nat.zero_le _, rfl, HO.out, HB.out⟩
      case round =>
        obtain ⟨q, hq, rfl, ho4, hb4⟩ := hrel
        have HO4 := Lib.hid ho4
        have HB4 := Lib.hid hb4
        clear ho4 hb4 HO HB
        by_cases hqm : q < L.length
        · have d3 : decide ((q : Int) + 1 < (L.length : Int) + 1) = true := decide_eq_true (by omega)
          have wq : IntKind.i64.wrap ((q : Int) + 1 + 1) = (q : Int) + 1 + 1 := IntWalk.i64_in _ (by omega)
          obtain ⟨⟨a, t⟩, hx⟩ : ∃ x, ofL L ((q : Int) + 1) = x := ⟨_, rfl⟩
          have hle : t ≤ la := by have := HG.out.le ((q : Int) + 1); rw [hx] at this; exact this
          have dl : decide (la < t) = false := decide_eq_false (by omega)
          have HX := Lib.hid hx
          clear hx
          go_wp2_with fail
          refine (high_e HO4.out (by omega)).mono ?_
          rintro x _ ⟨rfl, rfl⟩
          go_wp2_with fail
          refine (of_any w.heap.size p v L la en _ _ HO4.out (by omega)).mono ?_
          rintro x w5 ⟨rfl, hb5⟩
          rw [HX.out]
          have HO5 := Lib.hid (HO4.out.later hb5)
          have HB5 := Lib.hid (stepB HB4.out hb5)
          clear hb5 HO4 HB4
          go_wp2
          go_loopw [17] (fun iv2 wr3 => ∃ (r : Nat), r ≤ q ∧ iv2 = .int .i64 ((r : Int) + 1) ∧ WrAt wr3 w.heap.size p v L la en ∧ Below w.heap.size w wr3) (fun iv2 _ => q + 1 - (intOf iv2).toNat)
          case atStart => exact ⟨0, Nat.zero_le _, rfl, HO5.out, HB5.out⟩
          case round =>
            obtain ⟨r, hr, rfl, ho6, hb6⟩ := hrel
            have HO6 := Lib.hid ho6
            have HB6 := Lib.hid hb6
            clear ho6 hb6 HO5 HB5
            by_cases hrq : r < q
            · have d4 : decide ((r : Int) + 1 < (q : Int) + 1) = true := decide_eq_true (by omega)
              have wr4 : IntKind.i64.wrap ((r : Int) + 1 + 1) = (r : Int) + 1 + 1 := IntWalk.i64_in _ (by omega)
              obtain ⟨⟨b, u⟩, hy⟩ : ∃ x, ofL L ((r : Int) + 1) = x := ⟨_, rfl⟩
              have hne : t = u → t = 0 := fun e => by have := HG.out.ne ((q : Int) + 1) ((r : Int) + 1) (by omega); rw [HX.out, hy] at this; exact this e
              have HY := Lib.hid hy
              clear hy
              go_wp2_with fail
              refine (of_any w.heap.size p v L la en _ _ HO6.out (by omega)).mono ?_
              rintro x w7 ⟨rfl, hb7⟩
              rw [HY.out]
              have HO7 := Lib.hid (HO6.out.later hb7)
              have HB7 := Lib.hid (stepB HB6.out hb7)
              clear hb7 HO6 HB6
              by_cases htu : t = u
              · obtain rfl := hne htu
                subst htu
                clear hne
                go_wp2_with fail
                refine (last_e HO7.out).mono ?_
                rintro x _ ⟨rfl, rfl⟩
                go_wp2
                go_roundw
                case rel => exact ⟨r + 1, by omega, by go_num, HO7.out, HB7.out⟩
                case measure => simp [intOf]; omega
              · have dtu : (t == u) = false := ieq_no htu
                clear hne
                go_wp2_with fail
                refine (last_e HO7.out).mono ?_
                rintro x _ ⟨rfl, rfl⟩
                go_wp2
                go_roundw
                case rel => exact ⟨r + 1, by omega, by go_num, HO7.out, HB7.out⟩
                case measure => simp [intOf]; omega
            · obtain rfl : q = r := by omega
              have d4 : decide ((q : Int) + 1 < (q : Int) + 1) = false := decide_eq_false (by omega)
              go_wp2
              go_roundw
              case rel => exact ⟨q + 1, by omega, by go_num, HO6.out, HB6.out⟩
              case measure => simp [intOf]; omega
        · obtain rfl : q = L.length := by omega
          have d3 : decide ((L.length : Int) + 1 < (L.length : Int) + 1) = false := decide_eq_false (by omega)
          go_wp2_with fail
          refine (high_e HO4.out (by omega)).mono ?_
          rintro x _ ⟨rfl, rfl⟩
          go_wp2
          go_ret
          exact ⟨rfl, HB4.out⟩
theorem walk (A : Option Addr) (n c : Nat) (S : List Stp) (w : World) (hS : Steps w.heap.size w A n S) (hm : n ≤ maxLen) (hT : TabAt w) : Calls Tryd.prog 5 #[.slice A n c] w (fun e w' => e = .returned (.bool true) ∧ Below w.heap.size w w') := by
  by_cases hn : 120 < n
  · exact w_long A n c S w hS hm hT hn
  · exact w_main A n c S w hS hT hn


set_option maxRecDepth 100000 in
theorem lifted (os : Os) (started : os.Started) (H : Type) (enc : TypeId × Value → H) :
    ReturnsInHanded {} Tryd.checked os 5 .any (fun w args => (Rows.statusRisesSpec.pre enc Tryd.prog Tryd.f5 Rows.statusRisesRow.domain false w args ∧ laidMetH Tryd.prog Rows.statusRisesRow.laid w) ∧ sizedMet enc Tryd.prog Tryd.f5 (OpenSpec.ofChange Rows.statusRisesSpec) false w args) (Rows.statusRisesSpec.post enc Tryd.prog Tryd.f5 false true false false) := by
  refine returnsInHanded_of_change_and (C := Tryd.checked) (X := fun w _ => laidMetH Tryd.prog Rows.statusRisesRow.laid w) (fun _ _ _ hh h => h.of_heap hh) own started (by kernel_rfl) Tryd.func5
    (ChangeSpec.witness_shaped (enc := enc) (C := Tryd.checked) (os := os) (X := fun w _ => laidMetH Tryd.prog Rows.statusRisesRow.laid w) false (World.laidAll Tryd.prog os Rows.statusRisesRow.laid) #[.slice none 0 0] 8 (World.laidAll_os _ _ _)
      (World.shaped_of_ZipB (by kernel_rfl) (by kernel_rfl)) (by kernel_rfl) (by kernel_rfl) (by kernel_rfl)
      (by rw [MakeChecks.laidMetH_plain _ _ _ (by kernel_rfl)]; exact laidMet_laidAll _ (by kernel_rfl) (by kernel_rfl))) ?_
  intro W base args ds gs before hval0 hW _ hsz hL _
  have hval : ∀ (j : Nat) t v, Tryd.f5.params[j]? = some t → args[j]? = some v → Value.okWide Tryd.prog W .any base t v := hval0
  have hW' := hW
  obtain ⟨p, q, hA0, hV, hbef, _, _⟩ := hW
  have hA : DataW.TrodAll enc Tryd.prog W 0 (fun _ => true) true Tryd.f5.params.toList args.toList ds p := hA0
  rw [Tryd.params5] at hA hval
  obtain ⟨v0, vs0, d0, ds0, p0, q0, hargs, rfl, rfl, h0, r0⟩ := trodAll_cons hA
  obtain ⟨rfl, rfl, rfl⟩ := trodAll_nil r0
  obtain rfl : args = #[v0] := by cases args; simp_all
  obtain ⟨rfl, rfl⟩ := trodVars_none hV
  obtain ⟨A0, n0, c0, S0, rfl, st0, mx0⟩ := open_steps (hval 0 32 v0 rfl rfl) h0
  refine (walk A0 n0 c0 S0 W st0 mx0 (tab_of_laid hL)).mono fun e W' ⟨he, hb⟩ => ?_
  subst he
  exact ⟨_, rfl, law_post laidOut (of_decide_eq_true (by kernel_rfl)) rfl Tryd.underlying4 rfl rfl hW' hb⟩

theorem over : Rows.statusRisesRow.holds Tryd.pinned (OpenSpec.ofChange Rows.statusRisesSpec) :=
  OpenClaim.holds_of_wide 5 Tryd.f5 rfl rfl rfl rfl rfl rfl rfl ⟨rfl, rfl, rfl, rfl, rfl⟩ rfl rfl rfl rfl rfl (by kernel_rfl) Tryd.func5 (by kernel_rfl)
    (of_decide_eq_true (by kernel_rfl)) (by unfold Func.isWrapper; first | (rw [if_pos (by decide +kernel)]; kernel_rfl) | (rw [if_neg (by decide +kernel)]; exact ⟨rfl, rfl⟩))
    (fun os started H enc _ => lifted os started H enc)
theorem card : Rows.StatusRisesCardSaid :=
  Claim7.holds_tied_plain_at .later [] [.data] true (true, "b1f80fd74cd5558cecf8c137d8407ecb493cf558ae174e6cefbb4fc2bec1b4f4") false over (fun _ h => by cases h) (by kernel_rfl) (fun _ h => by cases h) statusRises_row_tie rfl ⟨rfl, rfl⟩ (by kernel_rfl) rfl
    (fun f fn hf hfn => by
      obtain rfl : f = 5 := Option.some.inj ((show Tryd.prog.funcNamed "ferryman/ferrymanlaw08.StatusRises" = some 5 by kernel_rfl).symm.trans hf) |>.symm
      obtain rfl : fn = Tryd.f5 := (Option.some.inj (Tryd.func5.symm.trans hfn)).symm
      exact ⟨by kernel_rfl, fun j t ht => by
        rw [Tryd.params5] at ht
        have hm : t ∈ [32] := by have := Array.mem_of_getElem? ht; simpa using this
        have hall : ([32].all fun u => !Tryd.prog.wantsStandIn u) = true := by kernel_rfl
        exact (show Tryd.prog.wantsStandIn t = false by simpa using List.all_eq_true.1 hall t hm)⟩)
    (by kernel_rfl)
end Go.Proofs.YtmkgipbepipjkaaDoor.statusRises
namespace Go.Proofs.YtmkgipbepipjkaaDoor
theorem statusRises_holds : Rows.StatusRisesCardSaid := statusRises.card
end Go.Proofs.YtmkgipbepipjkaaDoor
