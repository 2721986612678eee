/-
Whatever comes to the dead: each answer, and all that is told, is the document's; a copy goes its own way. For any steps.
-/
import Derived.Test.YtlnfdcaljmfbjaaP5
import Derived.Test.YtlnfdcaljmfbjaaRows
import Derived.Deep.LoopGhost
namespace Go.Proofs.Ytlnfdcaljmfbjaa.deadPlays
open Go.ChangeShapes Go.WideShapes Go.ChangeAt Go.RowKit Go.Maps
set_option linter.unusedVariables false
set_option linter.unusedSimpArgs false

theorem own : ownKnob Try.prog.godebug = none := by kernel_rfl
theorem laidOut : laidOutB Try.prog = true := by kernel_rfl

set_option maxRecDepth 100000 in
set_option maxHeartbeats 4000000 in
theorem w_long (A : Option Addr) (n c : Nat) (w : World) (hn : 300 < n) : Calls Try.prog 4 #[.slice A n c] w (fun e w' => e = .returned (.bool true) ∧ Below w.heap.size w w') := by
  have d1 : decide ((300 : Int) < (n : Int)) = true := decide_eq_true (by omega)
  go_enter Try.func4, Try.ntmps4
  go_wp2_with fail
  refine (works_any w).mono ?_
  rintro x w1 ⟨rfl, hb⟩
  have HB1 := Lib.hid hb
  clear hb
  go_wp2
  go_ret
  exact ⟨rfl, HB1.out⟩
set_option maxRecDepth 100000 in
set_option maxHeartbeats 4000000 in
theorem w_main (A : Option Addr) (n c : Nat) (S : List Stp) (w : World) (hS : Steps w.heap.size w A n S) (hn : ¬ 300 < n) : Calls Try.prog 4 #[.slice A n c] w (fun e w' => e = .returned (.bool true) ∧ Below w.heap.size w w') := by
  have d1 : decide ((300 : Int) < (n : Int)) = false := decide_eq_false (by omega)
  have HS := Lib.hid hS
  clear hS
  go_enter Try.func4, Try.ntmps4
  go_wp2_with fail
  refine (new_any w).mono ?_
  rintro x w1 ⟨rfl, ho, hb⟩
  have O1 := Lib.hid ho
  have HB1 := Lib.hid hb
  clear ho hb
  generalize hp0 : w.heap.size + 1 = p at *
  generalize hb0 : w.heap.size = b at O1
  clear hp0
  have HBZ := Lib.hid hb0
  clear hb0
  go_wp2_with fail
  refine (rnew_any w1).mono ?_
  rintro x w2 ⟨rfl, ho, hb⟩
  have R2 := Lib.hid (ho.base HB1.out.size)
  have O2 : Hid (DdAt w2 w.heap.size p b []) := by rw [HBZ.out]; exact O1.out.later hb
  have HB2 := Lib.hid (stepB HB1.out hb)
  clear ho hb HB1 O1 HBZ
  generalize w1.heap.size = q at *
  go_wp2
  go_loopg [5] n (fun g i wr => ∃ (k : Nat) (C : List Ct) (v : Value), k ≤ n ∧ g = n - k ∧ i = .int .i64 k ∧ DdAt wr w.heap.size p b C ∧ RfAt wr w.heap.size q v (expand C) ∧ Below w.heap.size w wr)
  case atStart => exact ⟨0, _, _, Nat.zero_le _, rfl, rfl, O2.out, R2.out, HB2.out⟩
  case round =>
    obtain ⟨k, C, v, hk, rfl, rfl, ho, hr, hb⟩ := hrel
    have O0 := Lib.hid ho
    have R0 := Lib.hid hr
    have HB0 := Lib.hid hb
    have HOK := Lib.hid ho.ok
    clear ho hr hb O2 R2 HB2
    by_cases hlt : k < n
    · have d2 : decide ((k : Int) < (n : Int)) = true := decide_eq_true (by omega)
      have wk : IntKind.i64.wrap ((k : Int) + 1) = (k : Int) + 1 := IntWalk.i64_in _ (by omega)
      have hl64 : (expand C).length ≤ 64 := by have := len_expand HOK.out.pos; have := HOK.out.sum; omega
      go_wp2_with fail
      refine (copy_any w.heap.size p b C _ O0.out).mono ?_
      rintro x w3 ⟨pc, bc, rfl, hoc, hb⟩
      have HN1 := Lib.hid (show bc ≠ b from by have := hoc.own.1; have := O0.out.blt; omega)
      have O3 := Lib.hid (O0.out.later hb)
      have R3 := Lib.hid (R0.out.later hb)
      have OC3 := Lib.hid (hoc.base HB0.out.size)
      have HB3 := Lib.hid (stepB HB0.out hb)
      clear hoc hb O0 R0 HB0
      go_wp2_with fail
      refine (rcopy_any w.heap.size q v (expand C) _ R3.out (by omega)).mono ?_
      rintro x w4 ⟨qc, vc, rfl, hrc, hb⟩
      have hA : All w w4 p b C q v (expand C) pc bc C qc vc (expand C) := ⟨O3.out.later hb, R3.out.later hb, OC3.out.later hb, hrc.base HB3.out.size, stepB HB3.out hb, HN1.out, by have := hrc.hp; have := R3.out.plt; omega⟩
      have HA := Lib.hid hA
      clear hA hrc hb O3 R3 OC3 HB3 HN1
      obtain ⟨g, off, rfl, hg, hcell⟩ := HS.out.2 (by omega)
      obtain ⟨x0, x1, hwf⟩ := hcell k hlt
      have i1 := sindex g off n c k (k : Int) rfl hlt
      obtain ⟨⟨wh, ts⟩, hx⟩ : ∃ x, S.getD k stp0 = x := ⟨_, rfl⟩
      rw [hx] at x0 x1 hwf
      have KC : Hid (∀ W, Below w.heap.size w W → W.cell? ⟨g, off + k * 2 + 1, none⟩ = some (.int .i64 ts)) := fun W hb => (hb.cell (p := ⟨g, off + k * 2 + 1, none⟩) hg).trans x1
      have KH : Hid (∀ W, Below w.heap.size w W → W.cell? ⟨g, off + k * 2, none⟩ = some (.int .u8 wh)) := fun W hb => (hb.cell (p := ⟨g, off + k * 2, none⟩) hg).trans x0
      have HWF := Lib.hid hwf
      have HED := Lib.hid (expand_do HOK.out ts)
      clear hcell x0 x1 hwf hx hg
      have z0 := KH.out _ HA.out.hb
      go_upto_block 2 with (fail)
      go_cut [8] (fun s8 wx => ∃ v', s8 = .bool true ∧ All w wx p b (doC C wh ts) q v' (expand (doC C wh ts)) pc bc C qc vc (expand C))
      case first =>
        have z1 := KC.out _ HA.out.hb
        have z2 := KC.out _ HA.out.drew.hb
        have hA := HA.out
        by_cases h0 : wh = 0
        · subst h0
          have HDOC : doC C 0 ts = addS C ts := rfl
          obtain ⟨an, han⟩ : ∃ an : Int, addE C ts = an := ⟨_, rfl⟩
          have HDC : Hid (doC C 0 ts = addS C ts) := HDOC
          have HA1 : Hid (∀ W, All w W p b C q v (expand C) pc bc C qc vc (expand C) → Calls Try.prog 10 #[.pointer (some ⟨p, 0, none⟩), .int .i64 ts] W fun x w' => x = .returned (.int .i64 an) ∧ All w w' p b (addS C ts) q v (expand C) pc bc C qc vc (expand C)) := fun W hA => by
            refine (add_any w.heap.size p b C ts W hA.d).mono ?_
            rintro x w' ⟨rfl, ho, hg⟩
            exact ⟨by rw [han], hA.stepD ho hg⟩
          have HA2 : Hid (∀ W, All w W p b (addS C ts) q v (expand C) pc bc C qc vc (expand C) → Calls Try.prog 20 #[.pointer (some ⟨q, 0, none⟩), .int .i64 ts] W fun x w' => x = .returned (.int .i64 an) ∧ ∃ v', All w w' p b (addS C ts) q v' (expand (addS C ts)) pc bc C qc vc (expand C)) := fun W hA => by
            refine (radd_any w.heap.size q v (expand C) ts W hA.r (by omega)).mono ?_
            rintro x w' ⟨rfl, v', ho, hg⟩
            rw [HED.out.2.1] at ho
            exact ⟨by rw [HED.out.1, han], v', hA.stepR ho hg⟩
          have dan : (an == an) = true := by simp
          clear han
          generalize addS C ts = C2 at *
          go_upto_region 12 with fail
          go_region_with (first
            | (go_at_call 10; refine (HA1.out _ (by first | assumption | exact All.drew (by assumption) | exact All.drew (All.drew (by assumption)) | exact All.later (by assumption) (below_drewN (Below.refl _ _) _))).mono ?_; rintro x wz ⟨rfl, hA⟩; have yz := KC.out _ hA.hb; have yz2 := KC.out _ hA.drew.hb)
            | (go_at_call 20; refine (HA2.out _ (by first | assumption | exact All.drew (by assumption) | exact All.drew (All.drew (by assumption)) | exact All.later (by assumption) (below_drewN (Below.refl _ _) _))).mono ?_; rintro x wz ⟨rfl, v', hA⟩))
          all_goals (
            go_wp2_with fail
            go_meet
            exact ⟨_, rfl, by rw [HDC.out]; first | assumption | exact All.drew (by assumption) | exact All.drew (All.drew (by assumption)) | exact All.later (by assumption) (below_drewN (Below.refl _ _) _)⟩)
        · have e0 : (wh == 0) = false := ieq_no h0
          by_cases h1 : wh = 1
          · subst h1
            have HDOC : doC C 1 ts = lessS C ts := rfl
            obtain ⟨an, han⟩ : ∃ an : Bool, decide (ofC C ts ≠ 0) = an := ⟨_, rfl⟩
            have HDC : Hid (doC C 1 ts = lessS C ts) := HDOC
            have HA1 : Hid (∀ W, All w W p b C q v (expand C) pc bc C qc vc (expand C) → Calls Try.prog 11 #[.pointer (some ⟨p, 0, none⟩), .int .i64 ts] W fun x w' => x = .returned (.bool an) ∧ All w w' p b (lessS C ts) q v (expand C) pc bc C qc vc (expand C)) := fun W hA => by
              refine (less_any w.heap.size p b C ts W hA.d HWF.out).mono ?_
              rintro x w' ⟨rfl, ho, hg⟩
              exact ⟨by rw [han], hA.stepD ho hg⟩
            have HA2 : Hid (∀ W, All w W p b (lessS C ts) q v (expand C) pc bc C qc vc (expand C) → Calls Try.prog 21 #[.pointer (some ⟨q, 0, none⟩), .int .i64 ts] W fun x w' => x = .returned (.bool an) ∧ ∃ v', All w w' p b (lessS C ts) q v' (expand (lessS C ts)) pc bc C qc vc (expand C)) := fun W hA => by
              refine (rless_any w.heap.size q v (expand C) ts W hA.r (by omega)).mono ?_
              rintro x w' ⟨rfl, v', ho, hg⟩
              rw [HED.out.2.2.2.1] at ho
              exact ⟨by rw [HED.out.2.2.1, han], v', hA.stepR ho hg⟩
            have dan : (an == an) = true := by simp
            clear han
            generalize lessS C ts = C2 at *
            go_upto_region 14 with fail
            go_region_with (first
              | (go_at_call 11; refine (HA1.out _ (by first | assumption | exact All.drew (by assumption) | exact All.drew (All.drew (by assumption)) | exact All.later (by assumption) (below_drewN (Below.refl _ _) _))).mono ?_; rintro x wz ⟨rfl, hA⟩; have yz := KC.out _ hA.hb; have yz2 := KC.out _ hA.drew.hb)
              | (go_at_call 21; refine (HA2.out _ (by first | assumption | exact All.drew (by assumption) | exact All.drew (All.drew (by assumption)) | exact All.later (by assumption) (below_drewN (Below.refl _ _) _))).mono ?_; rintro x wz ⟨rfl, v', hA⟩))
            all_goals (
              go_wp2_with fail
              go_meet
              exact ⟨_, rfl, by rw [HDC.out]; first | assumption | exact All.drew (by assumption) | exact All.drew (All.drew (by assumption)) | exact All.later (by assumption) (below_drewN (Below.refl _ _) _)⟩)
          · have e1 : (wh == 1) = false := ieq_no h1
            have HDOC : doC C wh ts = passS C ts := (if_neg h0).trans (if_neg h1)
            obtain ⟨an, han⟩ : ∃ an : Int, sumC C - sumC (passS C ts) = an := ⟨_, rfl⟩
            have HDC : Hid (doC C wh ts = passS C ts) := HDOC
            have HA1 : Hid (∀ W, All w W p b C q v (expand C) pc bc C qc vc (expand C) → Calls Try.prog 12 #[.pointer (some ⟨p, 0, none⟩), .int .i64 ts] W fun x w' => x = .returned (.int .i64 an) ∧ All w w' p b (passS C ts) q v (expand C) pc bc C qc vc (expand C)) := fun W hA => by
              refine (pass_any w.heap.size p b C ts W hA.d).mono ?_
              rintro x w' ⟨rfl, ho, hg⟩
              exact ⟨by rw [han], hA.stepD ho hg⟩
            have HA2 : Hid (∀ W, All w W p b (passS C ts) q v (expand C) pc bc C qc vc (expand C) → Calls Try.prog 22 #[.pointer (some ⟨q, 0, none⟩), .int .i64 ts] W fun x w' => x = .returned (.int .i64 an) ∧ ∃ v', All w w' p b (passS C ts) q v' (expand (passS C ts)) pc bc C qc vc (expand C)) := fun W hA => by
              refine (rpass_any w.heap.size q v (expand C) ts W hA.r (by omega)).mono ?_
              rintro x w' ⟨rfl, v', ho, hg⟩
              rw [HED.out.2.2.2.2.2] at ho
              exact ⟨by rw [HED.out.2.2.2.2.1, han], v', hA.stepR ho hg⟩
            have dan : (an == an) = true := by simp
            clear han
            generalize passS C ts = C2 at *
            go_upto_region 10 with fail
            go_region_with (first
              | (go_at_call 12; refine (HA1.out _ (by first | assumption | exact All.drew (by assumption) | exact All.drew (All.drew (by assumption)) | exact All.later (by assumption) (below_drewN (Below.refl _ _) _))).mono ?_; rintro x wz ⟨rfl, hA⟩; have yz := KC.out _ hA.hb; have yz2 := KC.out _ hA.drew.hb)
              | (go_at_call 22; refine (HA2.out _ (by first | assumption | exact All.drew (by assumption) | exact All.drew (All.drew (by assumption)) | exact All.later (by assumption) (below_drewN (Below.refl _ _) _))).mono ?_; rintro x wz ⟨rfl, v', hA⟩))
            all_goals (
              go_wp2_with fail
              go_meet
              exact ⟨_, rfl, by rw [HDC.out]; first | assumption | exact All.drew (by assumption) | exact All.drew (All.drew (by assumption)) | exact All.later (by assumption) (below_drewN (Below.refl _ _) _)⟩)
      case rest =>
        obtain ⟨v4, rfl, hA⟩ := hcut
        obtain ⟨w5, rfl⟩ : ∃ w5 : World, w5 = wc := ⟨_, rfl⟩
        have hOK2 := hA.d.ok
        have HOK2 := Lib.hid hOK2
        clear z0 HED hOK2
        generalize doC C wh ts = C2 at *
        replace HA := Lib.hid hA
        have hl64' : (expand C2).length ≤ 64 := by have := len_expand HOK2.out.pos; have := HOK2.out.sum; omega
        have KC2 : Hid (∀ W, Below w5.heap.size w5 W → W.cell? ⟨g, off + k * 2 + 1, none⟩ = some (.int .i64 ts)) := fun W hb => KC.out _ (stepB hA.hb hb)
        have HL1 : Hid (∀ W, SP w5 ⟨g, off + k * 2 + 1, none⟩ ts W → Calls Try.prog 23 #[.pointer (some ⟨p, 0, none⟩), .pointer (some ⟨q, 0, none⟩)] W fun x w' => x = .returned (.bool true) ∧ Below W.heap.size W w') := fun W h => like_any w.heap.size p b w.heap.size q C2 v4 W (hA.later h.1).d (hA.later h.1).r
        have HL2 : Hid (∀ W, SP w5 ⟨g, off + k * 2 + 1, none⟩ ts W → Calls Try.prog 23 #[.pointer (some ⟨pc, 0, none⟩), .pointer (some ⟨qc, 0, none⟩)] W fun x w' => x = .returned (.bool true) ∧ Below W.heap.size W w') := fun W h => like_any w.heap.size pc bc w.heap.size qc C vc W (hA.later h.1).dc (hA.later h.1).rc
        obtain ⟨oc, hoc⟩ : ∃ x, ofC C2 ts = x := ⟨_, rfl⟩
        have HO1 : Hid (∀ W, SP w5 ⟨g, off + k * 2 + 1, none⟩ ts W → Calls Try.prog 13 #[.pointer (some ⟨p, 0, none⟩), .int .i64 ts] W fun x w' => x = .returned (.int .i64 oc) ∧ Below W.heap.size W w') := fun W h => (of_any w.heap.size p b C2 ts W (hA.later h.1).d HWF.out).mono (fun _ _ h => ⟨by rw [h.1, hoc], by rw [← h.2]; exact Below.refl _ _⟩)
        have HO2 : Hid (∀ W, SP w5 ⟨g, off + k * 2 + 1, none⟩ ts W → Calls Try.prog 24 #[.pointer (some ⟨q, 0, none⟩), .int .i64 ts] W fun x w' => x = .returned (.int .i64 oc) ∧ Below W.heap.size W w') := fun W h => (rof_any w.heap.size q v4 (expand C2) ts W (hA.later h.1).r (by omega)).mono (fun _ _ h => ⟨by rw [h.1, foldC, expand_of ts HOK2.out.up HOK2.out.pos, hoc, Int.zero_add], by rw [← h.2]; exact Below.refl _ _⟩)
        have KS : Hid (∀ W W2, Below W.heap.size W W2 → SP w5 ⟨g, off + k * 2 + 1, none⟩ ts W → SP w5 ⟨g, off + k * 2 + 1, none⟩ ts W2) := fun W W2 h2 h1 => ⟨stepB h1.1 h2, KC2.out _ (stepB h1.1 h2)⟩
        have K0 : Hid (SP w5 ⟨g, off + k * 2 + 1, none⟩ ts w5.drew) := ⟨Below.drew (Below.refl _ _), KC2.out _ (Below.drew (Below.refl _ _))⟩
        have doc : (oc != oc) = false := by simp
        clear hoc
        go_upto_region 15 with fail
        go_cut [111] (fun s111 wx => s111 = .bool false ∧ Below w5.heap.size w5 wx)
        case first =>
          clear hA HA KC KH KC2
          go_region_held3 (SP w5 ⟨g, off + k * 2 + 1, none⟩ ts) (first | assumption | exact K0.out | exact KS.out _ _ (by assumption) (by assumption) | exact KS.out _ _ (below_drewN (Below.refl _ _) _) (by assumption)) (first
            | (go_at_call_of 23 (Value.pointer (some ⟨p, 0, none⟩)); refine (HL1.out _ (by assumption)).mono ?_; rintro x wz ⟨rfl, hb⟩)
            | (go_at_call_of 23 (Value.pointer (some ⟨pc, 0, none⟩)); refine (HL2.out _ (by assumption)).mono ?_; rintro x wz ⟨rfl, hb⟩)
            | (go_at_call 13; refine (HO1.out _ (by assumption)).mono ?_; rintro x wz ⟨rfl, hb⟩)
            | (go_at_call 24; refine (HO2.out _ (by assumption)).mono ?_; rintro x wz ⟨rfl, hb⟩))
          all_goals (
            rename SP _ _ _ _ => hSO
            have hz := Lib.hid hSO.1
            clear hSO
            go_wp2_with fail
            go_meet
            exact ⟨rfl, hz.out⟩)
        case rest =>
          obtain ⟨rfl, hb6⟩ := hcut
          obtain ⟨w6, rfl⟩ : ∃ w6 : World, w6 = wc := ⟨_, rfl⟩
          have A6 := Lib.hid (hA.later hb6)
          clear hA HA HL1 HL2 HO1 HO2 K0 KS KC2 hb6
          go_wp2_with fail
          refine (counts_any w.heap.size p b C2 _ A6.out.d).mono ?_
          rintro x w7 ⟨Ac, cc, rfl, hsl, hb⟩
          have HTL := Lib.hid hsl.tl
          have HB7 := Lib.hid hb
          clear hsl hb
          have hl2 : C2.length ≤ 64 := by have := sum_len HOK2.out.pos; have := HOK2.out.sum; omega
          generalize C2.length = m at *
          go_wp2
          go_loopw [10] (fun i wr => ∃ j : Nat, j ≤ m ∧ i = .int .i64 j ∧ TL wr w6.heap.size Ac m ∧ Below w6.heap.size w6 wr) (fun i _ => m - (intOf i).toNat)
          case atStart => exact ⟨0, Nat.zero_le _, rfl, HTL.out, HB7.out⟩
          case round =>
            obtain ⟨j, hj, rfl, ht, hb⟩ := hrel
            have HT8 := Lib.hid ht
            have HB8 := Lib.hid hb
            clear ht hb HTL HB7
            by_cases hjm : j < m
            · have d5 : decide ((j : Int) < (m : Int)) = true := decide_eq_true (by omega)
              have wj : IntKind.i64.wrap ((j : Int) + 1) = (j : Int) + 1 := IntWalk.i64_in _ (by omega)
              obtain ⟨gt, rfl, hgt, hct⟩ := HT8.out (by omega)
              obtain ⟨⟨y, y0⟩, y1⟩ := hct j hjm
              have i5 := cindex gt m cc j (j : Int) rfl hjm
              have HT9 := Lib.hid (HT8.out.set (g := gt) (j := j) 99)
              have HB9 := Lib.hid (HB8.out.setCell (p := ⟨gt, j * 2 + 1, none⟩) hgt (.int .i64 99))
              clear hct HT8 HB8
              go_wp2
              go_roundw
              case rel => exact ⟨j + 1, by omega, by go_num, HT9.out, HB9.out⟩
              case measure => simp [intOf]; omega
            · obtain rfl : j = m := by omega
              have d5 : decide ((j : Int) < (j : Int)) = false := decide_eq_false (by omega)
              have A8 := Lib.hid (A6.out.later HB8.out)
              clear HT8 HB8 A6
              go_wp2
              go_roundg (n - (k + 1))
              case measure => omega
              case rel => exact ⟨k + 1, C2, v4, by omega, rfl, by go_num, A8.out.d, A8.out.r, A8.out.hb⟩
    · obtain rfl : k = n := by omega
      have d2 : decide ((k : Int) < (k : Int)) = false := decide_eq_false (by omega)
      go_wp2_with fail
      refine (like_any w.heap.size p b w.heap.size q C v _ O0.out R0.out).mono ?_
      rintro x w3 ⟨rfl, hb⟩
      have HB3 := Lib.hid (stepB HB0.out hb)
      clear hb O0 R0 HB0
      go_wp2_with fail
      refine (works_any w3).mono ?_
      rintro x w4 ⟨rfl, hb⟩
      have HB4 := Lib.hid (stepB HB3.out hb)
      clear hb HB3
      go_wp2
      go_ret
      exact ⟨rfl, HB4.out⟩
theorem walk (A : Option Addr) (n c : Nat) (S : List Stp) (w : World) (hS : Steps w.heap.size w A n S) (hm : n ≤ maxLen) : Calls Try.prog 4 #[.slice A n c] w (fun e w' => e = .returned (.bool true) ∧ Below w.heap.size w w') := by
  by_cases hn : 300 < n
  · exact w_long A n c w hn
  · exact w_main A n c S w hS hn


set_option maxRecDepth 100000 in
theorem lifted (os : Os) (started : os.Started) (H : Type) (enc : TypeId × Value → H) :
    ReturnsInHanded {} Try.checked os 4 .any (Rows.deadPlaysSpec.pre6 enc Try.prog Try.f4 Rows.deadPlaysRow.domain false) (Rows.deadPlaysSpec.post enc Try.prog Try.f4 false true false false) := by
  refine returnsInHanded_of_change_sized (C := Try.checked) own started (by kernel_rfl) Try.func4
    (ChangeSpec.witness6 (enc := enc) (C := Try.checked) false ⟨#[], #[.slice none 0 0], []⟩ 8 (by kernel_rfl) (by kernel_rfl) (by kernel_rfl) (by kernel_rfl)) ?_
  intro W base args ds gs before hval0 hW _ hsz _
  have hval : ∀ (j : Nat) t v, Try.f4.params[j]? = some t → args[j]? = some v → Value.okWide Try.prog W .any base t v := hval0
  have hW' := hW
  obtain ⟨p, q, hA0, hV, hbef, _, _⟩ := hW
  have hA : DataW.TrodAll enc Try.prog W 0 (fun _ => true) true Try.f4.params.toList args.toList ds p := hA0
  rw [Try.params4] at hA hval
  obtain ⟨v0, vs0, d0, ds0, p0, q0, hargs, rfl, rfl, h0, r0⟩ := trodAll_cons hA
  obtain ⟨rfl, rfl, rfl⟩ := trodAll_nil r0
  obtain rfl : args = #[v0] := by cases args; simp_all
  obtain ⟨rfl, rfl⟩ := trodVars_none hV
  obtain ⟨A0, n0, c0, S0, rfl, st0, mx0⟩ := open_steps (hval 0 32 v0 rfl rfl) h0
  refine (walk A0 n0 c0 S0 W st0 mx0).mono fun e W' ⟨he, hb⟩ => ?_
  subst he
  exact ⟨_, rfl, law_post laidOut (of_decide_eq_true (by kernel_rfl)) rfl Try.underlying4 rfl rfl hW' hb⟩

theorem over : Rows.deadPlaysRow.holds Try.pinned (OpenSpec.ofChange Rows.deadPlaysSpec) :=
  OpenClaim.holds_of_wide 4 Try.f4 rfl rfl rfl rfl rfl rfl rfl ⟨rfl, rfl, rfl, rfl, rfl⟩ rfl rfl rfl rfl rfl (by kernel_rfl) Try.func4 (by kernel_rfl)
    (of_decide_eq_true (by kernel_rfl)) (by unfold Func.isWrapper; first | (rw [if_pos (by decide +kernel)]; kernel_rfl) | (rw [if_neg (by decide +kernel)]; exact ⟨rfl, rfl⟩))
    (fun os started H enc _ => lifted os started H enc)

end Go.Proofs.Ytlnfdcaljmfbjaa.deadPlays
namespace Go.Proofs.Ytlnfdcaljmfbjaa
theorem deadPlays_holds : Rows.DeadPlaysSaid := deadPlays.over
end Go.Proofs.Ytlnfdcaljmfbjaa
