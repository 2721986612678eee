/-
What the steps make is what the document says. For any steps.
-/
import Derived.Test.YtmkgipbepipjkaaDoorV
import Derived.Test.YtmkgipbepipjkaaDoorTie
import Derived.Test.YtmkgipbepipjkaaDoorCards
import Derived.SevenTiedAt
import Derived.Lay
import Derived.LaidLaws
import Derived.LaidHandle
namespace Go.Proofs.YtmkgipbepipjkaaDoor.statusPlays
open Go.ChangeShapes Go.WideShapes Go.ChangeAt Go.RowKit
set_option linter.unusedVariables false
set_option linter.unusedSimpArgs false
theorem own : ownKnob Tryd.prog.godebug = none := by kernel_rfl
theorem laidOut : laidOutB Tryd.prog = true := by kernel_rfl

set_option maxRecDepth 100000 in
set_option maxHeartbeats 4000000 in
theorem w_long (A : Option Addr) (n c : Nat) (S : List Stp) (w : World) (hT : TabAt w) (hn : 120 < n) : Calls Tryd.prog 4 #[.slice A n c] w (fun e w' => e = .returned (.bool true) ∧ Below w.heap.size w w') := by
  have d1 : decide ((120 : Int) < (n : Int)) = true := decide_eq_true (by omega)
  have HT := Lib.hid hT
  clear hT
  go_enter Tryd.func4, Tryd.ntmps4
  go_wp2_with fail
  refine (works_any w HT.out).mono ?_
  rintro x w1 ⟨rfl, hb⟩
  have HB1 := Lib.hid hb
  clear hb HT
  go_wp2
  go_ret
  exact ⟨rfl, HB1.out⟩
set_option maxRecDepth 100000 in
set_option maxHeartbeats 4000000 in
theorem w_main (A : Option Addr) (n c : Nat) (S : List Stp) (w : World) (hS : Steps w.heap.size w A n S) (hT : TabAt w) (hn : ¬ 120 < n) : Calls Tryd.prog 4 #[.slice A n c] w (fun e w' => e = .returned (.bool true) ∧ Below w.heap.size w w') := by
  have d1 : decide ((120 : Int) < (n : Int)) = false := decide_eq_false (by omega)
  have HT := Lib.hid hT
  have HS := Lib.hid hS
  have hpos := hT.lt
  clear hS hT
  go_enter Tryd.func4, Tryd.ntmps4
  go_wp2_with fail
  refine (new_any w).mono ?_
  rintro x w1 ⟨rfl, ho, hb⟩
  have hp1 := ho.plt
  have O1 : Hid (∀ p, w.heap.size = p → WrAt w1 w.heap.size p (.slice none 0 0) [] 0 0) := fun p e => e ▸ ho
  have T1 := Lib.hid (HT.out.later hb)
  have HB1 := Lib.hid hb
  generalize hp : w.heap.size = p at hp1
  have O1 := Lib.hid (O1.out p hp)
  have hpw : w.heap.size ≤ p := Nat.le_of_eq hp
  clear hb ho HT d1
  go_wp2_with fail
  refine (rnew_any w1).mono ?_
  rintro x w2 ⟨rfl, hr, hb⟩
  have R2 := Lib.hid (hr.base HB1.out.size)
  have O2 := Lib.hid (O1.out.later hb)
  have T2 := Lib.hid (T1.out.later hb)
  have HB2 := Lib.hid (stepB HB1.out hb)
  clear hb HB1 O1 T1
  generalize w1.heap.size = q at *
  clear hr hp1
  go_wp2
  clear hp
  go_loopw [5] (fun i wr => ∃ (k : Nat) (v u : Value) (L : List Wr) (la : Int) (en : Nat), k ≤ n ∧ i = .int .i64 k ∧ L.length ≤ k ∧ Good L la ∧ lastL L = la ∧ WrAt wr w.heap.size p v L la en ∧ RfAt wr w.heap.size q u L ∧ TabAt wr ∧ Below w.heap.size w wr) (fun i _ => n - (intOf i).toNat)
  case atStart => exact ⟨0, _, _, _, _, _, Nat.zero_le _, rfl, Nat.le_refl _, Good.nil, rfl, O2.out, R2.out, T2.out, HB2.out⟩
  case round =>
    obtain ⟨k, v, u, L, la, en, hk, rfl, hlk, hg, hll, ho, hr, ht, hb⟩ := hrel
    have HG := Lib.hid hg
    have HLL := Lib.hid hll
    have O0 := Lib.hid ho
    have R0 := Lib.hid hr
    have T0 := Lib.hid ht
    have HB0 := Lib.hid hb
    clear hg hll ho hr ht hb O2 R2 T2 HB2
    by_cases hlt : k < n
    · have d2 : decide ((k : Int) < (n : Int)) = true := decide_eq_true (by omega)
      have wk : IntKind.i64.wrap ((k : Int) + 1) = (k : Int) + 1 := IntWalk.i64_in _ (by omega)
      obtain ⟨g, off, rfl, hg, hcell⟩ := (HS.out.later HB0.out).2 (by omega)
      have i1 := sindex g off n c k (k : Int) rfl hlt
      clear hg hcell
      go_wp2_with fail
      refine (copy_any w.heap.size p v L la en wr O0.out (by omega)).mono ?_
      rintro x w1 ⟨vc, rfl, hoc, hb⟩
      have hpl := O0.out.plt
      have HAC := Lib.hid (copy_apart hoc.own O0.out.own (Nat.le_refl _))
      have HPC := Lib.hid (show wr.heap.size ≠ p from by omega)
      have C1 := Lib.hid (hoc.base HB0.out.size)
      have O1 := Lib.hid (O0.out.later hb)
      have R1 := Lib.hid (R0.out.later hb)
      have T1 := Lib.hid (T0.out.later hb)
      have HB1 := Lib.hid (stepB HB0.out hb)
      clear hb HB0 O0 R0 T0
      generalize wr.heap.size = pc at *
      clear hpl hoc
      go_wp2_with fail
      refine (rcopy_any w.heap.size q u L w1 R1.out HB1.out.size).mono ?_
      rintro x w2 ⟨rfl, hd, hb⟩
      have hql := R1.out.plt
      have HQD := Lib.hid (show w1.heap.size ≠ q from by omega)
      have D2 := Lib.hid hd
      have O2 := Lib.hid (O1.out.later hb)
      have R2 := Lib.hid (R1.out.later hb)
      have T2 := Lib.hid (T1.out.later hb)
      have C2 := Lib.hid (C1.out.later hb)
      have HB2 := Lib.hid (stepB HB1.out hb)
      clear hb HB1 O1 R1 T1 C1
      generalize w1.heap.size = pd at *
      clear hd hql
      obtain ⟨g', off', e', hg', hcell⟩ := (HS.out.later HB2.out).2 (by omega)
      cases e'
      obtain ⟨x0, x1, x2⟩ := hcell k hlt
      obtain ⟨⟨wh, wi, ts⟩, hx⟩ : ∃ x, S.getD k stp0 = x := ⟨_, rfl⟩
      rw [hx] at x0 x1 x2
      simp only at x0 x1 x2
      clear hcell hx hg'
      go_upto_region 9 with (fail)
      have hb : Below w2.heap.size w2 (w2.alloc (.cells #[.int .u8 wh, .int .i64 wi, .int .i64 ts] 36)) := (Below.refl _ _).alloc (Nat.le_refl _) _
      have Y3 := Lib.hid (Blk.new w2 #[.int .u8 wh, .int .i64 wi, .int .i64 ts] 36)
      have hql := R2.out.plt
      have HYQ := Lib.hid (show w2.heap.size ≠ q from by omega)
      have O3 := Lib.hid (O2.out.later hb)
      have R3 := Lib.hid (R2.out.later hb)
      have T3 := Lib.hid (T2.out.later hb)
      have C3 := Lib.hid (C2.out.later hb)
      have D3 := Lib.hid (D2.out.later hb)
      have HB3 := Lib.hid (stepB HB2.out hb)
      clear hb HB2 O2 R2 T2 C2 D2
      generalize w2.alloc (.cells #[.int .u8 wh, .int .i64 wi, .int .i64 ts] 36) = w3 at *
      generalize w2.heap.size = py at *
      clear hql x0 x1 x2 i1
      have z0 := Y3.out.cell 0
      have z1 := Y3.out.cell 1
      have z2 := Y3.out.cell 2
      simp only [List.getElem?_toArray, List.getElem?_cons_zero, List.getElem?_cons_succ] at z0 z1 z2
      go_wp2_with fail
      refine (do_any w.heap.size p v L la en wh wi ts w3 O3.out T3.out hpos HB3.out.size (by omega)).mono ?_
      rintro x w4 ⟨rfl, v4, e4, ho4, hf⟩
      have HD := do_d (L := L) wh wi ts O3.out.la0
      have HG4 := Lib.hid (HD.good HG.out O3.out.la0)
      have HL4 := Lib.hid (step_last HD HG.out O3.out.la0 HLL.out)
      have O4 := Lib.hid ho4
      have R4 := Lib.hid (R3.out.frW hf O3.out)
      have C4 := Lib.hid (C3.out.fr hf O3.out.blk O3.out.own HPC.out HAC.out)
      have D4 := Lib.hid (D3.out.frW hf O3.out)
      have T4 := Lib.hid (T3.out.fr O3.out hf hpos)
      have HB4 := Lib.hid (Fr.below HB3.out hf HB3.out.size O3.out.hp (fun k hk => (O3.out.own.lt k hk).1))
      have Y4 := Lib.hid (Blk.frW Y3.out hf O3.out (by decide) (by decide))
      clear ho4 hf HD O3 R3 C3 D3 T3 HB3 Y3 HAC HPC z0 z1 z2
      go_upto_region 11 with (fail)
      by_cases h0 : wh = 0
      · subst h0
        have hN : doN L 0 = (L.length : Int) + 1 := if_pos rfl
        have hE : doE L la 0 wi ts = 0 := if_pos rfl
        have hM : L ++ [wz] = doS L la 0 wi ts := (if_pos rfl).symm
        rw [hN, hE]
        have z0 := Y4.out.cell 0
        have z1 := Y4.out.cell 1
        have z2 := Y4.out.cell 2
        simp only [List.getElem?_toArray, List.getElem?_cons_zero, List.getElem?_cons_succ] at z0 z1 z2
        go_wp2_with fail
        refine (rbegin_any w.heap.size q u L w4 R4.out (by omega)).mono ?_
        rintro x w5 ⟨v5, rfl, hr, hf2⟩
        clear z0 z1 z2 hN hE
        have hlen := doS_len L la 0 wi ts
        rw [hM] at hr
        have O5 := Lib.hid (O4.out.frQ hf2 R4.out.blk (by decide) (by decide))
        have C5 := Lib.hid (C4.out.frQ hf2 R4.out.blk (by decide) (by decide))
        have D5 := Lib.hid (D4.out.frQ hf2 R4.out.blk (by decide) HQD.out)
        have T5 := Lib.hid (T4.out.frQ hf2 (by have := R4.out.hp; omega))
        have HB5 := Lib.hid (Fr.below HB4.out hf2 HB4.out.size R4.out.hp (fun k hk => by cases hk))
        have R5 := Lib.hid hr
        generalize doS L la 0 wi ts = M at *
        generalize doT L la 0 wi ts = lb at *
        have hml : M.length ≤ k + 1 := by rw [hlen]; split <;> omega
        clear hr hf2 hM hlen O4 R4 C4 D4 T4 HB4
        go_wp2_with fail
        refine (like_any w.heap.size p w.heap.size q v4 v5 M lb e4 w5 O5.out R5.out (by omega) HL4.out).mono ?_
        rintro x w6 ⟨rfl, hb⟩
        have O6 := Lib.hid (O5.out.later hb)
        have R6 := Lib.hid (R5.out.later hb)
        have T6 := Lib.hid (T5.out.later hb)
        have C6 := Lib.hid (C5.out.later hb)
        have D6 := Lib.hid (D5.out.later hb)
        have HB6 := Lib.hid (stepB HB5.out hb)
        clear hb HB5 O5 R5 T5 C5 D5
        go_wp2_with fail
        refine (like_any w.heap.size pc w.heap.size pd vc u L la en _ C6.out D6.out (by omega) HLL.out).mono ?_
        rintro x w7 ⟨rfl, hb⟩
        clear C6 D6
        have O7 := Lib.hid (O6.out.later hb)
        have R7 := Lib.hid (R6.out.later hb)
        have T7 := Lib.hid (T6.out.later hb)
        have HB7 := Lib.hid (stepB HB6.out hb)
        clear hb HB6 O6 R6 T6
        go_wp2_with fail
        refine (busy_any w.heap.size p v4 M lb e4 _ O7.out (by omega)).mono ?_
        rintro x w8 ⟨vb, rfl, hbo, hb⟩
        have hbl := busyOf_len (seqE M 0 M.length)
        rw [seqE_len] at hbl
        change (busyL M).length ≤ M.length at hbl
        have HW8 := Lib.hid (hbo.base HB7.out.size)
        obtain ⟨Ab, cb, rfl, _⟩ := Ow.sl hbo
        clear hbo
        have O8 := Lib.hid (O7.out.later hb)
        have R8 := Lib.hid (R7.out.later hb)
        have T8 := Lib.hid (T7.out.later hb)
        have HB8 := Lib.hid (stepB HB7.out hb)
        clear hb HB7 O7 R7 T7
        generalize busyL M = bs at *
        obtain ⟨m, hm⟩ : ∃ m, bs.length = m := ⟨_, rfl⟩
        rw [hm] at HW8 hbl ⊢
        clear hm
        go_wp2
        go_loopw [14] (fun i wr2 => ∃ (j : Nat) (xs : List Int), j ≤ m ∧ i = .int .i64 j ∧ Ow iv wr2 w.heap.size 3 (.slice Ab m cb) m xs ∧ WrAt wr2 w.heap.size p v4 M lb e4 ∧ RfAt wr2 w.heap.size q v5 M ∧ TabAt wr2 ∧ Below w.heap.size w wr2) (fun i _ => m - (intOf i).toNat)
        case atStart => exact ⟨0, _, Nat.zero_le _, rfl, HW8.out, O8.out, R8.out, T8.out, HB8.out⟩
        case round =>
          obtain ⟨j, xs, hj, rfl, hw, ho, hr, ht, hb⟩ := hrel
          have HW9 := Lib.hid hw
          have O9 := Lib.hid ho
          have R9 := Lib.hid hr
          have T9 := Lib.hid ht
          have HB9 := Lib.hid hb
          clear hw ho hr ht hb HW8 O8 R8 T8 HB8
          by_cases hjm : j < m
          · have d5 : decide ((j : Int) < (m : Int)) = true := decide_eq_true (by omega)
            have wj : IntKind.i64.wrap ((j : Int) + 1) = (j : Int) + 1 := IntWalk.i64_in _ (by omega)
            obtain ⟨gb, xv, rfl, hgb, ⟨cur, hblk⟩, z0, z1⟩ := ow_at HW9.out hjm
            have i5 := findex0 gb m cb j (j : Int) rfl hjm
            have HW10 := Lib.hid (ow_set (j := j) HW9.out (-7))
            have O10 := Lib.hid (O9.out.frQ (Fr.setp _ gb j (.int .i64 (-7)) nilv) hblk (by decide) (by decide))
            have R10 := Lib.hid (R9.out.frI (Fr.setp _ gb j (.int .i64 (-7)) nilv) hblk (by decide) (by decide))
            have T10 := Lib.hid (T9.out.frQ (Fr.setp _ gb j (.int .i64 (-7)) nilv) (by omega))
            have HB10 := Lib.hid (HB9.out.setCell (p := ⟨gb, j, none⟩) hgb (.int .i64 (-7)))
            clear hblk HW9 O9 R9 T9 HB9
            go_wp2
            go_roundw
            case rel => exact ⟨j + 1, _, by omega, by go_num, HW10.out, O10.out, R10.out, T10.out, HB10.out⟩
            case measure => simp [intOf]; omega
          · obtain rfl : j = m := by omega
            have d5 : decide ((j : Int) < (j : Int)) = false := decide_eq_false (by omega)
            go_wp2
            go_roundw
            case rel => exact ⟨k + 1, v4, v5, M, lb, e4, by omega, by go_num, hml, HG4.out, HL4.out, O9.out, R9.out, T9.out, HB9.out⟩
            case measure => simp [intOf]; omega
      by_cases h1 : wh = 1
      · subst h1
        have hN : doN L 1 = 0 := rfl
        have hE : doE L la 1 wi ts = turnE L la wi 3 ts := rfl
        have hM : turnS L la wi 3 ts = doS L la 1 wi ts := rfl
        have HC := Lib.hid (rcommit_any w.heap.size q u L wi ts w4 R4.out (by omega))
        rw [HLL.out] at HC
        rw [hN, hE]
        clear h0
        have z0 := Y4.out.cell 0
        have z1 := Y4.out.cell 1
        have z2 := Y4.out.cell 2
        simp only [List.getElem?_toArray, List.getElem?_cons_zero, List.getElem?_cons_succ] at z0 z1 z2
        go_wp2_with fail
        refine (HC.out).mono ?_
        rintro x w5 ⟨rfl, v5, hr, hf2⟩
        generalize turnE L la wi 3 ts = ee at *
        clear z0 z1 z2 hN hE HC
        have hlen := doS_len L la 1 wi ts
        rw [hM] at hr
        have O5 := Lib.hid (O4.out.frQ hf2 R4.out.blk (by decide) (by decide))
        have C5 := Lib.hid (C4.out.frQ hf2 R4.out.blk (by decide) (by decide))
        have D5 := Lib.hid (D4.out.frQ hf2 R4.out.blk (by decide) HQD.out)
        have T5 := Lib.hid (T4.out.frQ hf2 (by have := R4.out.hp; omega))
        have HB5 := Lib.hid (Fr.below HB4.out hf2 HB4.out.size R4.out.hp (fun k hk => by cases hk))
        have R5 := Lib.hid hr
        generalize doS L la 1 wi ts = M at *
        generalize doT L la 1 wi ts = lb at *
        have hml : M.length ≤ k + 1 := by rw [hlen]; split <;> omega
        clear hr hf2 hM hlen O4 R4 C4 D4 T4 HB4
        go_wp2_with fail
        refine (like_any w.heap.size p w.heap.size q v4 v5 M lb e4 w5 O5.out R5.out (by omega) HL4.out).mono ?_
        rintro x w6 ⟨rfl, hb⟩
        have O6 := Lib.hid (O5.out.later hb)
        have R6 := Lib.hid (R5.out.later hb)
        have T6 := Lib.hid (T5.out.later hb)
        have C6 := Lib.hid (C5.out.later hb)
        have D6 := Lib.hid (D5.out.later hb)
        have HB6 := Lib.hid (stepB HB5.out hb)
        clear hb HB5 O5 R5 T5 C5 D5
        go_wp2_with fail
        refine (like_any w.heap.size pc w.heap.size pd vc u L la en _ C6.out D6.out (by omega) HLL.out).mono ?_
        rintro x w7 ⟨rfl, hb⟩
        clear C6 D6
        have O7 := Lib.hid (O6.out.later hb)
        have R7 := Lib.hid (R6.out.later hb)
        have T7 := Lib.hid (T6.out.later hb)
        have HB7 := Lib.hid (stepB HB6.out hb)
        clear hb HB6 O6 R6 T6
        go_wp2_with fail
        refine (busy_any w.heap.size p v4 M lb e4 _ O7.out (by omega)).mono ?_
        rintro x w8 ⟨vb, rfl, hbo, hb⟩
        have hbl := busyOf_len (seqE M 0 M.length)
        rw [seqE_len] at hbl
        change (busyL M).length ≤ M.length at hbl
        have HW8 := Lib.hid (hbo.base HB7.out.size)
        obtain ⟨Ab, cb, rfl, _⟩ := Ow.sl hbo
        clear hbo
        have O8 := Lib.hid (O7.out.later hb)
        have R8 := Lib.hid (R7.out.later hb)
        have T8 := Lib.hid (T7.out.later hb)
        have HB8 := Lib.hid (stepB HB7.out hb)
        clear hb HB7 O7 R7 T7
        generalize busyL M = bs at *
        obtain ⟨m, hm⟩ : ∃ m, bs.length = m := ⟨_, rfl⟩
        rw [hm] at HW8 hbl ⊢
        clear hm
        go_wp2
        go_loopw [14] (fun i wr2 => ∃ (j : Nat) (xs : List Int), j ≤ m ∧ i = .int .i64 j ∧ Ow iv wr2 w.heap.size 3 (.slice Ab m cb) m xs ∧ WrAt wr2 w.heap.size p v4 M lb e4 ∧ RfAt wr2 w.heap.size q v5 M ∧ TabAt wr2 ∧ Below w.heap.size w wr2) (fun i _ => m - (intOf i).toNat)
        case atStart => exact ⟨0, _, Nat.zero_le _, rfl, HW8.out, O8.out, R8.out, T8.out, HB8.out⟩
        case round =>
          obtain ⟨j, xs, hj, rfl, hw, ho, hr, ht, hb⟩ := hrel
          have HW9 := Lib.hid hw
          have O9 := Lib.hid ho
          have R9 := Lib.hid hr
          have T9 := Lib.hid ht
          have HB9 := Lib.hid hb
          clear hw ho hr ht hb HW8 O8 R8 T8 HB8
          by_cases hjm : j < m
          · have d5 : decide ((j : Int) < (m : Int)) = true := decide_eq_true (by omega)
            have wj : IntKind.i64.wrap ((j : Int) + 1) = (j : Int) + 1 := IntWalk.i64_in _ (by omega)
            obtain ⟨gb, xv, rfl, hgb, ⟨cur, hblk⟩, z0, z1⟩ := ow_at HW9.out hjm
            have i5 := findex0 gb m cb j (j : Int) rfl hjm
            have HW10 := Lib.hid (ow_set (j := j) HW9.out (-7))
            have O10 := Lib.hid (O9.out.frQ (Fr.setp _ gb j (.int .i64 (-7)) nilv) hblk (by decide) (by decide))
            have R10 := Lib.hid (R9.out.frI (Fr.setp _ gb j (.int .i64 (-7)) nilv) hblk (by decide) (by decide))
            have T10 := Lib.hid (T9.out.frQ (Fr.setp _ gb j (.int .i64 (-7)) nilv) (by omega))
            have HB10 := Lib.hid (HB9.out.setCell (p := ⟨gb, j, none⟩) hgb (.int .i64 (-7)))
            clear hblk HW9 O9 R9 T9 HB9
            go_wp2
            go_roundw
            case rel => exact ⟨j + 1, _, by omega, by go_num, HW10.out, O10.out, R10.out, T10.out, HB10.out⟩
            case measure => simp [intOf]; omega
          · obtain rfl : j = m := by omega
            have d5 : decide ((j : Int) < (j : Int)) = false := decide_eq_false (by omega)
            go_wp2
            go_roundw
            case rel => exact ⟨k + 1, v4, v5, M, lb, e4, by omega, by go_num, hml, HG4.out, HL4.out, O9.out, R9.out, T9.out, HB9.out⟩
            case measure => simp [intOf]; omega
      by_cases h2 : wh = 2
      · subst h2
        have hN : doN L 2 = 0 := rfl
        have hE : doE L la 2 wi ts = turnE L la wi 2 0 := rfl
        have hM : turnS L la wi 2 0 = doS L la 2 wi ts := rfl
        have HC := Lib.hid (rfall_any w.heap.size q u L la wi w4 R4.out (by omega))
        rw [hN, hE]
        clear h0 h1
        have z0 := Y4.out.cell 0
        have z1 := Y4.out.cell 1
        have z2 := Y4.out.cell 2
        simp only [List.getElem?_toArray, List.getElem?_cons_zero, List.getElem?_cons_succ] at z0 z1 z2
        go_wp2_with fail
        refine (HC.out).mono ?_
        rintro x w5 ⟨rfl, v5, hr, hf2⟩
        generalize turnE L la wi 2 0 = ee at *
        clear z0 z1 z2 hN hE HC
        have hlen := doS_len L la 2 wi ts
        rw [hM] at hr
        have O5 := Lib.hid (O4.out.frQ hf2 R4.out.blk (by decide) (by decide))
        have C5 := Lib.hid (C4.out.frQ hf2 R4.out.blk (by decide) (by decide))
        have D5 := Lib.hid (D4.out.frQ hf2 R4.out.blk (by decide) HQD.out)
        have T5 := Lib.hid (T4.out.frQ hf2 (by have := R4.out.hp; omega))
        have HB5 := Lib.hid (Fr.below HB4.out hf2 HB4.out.size R4.out.hp (fun k hk => by cases hk))
        have R5 := Lib.hid hr
        generalize doS L la 2 wi ts = M at *
        generalize doT L la 2 wi ts = lb at *
        have hml : M.length ≤ k + 1 := by rw [hlen]; split <;> omega
        clear hr hf2 hM hlen O4 R4 C4 D4 T4 HB4
        go_wp2_with fail
        refine (like_any w.heap.size p w.heap.size q v4 v5 M lb e4 w5 O5.out R5.out (by omega) HL4.out).mono ?_
        rintro x w6 ⟨rfl, hb⟩
        have O6 := Lib.hid (O5.out.later hb)
        have R6 := Lib.hid (R5.out.later hb)
        have T6 := Lib.hid (T5.out.later hb)
        have C6 := Lib.hid (C5.out.later hb)
        have D6 := Lib.hid (D5.out.later hb)
        have HB6 := Lib.hid (stepB HB5.out hb)
        clear hb HB5 O5 R5 T5 C5 D5
        go_wp2_with fail
        refine (like_any w.heap.size pc w.heap.size pd vc u L la en _ C6.out D6.out (by omega) HLL.out).mono ?_
        rintro x w7 ⟨rfl, hb⟩
        clear C6 D6
        have O7 := Lib.hid (O6.out.later hb)
        have R7 := Lib.hid (R6.out.later hb)
        have T7 := Lib.hid (T6.out.later hb)
        have HB7 := Lib.hid (stepB HB6.out hb)
        clear hb HB6 O6 R6 T6
        go_wp2_with fail
        refine (busy_any w.heap.size p v4 M lb e4 _ O7.out (by omega)).mono ?_
        rintro x w8 ⟨vb, rfl, hbo, hb⟩
        have hbl := busyOf_len (seqE M 0 M.length)
        rw [seqE_len] at hbl
        change (busyL M).length ≤ M.length at hbl
        have HW8 := Lib.hid (hbo.base HB7.out.size)
        obtain ⟨Ab, cb, rfl, _⟩ := Ow.sl hbo
        clear hbo
        have O8 := Lib.hid (O7.out.later hb)
        have R8 := Lib.hid (R7.out.later hb)
        have T8 := Lib.hid (T7.out.later hb)
        have HB8 := Lib.hid (stepB HB7.out hb)
        clear hb HB7 O7 R7 T7
        generalize busyL M = bs at *
        obtain ⟨m, hm⟩ : ∃ m, bs.length = m := ⟨_, rfl⟩
        rw [hm] at HW8 hbl ⊢
        clear hm
        go_wp2
        go_loopw [14] (fun i wr2 => ∃ (j : Nat) (xs : List Int), j ≤ m ∧ i = .int .i64 j ∧ Ow iv wr2 w.heap.size 3 (.slice Ab m cb) m xs ∧ WrAt wr2 w.heap.size p v4 M lb e4 ∧ RfAt wr2 w.heap.size q v5 M ∧ TabAt wr2 ∧ Below w.heap.size w wr2) (fun i _ => m - (intOf i).toNat)
        case atStart => exact ⟨0, _, Nat.zero_le _, rfl, HW8.out, O8.out, R8.out, T8.out, HB8.out⟩
        case round =>
          obtain ⟨j, xs, hj, rfl, hw, ho, hr, ht, hb⟩ := hrel
          have HW9 := Lib.hid hw
          have O9 := Lib.hid ho
          have R9 := Lib.hid hr
          have T9 := Lib.hid ht
          have HB9 := Lib.hid hb
          clear hw ho hr ht hb HW8 O8 R8 T8 HB8
          by_cases hjm : j < m
          · have d5 : decide ((j : Int) < (m : Int)) = true := decide_eq_true (by omega)
            have wj : IntKind.i64.wrap ((j : Int) + 1) = (j : Int) + 1 := IntWalk.i64_in _ (by omega)
            obtain ⟨gb, xv, rfl, hgb, ⟨cur, hblk⟩, z0, z1⟩ := ow_at HW9.out hjm
            have i5 := findex0 gb m cb j (j : Int) rfl hjm
            have HW10 := Lib.hid (ow_set (j := j) HW9.out (-7))
            have O10 := Lib.hid (O9.out.frQ (Fr.setp _ gb j (.int .i64 (-7)) nilv) hblk (by decide) (by decide))
            have R10 := Lib.hid (R9.out.frI (Fr.setp _ gb j (.int .i64 (-7)) nilv) hblk (by decide) (by decide))
            have T10 := Lib.hid (T9.out.frQ (Fr.setp _ gb j (.int .i64 (-7)) nilv) (by omega))
            have HB10 := Lib.hid (HB9.out.setCell (p := ⟨gb, j, none⟩) hgb (.int .i64 (-7)))
            clear hblk HW9 O9 R9 T9 HB9
            go_wp2
            go_roundw
            case rel => exact ⟨j + 1, _, by omega, by go_num, HW10.out, O10.out, R10.out, T10.out, HB10.out⟩
            case measure => simp [intOf]; omega
          · obtain rfl : j = m := by omega
            have d5 : decide ((j : Int) < (j : Int)) = false := decide_eq_false (by omega)
            go_wp2
            go_roundw
            case rel => exact ⟨k + 1, v4, v5, M, lb, e4, by omega, by go_num, hml, HG4.out, HL4.out, O9.out, R9.out, T9.out, HB9.out⟩
            case measure => simp [intOf]; omega
      by_cases h3 : wh = 3
      · subst h3
        have hN : doN L 3 = 0 := rfl
        have hE : doE L la 3 wi ts = turnE L la wi 4 0 := rfl
        have hM : turnS L la wi 4 0 = doS L la 3 wi ts := rfl
        have HC := Lib.hid (rfallen_any w.heap.size q u L la wi w4 R4.out (by omega))
        rw [hN, hE]
        clear h0 h1 h2
        have z0 := Y4.out.cell 0
        have z1 := Y4.out.cell 1
        have z2 := Y4.out.cell 2
        simp only [List.getElem?_toArray, List.getElem?_cons_zero, List.getElem?_cons_succ] at z0 z1 z2
        go_wp2_with fail
        refine (HC.out).mono ?_
        rintro x w5 ⟨rfl, v5, hr, hf2⟩
        generalize turnE L la wi 4 0 = ee at *
        clear z0 z1 z2 hN hE HC
        have hlen := doS_len L la 3 wi ts
        rw [hM] at hr
        have O5 := Lib.hid (O4.out.frQ hf2 R4.out.blk (by decide) (by decide))
        have C5 := Lib.hid (C4.out.frQ hf2 R4.out.blk (by decide) (by decide))
        have D5 := Lib.hid (D4.out.frQ hf2 R4.out.blk (by decide) HQD.out)
        have T5 := Lib.hid (T4.out.frQ hf2 (by have := R4.out.hp; omega))
        have HB5 := Lib.hid (Fr.below HB4.out hf2 HB4.out.size R4.out.hp (fun k hk => by cases hk))
        have R5 := Lib.hid hr
        generalize doS L la 3 wi ts = M at *
        generalize doT L la 3 wi ts = lb at *
        have hml : M.length ≤ k + 1 := by rw [hlen]; split <;> omega
        clear hr hf2 hM hlen O4 R4 C4 D4 T4 HB4
        go_wp2_with fail
        refine (like_any w.heap.size p w.heap.size q v4 v5 M lb e4 w5 O5.out R5.out (by omega) HL4.out).mono ?_
        rintro x w6 ⟨rfl, hb⟩
        have O6 := Lib.hid (O5.out.later hb)
        have R6 := Lib.hid (R5.out.later hb)
        have T6 := Lib.hid (T5.out.later hb)
        have C6 := Lib.hid (C5.out.later hb)
        have D6 := Lib.hid (D5.out.later hb)
        have HB6 := Lib.hid (stepB HB5.out hb)
        clear hb HB5 O5 R5 T5 C5 D5
        go_wp2_with fail
        refine (like_any w.heap.size pc w.heap.size pd vc u L la en _ C6.out D6.out (by omega) HLL.out).mono ?_
        rintro x w7 ⟨rfl, hb⟩
        clear C6 D6
        have O7 := Lib.hid (O6.out.later hb)
        have R7 := Lib.hid (R6.out.later hb)
        have T7 := Lib.hid (T6.out.later hb)
        have HB7 := Lib.hid (stepB HB6.out hb)
        clear hb HB6 O6 R6 T6
        go_wp2_with fail
        refine (busy_any w.heap.size p v4 M lb e4 _ O7.out (by omega)).mono ?_
        rintro x w8 ⟨vb, rfl, hbo, hb⟩
        have hbl := busyOf_len (seqE M 0 M.length)
        rw [seqE_len] at hbl
        change (busyL M).length ≤ M.length at hbl
        have HW8 := Lib.hid (hbo.base HB7.out.size)
        obtain ⟨Ab, cb, rfl, _⟩ := Ow.sl hbo
        clear hbo
        have O8 := Lib.hid (O7.out.later hb)
        have R8 := Lib.hid (R7.out.later hb)
        have T8 := Lib.hid (T7.out.later hb)
        have HB8 := Lib.hid (stepB HB7.out hb)
        clear hb HB7 O7 R7 T7
        generalize busyL M = bs at *
        obtain ⟨m, hm⟩ : ∃ m, bs.length = m := ⟨_, rfl⟩
        rw [hm] at HW8 hbl ⊢
        clear hm
        go_wp2
        go_loopw [14] (fun i wr2 => ∃ (j : Nat) (xs : List Int), j ≤ m ∧ i = .int .i64 j ∧ Ow iv wr2 w.heap.size 3 (.slice Ab m cb) m xs ∧ WrAt wr2 w.heap.size p v4 M lb e4 ∧ RfAt wr2 w.heap.size q v5 M ∧ TabAt wr2 ∧ Below w.heap.size w wr2) (fun i _ => m - (intOf i).toNat)
        case atStart => exact ⟨0, _, Nat.zero_le _, rfl, HW8.out, O8.out, R8.out, T8.out, HB8.out⟩
        case round =>
          obtain ⟨j, xs, hj, rfl, hw, ho, hr, ht, hb⟩ := hrel
          have HW9 := Lib.hid hw
          have O9 := Lib.hid ho
          have R9 := Lib.hid hr
          have T9 := Lib.hid ht
          have HB9 := Lib.hid hb
          clear hw ho hr ht hb HW8 O8 R8 T8 HB8
          by_cases hjm : j < m
          · have d5 : decide ((j : Int) < (m : Int)) = true := decide_eq_true (by omega)
            have wj : IntKind.i64.wrap ((j : Int) + 1) = (j : Int) + 1 := IntWalk.i64_in _ (by omega)
            obtain ⟨gb, xv, rfl, hgb, ⟨cur, hblk⟩, z0, z1⟩ := ow_at HW9.out hjm
            have i5 := findex0 gb m cb j (j : Int) rfl hjm
            have HW10 := Lib.hid (ow_set (j := j) HW9.out (-7))
            have O10 := Lib.hid (O9.out.frQ (Fr.setp _ gb j (.int .i64 (-7)) nilv) hblk (by decide) (by decide))
            have R10 := Lib.hid (R9.out.frI (Fr.setp _ gb j (.int .i64 (-7)) nilv) hblk (by decide) (by decide))
            have T10 := Lib.hid (T9.out.frQ (Fr.setp _ gb j (.int .i64 (-7)) nilv) (by omega))
            have HB10 := Lib.hid (HB9.out.setCell (p := ⟨gb, j, none⟩) hgb (.int .i64 (-7)))
            clear hblk HW9 O9 R9 T9 HB9
            go_wp2
            go_roundw
            case rel => exact ⟨j + 1, _, by omega, by go_num, HW10.out, O10.out, R10.out, T10.out, HB10.out⟩
            case measure => simp [intOf]; omega
          · obtain rfl : j = m := by omega
            have d5 : decide ((j : Int) < (j : Int)) = false := decide_eq_false (by omega)
            go_wp2
            go_roundw
            case rel => exact ⟨k + 1, v4, v5, M, lb, e4, by omega, by go_num, hml, HG4.out, HL4.out, O9.out, R9.out, T9.out, HB9.out⟩
            case measure => simp [intOf]; omega
      have hN : doN L wh = 0 := if_neg h0
      have hE : doE L la wh wi ts = turnE L la wi 3 (la + 1) := by unfold doE; rw [if_neg h0, if_neg h1, if_neg h2, if_neg h3]
      have hM : turnS L la wi 3 (la + 1) = doS L la wh wi ts := by unfold doS; rw [if_neg h0, if_neg h1, if_neg h2, if_neg h3]
      have HC := Lib.hid (rcommit_any w.heap.size q u L wi (la + 1) w4.drew (R4.out.later (Aft.drew0 w4)) (by omega))
      have CL := Lib.hid (rlast_any w.heap.size q u L w4.drew (R4.out.later (Aft.drew0 w4)) (by omega))
      rw [HLL.out] at HC CL
      rw [hN, hE]
      have n0 : (wh == 0) = false := ieq_no h0
      have n1 : (wh == 1) = false := ieq_no h1
      have n2 : (wh == 2) = false := ieq_no h2
      have n3 : (wh == 3) = false := ieq_no h3
      have hla0 := C4.out.la0
      have hla1 := C4.out.la1
      obtain ⟨ee, hee⟩ : ∃ ee, turnE L la wi 3 (la + 1) = ee := ⟨_, rfl⟩
      have HEE := Lib.hid hee
      rw [hee]
      have wl : IntKind.i64.wrap (la + 1) = la + 1 := IntWalk.i64_in _ (by omega)
      have wl2 : wrap64 (la + 1) = la + 1 := by unfold wrap64; omega
      have hqy : py ≠ q := HYQ.out
      clear h0 h1 h2 h3 hN hE hee
      have z0 := Y4.out.cell 0
      have z1 := Y4.out.cell 1
      have z2 := Y4.out.cell 2
      simp only [List.getElem?_toArray, List.getElem?_cons_zero, List.getElem?_cons_succ] at z0 z1 z2
      go_wp2_with fail
      refine wp_region_noPanic ?_
      have S0 : Hid (w4.drew.cell? ⟨py, 1, none⟩ = some (.int .i64 wi)) := cell_later z1 (Aft.drew0 w4)
      clear z0 z1 z2
      refine wp_region_held_drew (S := fun W => W.cell? ⟨py, 1, none⟩ = some (.int .i64 wi)) (by kernel_rfl) S0.out (fun hHeld => ?_)
      refine wpAnyH_take (i := 0) (oi := { dst := some 43, op := Op.move (Operand.tmp 4), type := 33, pos := "law.go:77", after := #[], guard := none }) (v := ?_) rfl (by kernel_rfl) (by kernel_rfl) (by kernel_rfl) (fun _ _ _ h => h) (Or.inl ⟨by rfl, ?_⟩) (by assumption) ?_
      rotate_left
      · intro W hSw
        clear hSw
        go_simp
        try with_reducible rfl
      simp only [Act.put, List.setIfInBounds_toArray, List.set_cons_zero, List.set_cons_succ]
      refine wpAnyH_take (i := 1) (oi := { dst := some 44, op := Op.fieldAddr 36 (Operand.tmp 8) 1, type := 0, pos := "law.go:77", after := #[], guard := none }) (v := ?_) rfl (by kernel_rfl) (by kernel_rfl) (by kernel_rfl) (fun _ _ _ h => h) (Or.inl ⟨by rfl, ?_⟩) (by assumption) ?_
      rotate_left
      · intro W hSw
        clear hSw
        go_simp
        try with_reducible rfl
      simp only [Act.put, List.setIfInBounds_toArray, List.set_cons_zero, List.set_cons_succ]
      refine wpAnyH_take (i := 2) (oi := { dst := some 45, op := Op.load 3 (Operand.tmp 44), type := 3, pos := "law.go:77", after := #[{ on := 1, ground := Ground.data }], guard := none }) (v := ?_) rfl (by kernel_rfl) (by kernel_rfl) (by kernel_rfl) (fun _ _ _ h => h) (Or.inl ⟨by rfl, ?_⟩) (by assumption) ?_
      rotate_left
      · intro W hSw
        have kc := hSw
        go_simp
        try with_reducible rfl
      simp only [Act.put, List.setIfInBounds_toArray, List.set_cons_zero, List.set_cons_succ]
      refine wpAnyH_take (i := 3) (oi := { dst := some 46, op := Op.move (Operand.tmp 4), type := 33, pos := "law.go:77", after := #[], guard := none }) (v := ?_) rfl (by kernel_rfl) (by kernel_rfl) (by kernel_rfl) (fun _ _ _ h => h) (Or.inl ⟨by rfl, ?_⟩) (by assumption) ?_
      rotate_left
      · intro W hSw
        clear hSw
        go_simp
        try with_reducible rfl
      simp only [Act.put, List.setIfInBounds_toArray, List.set_cons_zero, List.set_cons_succ]
      refine wpAnyH_ready (rs := [4]) (by kernel_rfl) (by simp) (AllReadyH.cons (o := { dst := some 47, op := Op.call { callee := Callee.value (Operand.func 27), args := #[Operand.tmp 46], argTypes := #[33] }, type := 3, pos := "law.go:77", after := #[{ on := 3, ground := Ground.data }], guard := none }) rfl (fun K hK => ?_) AllReadyH.nil)
      refine step_callw (by rfl) 27 #[.pointer (some ⟨q, 0, none⟩)] (by go_simp) ?_
      refine (CL.out).mono ?_
      rintro z W' ⟨rfl, rfl⟩
      refine ⟨_, rfl, hK.out _ _ S0.out (fun hHeld2 => ?_)⟩
      clear hK K hHeld CL
      simp only [Act.put, List.setIfInBounds_toArray, List.set_cons_zero, List.set_cons_succ]
      refine wpAnyH_take (i := 5) (oi := { dst := some 48, op := Op.binOp BinOp.add 3 (Operand.tmp 47) (Operand.const (Value.int IntKind.i64 1)) 3, type := 3, pos := "law.go:77", after := #[{ on := 4, ground := Ground.data }], guard := none }) (v := ?_) rfl (by kernel_rfl) (by kernel_rfl) (by kernel_rfl) (fun _ _ _ h => h) (Or.inl ⟨by rfl, ?_⟩) (by assumption) ?_
      rotate_left
      · intro W hSw
        clear hSw
        go_simp
        try with_reducible rfl
      simp only [Act.put, List.setIfInBounds_toArray, List.set_cons_zero, List.set_cons_succ]
      refine wpAnyH_ready (rs := [6]) (by kernel_rfl) (by simp) (AllReadyH.cons (o := { dst := some 49, op := Op.call { callee := Callee.value (Operand.func 24), args := #[Operand.tmp 43, Operand.tmp 45, Operand.tmp 48], argTypes := #[33, 3, 3] }, type := 25, pos := "law.go:77", after := #[{ on := 0, ground := Ground.data }, { on := 2, ground := Ground.data }, { on := 5, ground := Ground.data }, { on := 4, ground := Ground.chain }], guard := none }) rfl (fun K hK => ?_) AllReadyH.nil)
      refine step_callw (by rfl) 24 #[.pointer (some ⟨q, 0, none⟩), .int .i64 wi, .int .i64 (la + 1)] (by go_simp) ?_
      refine (HC.out).mono ?_
      rintro z w5 ⟨rfl, v5, hr, hf3⟩
      rw [HEE.out]
      have S2 : w5.cell? ⟨py, 1, none⟩ = some (.int .i64 wi) := by
        rw [← S0.out]
        exact World.cell?_of_block (a := ⟨py, 1, none⟩) (hf3.block _ (lt_of_cell S0.out) hqy (fun e => by cases e))
      have hf2 := (Fr.of_below (p := q) (v := nilv) (Aft.drew0 w4)).trans hf3
      refine ⟨_, rfl, hK.out _ _ S2 (fun hHeld3 => ?_)⟩
      clear hK K hHeld2 HC hf3 S2 S0
      simp only [Act.put, List.setIfInBounds_toArray, List.set_cons_zero, List.set_cons_succ]
      refine wpAnyH_take (i := 7) (oi := { dst := some 12, op := Op.assign (Operand.tmp 49), type := 25, pos := "law.go:77", after := #[{ on := 6, ground := Ground.data }, { on := 6, ground := Ground.chain }, { on := 0, ground := Ground.phase }, { on := 1, ground := Ground.phase }, { on := 2, ground := Ground.phase }, { on := 3, ground := Ground.phase }, { on := 4, ground := Ground.phase }, { on := 5, ground := Ground.phase }, { on := 6, ground := Ground.phase }], guard := none }) (v := ?_) rfl (by kernel_rfl) (by kernel_rfl) (by kernel_rfl) (fun _ _ _ h => h) (Or.inl ⟨by rfl, ?_⟩) (by assumption) ?_
      rotate_left
      · intro W hSw
        clear hSw
        go_simp
        try with_reducible rfl
      simp only [Act.put, List.setIfInBounds_toArray, List.set_cons_zero, List.set_cons_succ]
      refine wpAnyH_done (by kernel_rfl) (NoPanic.normal ?_) _
      clear hHeld3
      have hlen := doS_len L la wh wi ts
      rw [hM] at hr
      have O5 := Lib.hid (O4.out.frQ hf2 R4.out.blk (by decide) (by decide))
      have C5 := Lib.hid (C4.out.frQ hf2 R4.out.blk (by decide) (by decide))
      have D5 := Lib.hid (D4.out.frQ hf2 R4.out.blk (by decide) HQD.out)
      have T5 := Lib.hid (T4.out.frQ hf2 (by have := R4.out.hp; omega))
      have HB5 := Lib.hid (Fr.below HB4.out hf2 HB4.out.size R4.out.hp (fun k hk => by cases hk))
      have R5 := Lib.hid hr
      generalize doS L la wh wi ts = M at *
      generalize doT L la wh wi ts = lb at *
      have hml : M.length ≤ k + 1 := by rw [hlen]; split <;> omega
      clear hr hf2 hM hlen O4 R4 C4 D4 T4 HB4
      go_wp2_with fail
      refine (like_any w.heap.size p w.heap.size q v4 v5 M lb e4 w5 O5.out R5.out (by omega) HL4.out).mono ?_
      rintro x w6 ⟨rfl, hb⟩
      have O6 := Lib.hid (O5.out.later hb)
      have R6 := Lib.hid (R5.out.later hb)
      have T6 := Lib.hid (T5.out.later hb)
      have C6 := Lib.hid (C5.out.later hb)
      have D6 := Lib.hid (D5.out.later hb)
      have HB6 := Lib.hid (stepB HB5.out hb)
      clear hb HB5 O5 R5 T5 C5 D5
      go_wp2_with fail
      refine (like_any w.heap.size pc w.heap.size pd vc u L la en _ C6.out D6.out (by omega) HLL.out).mono ?_
      rintro x w7 ⟨rfl, hb⟩
      clear C6 D6
      have O7 := Lib.hid (O6.out.later hb)
      have R7 := Lib.hid (R6.out.later hb)
      have T7 := Lib.hid (T6.out.later hb)
      have HB7 := Lib.hid (stepB HB6.out hb)
      clear hb HB6 O6 R6 T6
      go_wp2_with fail
      refine (busy_any w.heap.size p v4 M lb e4 _ O7.out (by omega)).mono ?_
      rintro x w8 ⟨vb, rfl, hbo, hb⟩
      have hbl := busyOf_len (seqE M 0 M.length)
      rw [seqE_len] at hbl
      change (busyL M).length ≤ M.length at hbl
      have HW8 := Lib.hid (hbo.base HB7.out.size)
      obtain ⟨Ab, cb, rfl, _⟩ := Ow.sl hbo
      clear hbo
      have O8 := Lib.hid (O7.out.later hb)
      have R8 := Lib.hid (R7.out.later hb)
      have T8 := Lib.hid (T7.out.later hb)
      have HB8 := Lib.hid (stepB HB7.out hb)
      clear hb HB7 O7 R7 T7
      generalize busyL M = bs at *
      obtain ⟨m, hm⟩ : ∃ m, bs.length = m := ⟨_, rfl⟩
      rw [hm] at HW8 hbl ⊢
      clear hm
      go_wp2
      go_loopw [14] (fun i wr2 => ∃ (j : Nat) (xs : List Int), j ≤ m ∧ i = .int .i64 j ∧ Ow iv wr2 w.heap.size 3 (.slice Ab m cb) m xs ∧ WrAt wr2 w.heap.size p v4 M lb e4 ∧ RfAt wr2 w.heap.size q v5 M ∧ TabAt wr2 ∧ Below w.heap.size w wr2) (fun i _ => m - (intOf i).toNat)
      case atStart => exact ⟨0, _, Nat.zero_le _, rfl, HW8.out, O8.out, R8.out, T8.out, HB8.out⟩
      case round =>
        obtain ⟨j, xs, hj, rfl, hw, ho, hr, ht, hb⟩ := hrel
        have HW9 := Lib.hid hw
        have O9 := Lib.hid ho
        have R9 := Lib.hid hr
        have T9 := Lib.hid ht
        have HB9 := Lib.hid hb
        clear hw ho hr ht hb HW8 O8 R8 T8 HB8
        by_cases hjm : j < m
        · have d5 : decide ((j : Int) < (m : Int)) = true := decide_eq_true (by omega)
          have wj : IntKind.i64.wrap ((j : Int) + 1) = (j : Int) + 1 := IntWalk.i64_in _ (by omega)
          obtain ⟨gb, xv, rfl, hgb, ⟨cur, hblk⟩, z0, z1⟩ := ow_at HW9.out hjm
          have i5 := findex0 gb m cb j (j : Int) rfl hjm
          have HW10 := Lib.hid (ow_set (j := j) HW9.out (-7))
          have O10 := Lib.hid (O9.out.frQ (Fr.setp _ gb j (.int .i64 (-7)) nilv) hblk (by decide) (by decide))
          have R10 := Lib.hid (R9.out.frI (Fr.setp _ gb j (.int .i64 (-7)) nilv) hblk (by decide) (by decide))
          have T10 := Lib.hid (T9.out.frQ (Fr.setp _ gb j (.int .i64 (-7)) nilv) (by omega))
          have HB10 := Lib.hid (HB9.out.setCell (p := ⟨gb, j, none⟩) hgb (.int .i64 (-7)))
          clear hblk HW9 O9 R9 T9 HB9
          go_wp2
          go_roundw
          case rel => exact ⟨j + 1, _, by omega, by go_num, HW10.out, O10.out, R10.out, T10.out, HB10.out⟩
          case measure => simp [intOf]; omega
        · obtain rfl : j = m := by omega
          have d5 : decide ((j : Int) < (j : Int)) = false := decide_eq_false (by omega)
          go_wp2
          go_roundw
          case rel => exact ⟨k + 1, v4, v5, M, lb, e4, by omega, by go_num, hml, HG4.out, HL4.out, O9.out, R9.out, T9.out, HB9.out⟩
          case measure => simp [intOf]; omega
    · obtain rfl : k = n := by omega
      have d2 : decide ((k : Int) < (k : Int)) = false := decide_eq_false (by omega)
      go_wp2_with fail
      refine (like_any w.heap.size p w.heap.size q v u L la en _ O0.out R0.out (by omega) HLL.out).mono ?_
      rintro x w6 ⟨rfl, hb⟩
      have O1 := Lib.hid (O0.out.later hb)
      have R1 := Lib.hid (R0.out.later hb)
      have T1 := Lib.hid (T0.out.later hb)
      have HB1 := Lib.hid (stepB HB0.out hb)
      clear hb HB0 O0 R0 T0
      go_wp2_with fail
      refine (works_any _ T1.out).mono ?_
      rintro x w7 ⟨rfl, hb⟩
      have HB2 := Lib.hid (stepB HB1.out hb)
      clear hb
      go_wp2
      go_ret
      exact ⟨rfl, HB2.out⟩
theorem walk (A : Option Addr) (n c : Nat) (S : List Stp) (w : World) (hS : Steps w.heap.size w A n S) (hm : n ≤ maxLen) (hT : TabAt w) : Calls Tryd.prog 4 #[.slice A n c] w (fun e w' => e = .returned (.bool true) ∧ Below w.heap.size w w') := by
  by_cases hn : 120 < n
  · exact w_long A n c S w hT hn
  · exact w_main A n c S w hS hT hn


set_option maxRecDepth 100000 in
theorem lifted (os : Os) (started : os.Started) (H : Type) (enc : TypeId × Value → H) :
    ReturnsInHanded {} Tryd.checked os 4 .any (fun w args => (Rows.statusPlaysSpec.pre enc Tryd.prog Tryd.f4 Rows.statusPlaysRow.domain false w args ∧ laidMetH Tryd.prog Rows.statusPlaysRow.laid w) ∧ sizedMet enc Tryd.prog Tryd.f4 (OpenSpec.ofChange Rows.statusPlaysSpec) false w args) (Rows.statusPlaysSpec.post enc Tryd.prog Tryd.f4 false true false false) := by
  refine returnsInHanded_of_change_and (C := Tryd.checked) (X := fun w _ => laidMetH Tryd.prog Rows.statusPlaysRow.laid w) (fun _ _ _ hh h => h.of_heap hh) own started (by kernel_rfl) Tryd.func4
    (ChangeSpec.witness_shaped (enc := enc) (C := Tryd.checked) (os := os) (X := fun w _ => laidMetH Tryd.prog Rows.statusPlaysRow.laid w) false (World.laidAll Tryd.prog os Rows.statusPlaysRow.laid) #[.slice none 0 0] 8 (World.laidAll_os _ _ _)
      (World.shaped_of_ZipB (by kernel_rfl) (by kernel_rfl)) (by kernel_rfl) (by kernel_rfl) (by kernel_rfl)
      (by rw [MakeChecks.laidMetH_plain _ _ _ (by kernel_rfl)]; exact laidMet_laidAll _ (by kernel_rfl) (by kernel_rfl))) ?_
  intro W base args ds gs before hval0 hW _ hsz hL _
  have hval : ∀ (j : Nat) t v, Tryd.f4.params[j]? = some t → args[j]? = some v → Value.okWide Tryd.prog W .any base t v := hval0
  have hW' := hW
  obtain ⟨p, q, hA0, hV, hbef, _, _⟩ := hW
  have hA : DataW.TrodAll enc Tryd.prog W 0 (fun _ => true) true Tryd.f4.params.toList args.toList ds p := hA0
  rw [Tryd.params4] at hA hval
  obtain ⟨v0, vs0, d0, ds0, p0, q0, hargs, rfl, rfl, h0, r0⟩ := trodAll_cons hA
  obtain ⟨rfl, rfl, rfl⟩ := trodAll_nil r0
  obtain rfl : args = #[v0] := by cases args; simp_all
  obtain ⟨rfl, rfl⟩ := trodVars_none hV
  obtain ⟨A0, n0, c0, S0, rfl, st0, mx0⟩ := open_steps (hval 0 32 v0 rfl rfl) h0
  refine (walk A0 n0 c0 S0 W st0 mx0 (tab_of_laid hL)).mono fun e W' ⟨he, hb⟩ => ?_
  subst he
  exact ⟨_, rfl, law_post laidOut (of_decide_eq_true (by kernel_rfl)) rfl Tryd.underlying4 rfl rfl hW' hb⟩

theorem over : Rows.statusPlaysRow.holds Tryd.pinned (OpenSpec.ofChange Rows.statusPlaysSpec) :=
  OpenClaim.holds_of_wide 4 Tryd.f4 rfl rfl rfl rfl rfl rfl rfl ⟨rfl, rfl, rfl, rfl, rfl⟩ rfl rfl rfl rfl rfl (by kernel_rfl) Tryd.func4 (by kernel_rfl)
    (of_decide_eq_true (by kernel_rfl)) (by unfold Func.isWrapper; first | (rw [if_pos (by decide +kernel)]; kernel_rfl) | (rw [if_neg (by decide +kernel)]; exact ⟨rfl, rfl⟩))
    (fun os started H enc _ => lifted os started H enc)
theorem card : Rows.StatusPlaysCardSaid :=
  Claim7.holds_tied_plain_at .later [] [.data] true (true, "b1f80fd74cd5558cecf8c137d8407ecb493cf558ae174e6cefbb4fc2bec1b4f4") false over (fun _ h => by cases h) (by kernel_rfl) (fun _ h => by cases h) statusPlays_row_tie rfl ⟨rfl, rfl⟩ (by kernel_rfl) rfl
    (fun f fn hf hfn => by
      obtain rfl : f = 4 := Option.some.inj ((show Tryd.prog.funcNamed "ferryman/ferrymanlaw08.StatusPlays" = some 4 by kernel_rfl).symm.trans hf) |>.symm
      obtain rfl : fn = Tryd.f4 := (Option.some.inj (Tryd.func4.symm.trans hfn)).symm
      exact ⟨by kernel_rfl, fun j t ht => by
        rw [Tryd.params4] at ht
        have hm : t ∈ [32] := by have := Array.mem_of_getElem? ht; simpa using this
        have hall : ([32].all fun u => !Tryd.prog.wantsStandIn u) = true := by kernel_rfl
        exact (show Tryd.prog.wantsStandIn t = false by simpa using List.all_eq_true.1 hall t hm)⟩)
    (by kernel_rfl)
end Go.Proofs.YtmkgipbepipjkaaDoor.statusPlays
namespace Go.Proofs.YtmkgipbepipjkaaDoor
theorem statusPlays_holds : Rows.StatusPlaysCardSaid := statusPlays.card
end Go.Proofs.YtmkgipbepipjkaaDoor
