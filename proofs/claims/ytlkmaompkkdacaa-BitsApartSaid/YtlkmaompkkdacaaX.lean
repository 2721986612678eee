/-
Numbers at places that do not meet may be put in either row, for any bytes, two places and two numbers; no condition.
-/
import Derived.Test.YtlkmaompkkdacaaF
namespace Go.Proofs.Ytlkmaompkkdacaa.bitsApart
open Go.ChangeShapes Go.WideShapes Go.ChangeAt Go.RowKit
set_option linter.unusedVariables false

theorem own : ownKnob Try.prog.godebug = none := by kernel_rfl
theorem laidOut : laidOutB Try.prog = true := by kernel_rfl
theorem cells5 : Try.prog.cellsOf 5 = 1 := by kernel_rfl

theorem putI_set (a j : Nat) (x : Int) : ∀ (k : Nat) (bs : List Int) (m : Int), (j < a ∨ a + k ≤ j) → putI (bs.set j x) a k m = (putI bs a k m).set j x
  | 0, _, _, _ => rfl
  | k + 1, bs, m, h => by
    rw [putI_succ, putI_succ, List.set_comm _ _ (by omega), putI_set a j x k _ _ (by omega)]
theorem putI_comm (a k : Nat) (m : Int) (b : Nat) : ∀ (l : Nat) (bs : List Int) (p : Int), (b + l ≤ a ∨ a + k ≤ b) → putI (putI bs b l p) a k m = putI (putI bs a k m) b l p
  | 0, _, _, _ => rfl
  | l + 1, bs, p, h => by
    rw [putI_succ, putI_succ, putI_comm a k m b l _ _ (by omega), putI_set a (b + l) _ k bs m (by omega)]
theorem apart_of (bs : List Int) (n : Nat) (a1 a2 x y : Int) (hl : bs.length = n) (hn : n ≤ 5000)
    (h : ¬ (0 ≤ a1 ∧ 0 ≤ a2 ∧ a1 < a2 + 4 ∧ a2 < a1 + 8 ∧ a1 < 100000 ∧ a2 < 100000)) :
    putAt (putAt bs a1 8 x) a2 4 y = putAt (putAt bs a2 4 y) a1 8 x := by
  by_cases c1 : inB n a1 ((8 : Nat) : Int) = true
  · by_cases c2 : inB n a2 ((4 : Nat) : Int) = true
    · have k1 := inB_yes c1
      have k2 := inB_yes c2
      have e1 : ∀ l : List Int, l.length = n → putAt l a1 8 x = putI l a1.toNat 8 x := fun l hl => by unfold putAt; rw [hl, if_pos c1]
      have e2 : ∀ l : List Int, l.length = n → putAt l a2 4 y = putI l a2.toNat 4 y := fun l hl => by unfold putAt; rw [hl, if_pos c2]
      rw [e1 bs hl, e2 bs hl, e1 _ (by rw [putI_len]; exact hl), e2 _ (by rw [putI_len]; exact hl)]
      exact putI_comm _ _ _ _ _ _ _ (by omega)
    · have e2 : ∀ l : List Int, l.length = n → putAt l a2 4 y = l := fun l hl => by unfold putAt; rw [hl, if_neg c2]
      rw [e2 bs hl, e2 _ (by rw [putAt_len]; exact hl)]
  · have e1 : ∀ l : List Int, l.length = n → putAt l a1 8 x = l := fun l hl => by unfold putAt; rw [hl, if_neg c1]
    rw [e1 bs hl, e1 _ (by rw [putAt_len]; exact hl)]

set_option maxRecDepth 100000 in
set_option maxHeartbeats 4000000 in
theorem walk_on (A : Option Addr) (n c : Nat) (bs : List Int) (a1 a2 a3 a4 : Int) (w : World) (rd : RdB w A n bs) (ib : isBytes bs) (mx : n ≤ 5000) (nl : A = none → c = 0) (h30 : 0 ≤ a3) (h40 : 0 ≤ a4)
    (hg : ¬ (0 ≤ a1 ∧ 0 ≤ a2 ∧ a1 < a2 + 4 ∧ a2 < a1 + 8 ∧ a1 < 100000 ∧ a2 < 100000)) :
    Calls Try.prog 7 #[.slice A n c, .int .i64 a1, .int .i64 a2, .int .u64 a3, .int .u64 a4] w fun e w' => e = .returned (.bool true) ∧ Below w.heap.size w w' := by
  have HC := Lib.hid (apart_of bs n a1 a2 a3 (a4 % 4294967296) rd.1 mx hg)
  have Rd := Lib.hid rd
  have Ib := Lib.hid ib
  clear rd ib
  by_cases ca : a1 < 0
  · clear hg
    go_enter Try.func7, Try.ntmps7
    go_wp2_with fail
    refine (awake_any _).mono ?_
    rintro e w1 ⟨rfl, hb⟩
    go_wp2_with fail
    all_goals
      refine (own_row _ _ _ bs _ (Rd.out.below hb) (by omega) nl).mono ?_
      rintro e w2 ⟨gx, cx, rfl, sx, r, hb1⟩
      have hb2 := hb.trans (hb1.mono hb.size)
      have Sx : w.heap.size ≤ gx := Nat.le_trans hb.size sx
      have Rx := Lib.hid r
      clear r sx hb1 hb
      go_wp2_with fail
      refine (own_row _ _ _ bs _ (Rd.out.below hb2) (by omega) nl).mono ?_
      rintro e w3 ⟨gy, cy, rfl, sy, r, hb1⟩
      have hb3 := hb2.trans (hb1.mono hb2.size)
      have lxy : gx < gy := Nat.lt_of_lt_of_le Rx.out.lt sy
      have Rx3 := Lib.hid (Rx.out.below hb1 Rx.out.lt)
      have Ry3 := Lib.hid r
      clear r Rx sy hb1 hb2
      go_wp2_with fail
      refine (Put64_any _ _ _ _ _ _ _ Rx3.out (by omega) h30).mono ?_
      rintro e w4 ⟨rfl, r, hg⟩
      have hb4 := below_grown hb3 hg hb3.size Sx
      have Rx4 := Lib.hid r
      have Ry4 := Lib.hid (Ry3.out.kept hg (by omega))
      clear r hg hb3 Rx3 Ry3
      go_wp2_with fail
      refine (Put32_any _ _ _ _ _ _ _ Rx4.out (by omega) (by omega)).mono ?_
      rintro e w5 ⟨rfl, r, hg⟩
      have hb5 := below_grown hb4 hg hb4.size Sx
      have Rx5 := Lib.hid r
      have Ry5 := Lib.hid (Ry4.out.kept hg (by omega))
      clear r hg hb4 Rx4 Ry4
      go_wp2_with fail
      refine (Put32_any _ _ _ _ _ _ _ Ry5.out (by omega) (by omega)).mono ?_
      rintro e w6 ⟨rfl, r, hg⟩
      have hb6 := below_grown hb5 hg hb5.size (by omega)
      have Ry6 := Lib.hid r
      have Rx6 := Lib.hid (Rx5.out.kept hg (by omega))
      clear r hg hb5 Rx5 Ry5
      go_wp2_with fail
      refine (Put64_any _ _ _ _ _ _ _ Ry6.out (by omega) h30).mono ?_
      rintro e w7 ⟨rfl, r, hg⟩
      have hb7 := below_grown hb6 hg hb6.size (by omega)
      have Ry7 := Lib.hid r
      have Rx7 := Lib.hid (Rx6.out.kept hg (by omega))
      clear r hg hb6 Rx6 Ry6
      go_wp2_with fail
      refine (bytes_eq _ _ _ _ _ _ _ _ _ Rx7.out.reads Ry7.out.reads (by omega) (by omega) true (eqB_yes HC.out)).mono ?_
      rintro e w8 ⟨rfl, hs⟩
      have hb8 := hs.below hb7
      clear hs
      go_wp2_with fail
      go_ret
      exact ⟨rfl, hb8⟩

  · by_cases ct : a2 < 0
    · clear hg
      go_enter Try.func7, Try.ntmps7
      go_wp2_with fail
      refine (awake_any _).mono ?_
      rintro e w1 ⟨rfl, hb⟩
      go_wp2_with fail
      all_goals
        refine (own_row _ _ _ bs _ (Rd.out.below hb) (by omega) nl).mono ?_
        rintro e w2 ⟨gx, cx, rfl, sx, r, hb1⟩
        have hb2 := hb.trans (hb1.mono hb.size)
        have Sx : w.heap.size ≤ gx := Nat.le_trans hb.size sx
        have Rx := Lib.hid r
        clear r sx hb1 hb
        go_wp2_with fail
        refine (own_row _ _ _ bs _ (Rd.out.below hb2) (by omega) nl).mono ?_
        rintro e w3 ⟨gy, cy, rfl, sy, r, hb1⟩
        have hb3 := hb2.trans (hb1.mono hb2.size)
        have lxy : gx < gy := Nat.lt_of_lt_of_le Rx.out.lt sy
        have Rx3 := Lib.hid (Rx.out.below hb1 Rx.out.lt)
        have Ry3 := Lib.hid r
        clear r Rx sy hb1 hb2
        go_wp2_with fail
        refine (Put64_any _ _ _ _ _ _ _ Rx3.out (by omega) h30).mono ?_
        rintro e w4 ⟨rfl, r, hg⟩
        have hb4 := below_grown hb3 hg hb3.size Sx
        have Rx4 := Lib.hid r
        have Ry4 := Lib.hid (Ry3.out.kept hg (by omega))
        clear r hg hb3 Rx3 Ry3
        go_wp2_with fail
        refine (Put32_any _ _ _ _ _ _ _ Rx4.out (by omega) (by omega)).mono ?_
        rintro e w5 ⟨rfl, r, hg⟩
        have hb5 := below_grown hb4 hg hb4.size Sx
        have Rx5 := Lib.hid r
        have Ry5 := Lib.hid (Ry4.out.kept hg (by omega))
        clear r hg hb4 Rx4 Ry4
        go_wp2_with fail
        refine (Put32_any _ _ _ _ _ _ _ Ry5.out (by omega) (by omega)).mono ?_
        rintro e w6 ⟨rfl, r, hg⟩
        have hb6 := below_grown hb5 hg hb5.size (by omega)
        have Ry6 := Lib.hid r
        have Rx6 := Lib.hid (Rx5.out.kept hg (by omega))
        clear r hg hb5 Rx5 Ry5
        go_wp2_with fail
        refine (Put64_any _ _ _ _ _ _ _ Ry6.out (by omega) h30).mono ?_
        rintro e w7 ⟨rfl, r, hg⟩
        have hb7 := below_grown hb6 hg hb6.size (by omega)
        have Ry7 := Lib.hid r
        have Rx7 := Lib.hid (Rx6.out.kept hg (by omega))
        clear r hg hb6 Rx6 Ry6
        go_wp2_with fail
        refine (bytes_eq _ _ _ _ _ _ _ _ _ Rx7.out.reads Ry7.out.reads (by omega) (by omega) true (eqB_yes HC.out)).mono ?_
        rintro e w8 ⟨rfl, hs⟩
        have hb8 := hs.below hb7
        clear hs
        go_wp2_with fail
        go_ret
        exact ⟨rfl, hb8⟩

    · by_cases c3 : 100000 ≤ a1
      · clear hg
        go_enter Try.func7, Try.ntmps7
        go_wp2_with fail
        all_goals
          refine (awake_any _).mono ?_
          rintro e w1 ⟨rfl, hb⟩
          go_wp2_with fail
        all_goals
          refine (own_row _ _ _ bs _ (Rd.out.below hb) (by omega) nl).mono ?_
          rintro e w2 ⟨gx, cx, rfl, sx, r, hb1⟩
          have hb2 := hb.trans (hb1.mono hb.size)
          have Sx : w.heap.size ≤ gx := Nat.le_trans hb.size sx
          have Rx := Lib.hid r
          clear r sx hb1 hb
          go_wp2_with fail
          refine (own_row _ _ _ bs _ (Rd.out.below hb2) (by omega) nl).mono ?_
          rintro e w3 ⟨gy, cy, rfl, sy, r, hb1⟩
          have hb3 := hb2.trans (hb1.mono hb2.size)
          have lxy : gx < gy := Nat.lt_of_lt_of_le Rx.out.lt sy
          have Rx3 := Lib.hid (Rx.out.below hb1 Rx.out.lt)
          have Ry3 := Lib.hid r
          clear r Rx sy hb1 hb2
          go_wp2_with fail
          refine (Put64_any _ _ _ _ _ _ _ Rx3.out (by omega) h30).mono ?_
          rintro e w4 ⟨rfl, r, hg⟩
          have hb4 := below_grown hb3 hg hb3.size Sx
          have Rx4 := Lib.hid r
          have Ry4 := Lib.hid (Ry3.out.kept hg (by omega))
          clear r hg hb3 Rx3 Ry3
          go_wp2_with fail
          refine (Put32_any _ _ _ _ _ _ _ Rx4.out (by omega) (by omega)).mono ?_
          rintro e w5 ⟨rfl, r, hg⟩
          have hb5 := below_grown hb4 hg hb4.size Sx
          have Rx5 := Lib.hid r
          have Ry5 := Lib.hid (Ry4.out.kept hg (by omega))
          clear r hg hb4 Rx4 Ry4
          go_wp2_with fail
          refine (Put32_any _ _ _ _ _ _ _ Ry5.out (by omega) (by omega)).mono ?_
          rintro e w6 ⟨rfl, r, hg⟩
          have hb6 := below_grown hb5 hg hb5.size (by omega)
          have Ry6 := Lib.hid r
          have Rx6 := Lib.hid (Rx5.out.kept hg (by omega))
          clear r hg hb5 Rx5 Ry5
          go_wp2_with fail
          refine (Put64_any _ _ _ _ _ _ _ Ry6.out (by omega) h30).mono ?_
          rintro e w7 ⟨rfl, r, hg⟩
          have hb7 := below_grown hb6 hg hb6.size (by omega)
          have Ry7 := Lib.hid r
          have Rx7 := Lib.hid (Rx6.out.kept hg (by omega))
          clear r hg hb6 Rx6 Ry6
          go_wp2_with fail
          refine (bytes_eq _ _ _ _ _ _ _ _ _ Rx7.out.reads Ry7.out.reads (by omega) (by omega) true (eqB_yes HC.out)).mono ?_
          rintro e w8 ⟨rfl, hs⟩
          have hb8 := hs.below hb7
          clear hs
          go_wp2_with fail
          go_ret
          exact ⟨rfl, hb8⟩

      · by_cases c4 : 100000 ≤ a2
        · clear hg
          go_enter Try.func7, Try.ntmps7
          go_wp2_with fail
          all_goals
            refine (awake_any _).mono ?_
            rintro e w1 ⟨rfl, hb⟩
            go_wp2_with fail
          all_goals
            refine (own_row _ _ _ bs _ (Rd.out.below hb) (by omega) nl).mono ?_
            rintro e w2 ⟨gx, cx, rfl, sx, r, hb1⟩
            have hb2 := hb.trans (hb1.mono hb.size)
            have Sx : w.heap.size ≤ gx := Nat.le_trans hb.size sx
            have Rx := Lib.hid r
            clear r sx hb1 hb
            go_wp2_with fail
            refine (own_row _ _ _ bs _ (Rd.out.below hb2) (by omega) nl).mono ?_
            rintro e w3 ⟨gy, cy, rfl, sy, r, hb1⟩
            have hb3 := hb2.trans (hb1.mono hb2.size)
            have lxy : gx < gy := Nat.lt_of_lt_of_le Rx.out.lt sy
            have Rx3 := Lib.hid (Rx.out.below hb1 Rx.out.lt)
            have Ry3 := Lib.hid r
            clear r Rx sy hb1 hb2
            go_wp2_with fail
            refine (Put64_any _ _ _ _ _ _ _ Rx3.out (by omega) h30).mono ?_
            rintro e w4 ⟨rfl, r, hg⟩
            have hb4 := below_grown hb3 hg hb3.size Sx
            have Rx4 := Lib.hid r
            have Ry4 := Lib.hid (Ry3.out.kept hg (by omega))
            clear r hg hb3 Rx3 Ry3
            go_wp2_with fail
            refine (Put32_any _ _ _ _ _ _ _ Rx4.out (by omega) (by omega)).mono ?_
            rintro e w5 ⟨rfl, r, hg⟩
            have hb5 := below_grown hb4 hg hb4.size Sx
            have Rx5 := Lib.hid r
            have Ry5 := Lib.hid (Ry4.out.kept hg (by omega))
            clear r hg hb4 Rx4 Ry4
            go_wp2_with fail
            refine (Put32_any _ _ _ _ _ _ _ Ry5.out (by omega) (by omega)).mono ?_
            rintro e w6 ⟨rfl, r, hg⟩
            have hb6 := below_grown hb5 hg hb5.size (by omega)
            have Ry6 := Lib.hid r
            have Rx6 := Lib.hid (Rx5.out.kept hg (by omega))
            clear r hg hb5 Rx5 Ry5
            go_wp2_with fail
            refine (Put64_any _ _ _ _ _ _ _ Ry6.out (by omega) h30).mono ?_
            rintro e w7 ⟨rfl, r, hg⟩
            have hb7 := below_grown hb6 hg hb6.size (by omega)
            have Ry7 := Lib.hid r
            have Rx7 := Lib.hid (Rx6.out.kept hg (by omega))
            clear r hg hb6 Rx6 Ry6
            go_wp2_with fail
            refine (bytes_eq _ _ _ _ _ _ _ _ _ Rx7.out.reads Ry7.out.reads (by omega) (by omega) true (eqB_yes HC.out)).mono ?_
            rintro e w8 ⟨rfl, hs⟩
            have hb8 := hs.below hb7
            clear hs
            go_wp2_with fail
            go_ret
            exact ⟨rfl, hb8⟩

        · by_cases d1 : a1 < a2 + 4
          · have d2 : ¬ a2 < a1 + 8 := by omega
            clear hg
            go_enter Try.func7, Try.ntmps7
            go_wp2_with fail
            refine (awake_any _).mono ?_
            rintro e w1 ⟨rfl, hb⟩
            go_wp2_with fail
            all_goals
              refine (own_row _ _ _ bs _ (Rd.out.below hb) (by omega) nl).mono ?_
              rintro e w2 ⟨gx, cx, rfl, sx, r, hb1⟩
              have hb2 := hb.trans (hb1.mono hb.size)
              have Sx : w.heap.size ≤ gx := Nat.le_trans hb.size sx
              have Rx := Lib.hid r
              clear r sx hb1 hb
              go_wp2_with fail
              refine (own_row _ _ _ bs _ (Rd.out.below hb2) (by omega) nl).mono ?_
              rintro e w3 ⟨gy, cy, rfl, sy, r, hb1⟩
              have hb3 := hb2.trans (hb1.mono hb2.size)
              have lxy : gx < gy := Nat.lt_of_lt_of_le Rx.out.lt sy
              have Rx3 := Lib.hid (Rx.out.below hb1 Rx.out.lt)
              have Ry3 := Lib.hid r
              clear r Rx sy hb1 hb2
              go_wp2_with fail
              refine (Put64_any _ _ _ _ _ _ _ Rx3.out (by omega) h30).mono ?_
              rintro e w4 ⟨rfl, r, hg⟩
              have hb4 := below_grown hb3 hg hb3.size Sx
              have Rx4 := Lib.hid r
              have Ry4 := Lib.hid (Ry3.out.kept hg (by omega))
              clear r hg hb3 Rx3 Ry3
              go_wp2_with fail
              refine (Put32_any _ _ _ _ _ _ _ Rx4.out (by omega) (by omega)).mono ?_
              rintro e w5 ⟨rfl, r, hg⟩
              have hb5 := below_grown hb4 hg hb4.size Sx
              have Rx5 := Lib.hid r
              have Ry5 := Lib.hid (Ry4.out.kept hg (by omega))
              clear r hg hb4 Rx4 Ry4
              go_wp2_with fail
              refine (Put32_any _ _ _ _ _ _ _ Ry5.out (by omega) (by omega)).mono ?_
              rintro e w6 ⟨rfl, r, hg⟩
              have hb6 := below_grown hb5 hg hb5.size (by omega)
              have Ry6 := Lib.hid r
              have Rx6 := Lib.hid (Rx5.out.kept hg (by omega))
              clear r hg hb5 Rx5 Ry5
              go_wp2_with fail
              refine (Put64_any _ _ _ _ _ _ _ Ry6.out (by omega) h30).mono ?_
              rintro e w7 ⟨rfl, r, hg⟩
              have hb7 := below_grown hb6 hg hb6.size (by omega)
              have Ry7 := Lib.hid r
              have Rx7 := Lib.hid (Rx6.out.kept hg (by omega))
              clear r hg hb6 Rx6 Ry6
              go_wp2_with fail
              refine (bytes_eq _ _ _ _ _ _ _ _ _ Rx7.out.reads Ry7.out.reads (by omega) (by omega) true (eqB_yes HC.out)).mono ?_
              rintro e w8 ⟨rfl, hs⟩
              have hb8 := hs.below hb7
              clear hs
              go_wp2_with fail
              go_ret
              exact ⟨rfl, hb8⟩

          · clear hg
            go_enter Try.func7, Try.ntmps7
            go_wp2_with fail
            refine (awake_any _).mono ?_
            rintro e w1 ⟨rfl, hb⟩
            go_wp2_with fail
            all_goals
              refine (own_row _ _ _ bs _ (Rd.out.below hb) (by omega) nl).mono ?_
              rintro e w2 ⟨gx, cx, rfl, sx, r, hb1⟩
              have hb2 := hb.trans (hb1.mono hb.size)
              have Sx : w.heap.size ≤ gx := Nat.le_trans hb.size sx
              have Rx := Lib.hid r
              clear r sx hb1 hb
              go_wp2_with fail
              refine (own_row _ _ _ bs _ (Rd.out.below hb2) (by omega) nl).mono ?_
              rintro e w3 ⟨gy, cy, rfl, sy, r, hb1⟩
              have hb3 := hb2.trans (hb1.mono hb2.size)
              have lxy : gx < gy := Nat.lt_of_lt_of_le Rx.out.lt sy
              have Rx3 := Lib.hid (Rx.out.below hb1 Rx.out.lt)
              have Ry3 := Lib.hid r
              clear r Rx sy hb1 hb2
              go_wp2_with fail
              refine (Put64_any _ _ _ _ _ _ _ Rx3.out (by omega) h30).mono ?_
              rintro e w4 ⟨rfl, r, hg⟩
              have hb4 := below_grown hb3 hg hb3.size Sx
              have Rx4 := Lib.hid r
              have Ry4 := Lib.hid (Ry3.out.kept hg (by omega))
              clear r hg hb3 Rx3 Ry3
              go_wp2_with fail
              refine (Put32_any _ _ _ _ _ _ _ Rx4.out (by omega) (by omega)).mono ?_
              rintro e w5 ⟨rfl, r, hg⟩
              have hb5 := below_grown hb4 hg hb4.size Sx
              have Rx5 := Lib.hid r
              have Ry5 := Lib.hid (Ry4.out.kept hg (by omega))
              clear r hg hb4 Rx4 Ry4
              go_wp2_with fail
              refine (Put32_any _ _ _ _ _ _ _ Ry5.out (by omega) (by omega)).mono ?_
              rintro e w6 ⟨rfl, r, hg⟩
              have hb6 := below_grown hb5 hg hb5.size (by omega)
              have Ry6 := Lib.hid r
              have Rx6 := Lib.hid (Rx5.out.kept hg (by omega))
              clear r hg hb5 Rx5 Ry5
              go_wp2_with fail
              refine (Put64_any _ _ _ _ _ _ _ Ry6.out (by omega) h30).mono ?_
              rintro e w7 ⟨rfl, r, hg⟩
              have hb7 := below_grown hb6 hg hb6.size (by omega)
              have Ry7 := Lib.hid r
              have Rx7 := Lib.hid (Rx6.out.kept hg (by omega))
              clear r hg hb6 Rx6 Ry6
              go_wp2_with fail
              refine (bytes_eq _ _ _ _ _ _ _ _ _ Rx7.out.reads Ry7.out.reads (by omega) (by omega) true (eqB_yes HC.out)).mono ?_
              rintro e w8 ⟨rfl, hs⟩
              have hb8 := hs.below hb7
              clear hs
              go_wp2_with fail
              go_ret
              exact ⟨rfl, hb8⟩

set_option maxRecDepth 100000 in
set_option maxHeartbeats 1000000 in
theorem walk (A : Option Addr) (n c : Nat) (bs : List Int) (a1 : Int) (w1 : (Lit.int .i64 a1).wf = true) (a2 : Int) (w2 : (Lit.int .i64 a2).wf = true) (a3 : Int) (w3 : (Lit.int .u64 a3).wf = true) (a4 : Int) (w4 : (Lit.int .u64 a4).wf = true) (w : World) (rd : RdB w A n bs) (ib : isBytes bs) (mx : n ≤ maxLen) (nl : A = none → c = 0) (bl : ∀ ad, A = some ad → 0 < n → ad.block < w.heap.size) :
    Calls Try.prog 7 #[.slice A n c, .int .i64 a1, .int .i64 a2, .int .u64 a3, .int .u64 a4] w fun e w' => e = .returned (.bool true) ∧ Below w.heap.size w w' := by
  unfold maxLen at mx
  obtain ⟨h30, h31⟩ := bnd64 w3
  obtain ⟨h40, h41⟩ := bnd64 w4
  clear bl w1 w2 w3 w4
  by_cases c1 : 5000 < n
  · clear rd
    go_enter Try.func7, Try.ntmps7
    go_wp2_with (go_at_call 11; refine (awake_any _).mono ?_; rintro e w1 ⟨rfl, hb⟩)
    go_ret
    exact ⟨rfl, hb⟩
  · by_cases hg : 0 ≤ a1 ∧ 0 ≤ a2 ∧ a1 < a2 + 4 ∧ a2 < a1 + 8 ∧ a1 < 100000 ∧ a2 < 100000
    · obtain ⟨k1, k2, k3, k4, k5, k6⟩ := hg
      clear rd
      go_enter Try.func7, Try.ntmps7
      go_wp2_with (go_at_call 11; refine (awake_any _).mono ?_; rintro e w1 ⟨rfl, hb⟩)
      go_ret
      exact ⟨rfl, hb⟩
    · exact walk_on A n c bs a1 a2 a3 a4 w rd ib (by omega) nl h30 h40 hg


set_option maxRecDepth 100000 in
theorem lifted (os : Os) (started : os.Started) (H : Type) (enc : TypeId × Value → H) :
    ReturnsInHanded {} Try.checked os 7 .any (Rows.bitsApartSpec.pre6 enc Try.prog Try.f7 Rows.bitsApartRow.domain false) (Rows.bitsApartSpec.post enc Try.prog Try.f7 false true false false) := by
  refine returnsInHanded_of_change_sized (C := Try.checked) own started (by kernel_rfl) Try.func7
    (ChangeSpec.witness6 (enc := enc) (C := Try.checked) false ⟨#[], #[.slice none 0 0, .int .i64 0, .int .i64 0, .int .u64 0, .int .u64 0], []⟩ 8 (by kernel_rfl) (by kernel_rfl) (by kernel_rfl) (by kernel_rfl)) ?_
  intro W base args ds gs before hval0 hW _ hsz _
  have hval : ∀ (j : Nat) t v, Try.f7.params[j]? = some t → args[j]? = some v → Value.okWide Try.prog W .any base t v := hval0
  have hW' := hW
  obtain ⟨p, q, hA0, hV, hbef, _, _⟩ := hW
  have hA : DataW.TrodAll enc Try.prog W 0 (fun _ => true) true Try.f7.params.toList args.toList ds p := hA0
  rw [Try.params7] at hA hval
  obtain ⟨v0, vs0, d0, ds0, p0, q0, hargs, rfl, rfl, h0, r0⟩ := trodAll_cons hA
  obtain ⟨v1, vs1, d1, ds1, p1, q1, rfl, rfl, rfl, h1, r1⟩ := trodAll_cons r0
  obtain ⟨v2, vs2, d2, ds2, p2, q2, rfl, rfl, rfl, h2, r2⟩ := trodAll_cons r1
  obtain ⟨v3, vs3, d3, ds3, p3, q3, rfl, rfl, rfl, h3, r3⟩ := trodAll_cons r2
  obtain ⟨v4, vs4, d4, ds4, p4, q4, rfl, rfl, rfl, h4, r4⟩ := trodAll_cons r3
  obtain ⟨rfl, rfl, rfl⟩ := trodAll_nil r4
  obtain rfl : args = #[v0, v1, v2, v3, v4] := by cases args; simp_all
  obtain ⟨rfl, rfl⟩ := trodVars_none hV
  obtain ⟨A0, n0, c0, bs0, rfl, rd0, ib0, mx0, nl0, bl0⟩ := open_u8 Try.underlying24 Try.underlying5 cells5 (hval 0 24 v0 rfl rfl) h0
  obtain ⟨a1, rfl, _, _, w1⟩ := open_int Try.underlying3 (hval 1 3 v1 rfl rfl) h1
  obtain ⟨a2, rfl, _, _, w2⟩ := open_int Try.underlying3 (hval 2 3 v2 rfl rfl) h2
  obtain ⟨a3, rfl, _, _, w3⟩ := open_int Try.underlying25 (hval 3 25 v3 rfl rfl) h3
  obtain ⟨a4, rfl, _, _, w4⟩ := open_int Try.underlying25 (hval 4 25 v4 rfl rfl) h4
  refine (walk A0 n0 c0 bs0 a1 w1 a2 w2 a3 w3 a4 w4 W rd0 ib0 mx0 nl0 bl0).mono fun e W' ⟨he, hb⟩ => ?_
  subst he
  exact ⟨_, rfl, law_post laidOut (of_decide_eq_true (by kernel_rfl)) rfl Try.underlying4 rfl rfl hW' hb⟩

theorem over : Rows.bitsApartRow.holds Try.pinned (OpenSpec.ofChange Rows.bitsApartSpec) :=
  OpenClaim.holds_of_wide 7 Try.f7 rfl rfl rfl rfl rfl rfl rfl ⟨rfl, rfl, rfl, rfl, rfl⟩ rfl rfl rfl rfl rfl (by kernel_rfl) Try.func7 (by kernel_rfl)
    (of_decide_eq_true (by kernel_rfl)) (by unfold Func.isWrapper; first | (rw [if_pos (by decide +kernel)]; kernel_rfl) | (rw [if_neg (by decide +kernel)]; exact ⟨rfl, rfl⟩))
    (fun os started H enc _ => lifted os started H enc)

end Go.Proofs.Ytlkmaompkkdacaa.bitsApart
namespace Go.Proofs.Ytlkmaompkkdacaa
theorem bitsApart_holds : Rows.BitsApartSaid := bitsApart.over
end Go.Proofs.Ytlkmaompkkdacaa
