/-
What was put is got, at its place, and all other bytes stay, for any bytes, place and number; no condition.
-/
import Derived.Test.YtlkmaompkkdacaaK0
namespace Go.Proofs.Ytlkmaompkkdacaa.bitsBack
open Go.ChangeShapes Go.WideShapes Go.ChangeAt Go.RowKit
set_option linter.unusedVariables false

theorem own : ownKnob Try.prog.godebug = none := by kernel_rfl
theorem laidOut : laidOutB Try.prog = true := by kernel_rfl
theorem cells5 : Try.prog.cellsOf 5 = 1 := by kernel_rfl

set_option maxRecDepth 100000 in
set_option maxHeartbeats 4000000 in
theorem walk_in (A : Option Addr) (n c : Nat) (bs : List Int) (a1 m : Int) (w : World) (rd : RdB w A n bs) (ib : isBytes bs) (mx : n ≤ 5000) (nl : A = none → c = 0) (h0 : 0 ≤ m) (h1 : m ≤ 18446744073709551615) :
    Calls Try.prog 6 #[.slice A n c, .int .i64 a1, .int .u64 m] w fun e w' => e = .returned (.bool true) ∧ Below w.heap.size w w' := by
  have Rd := Lib.hid rd
  have Ib := Lib.hid ib
  clear rd ib
  go_enter Try.func6, Try.ntmps6
  go_wp2_with fail
  refine (awake_any _).mono ?_
  rintro e w1 ⟨rfl, hb⟩
  have Hb1 := Lib.hid hb
  clear hb
  go_wp2_with fail
  go_loopw [7] (fun i wr => (i = .int .i64 2 ∨ i = .int .i64 4 ∨ i = .int .i64 8 ∨ i = .int .i64 16) ∧ Below w.heap.size w wr) (fun i _ => 16 - (intOf i).toNat)
  case atStart => exact ⟨.inl rfl, Hb1.out⟩
  case round =>
    obtain ⟨hi, hb⟩ := hrel
    have Hb := Lib.hid hb
    clear hb Hb1
    rcases hi with rfl | rfl | rfl | rfl

    -- width 2
    · have hl := Rd.out.1
      go_wp2_with fail
      refine (own_row _ _ _ bs _ (Rd.out.below Hb.out) (by omega) nl).mono ?_
      rintro e w2 ⟨g, c', rfl, sg, r, hb2⟩
      have Hb2 := Lib.hid (Hb.out.trans (hb2.mono Hb.out.size))
      have sw : w.heap.size ≤ g := Nat.le_trans Hb.out.size sg
      have R2 := Lib.hid r
      clear r hb2 sg Hb
      go_wp2_with fail
      refine (Put16_any _ _ _ _ _ _ _ R2.out (by omega) (wrap16_nn m)).mono ?_
      rintro e w3 ⟨rfl, r, hg⟩
      have Hb3 := Lib.hid (below_grown Hb2.out hg Hb2.out.size sw)
      have R3 := Lib.hid r
      clear r hg Hb2 R2
      go_wp2_with fail
      refine (Get16_any _ _ _ _ _ _ R3.out.reads (isBytes.putAt Ib.out _ _ _) (by omega)).mono ?_
      rintro e w4 ⟨rfl, rfl⟩
      by_cases hi : inB n a1 2 = true
      · obtain ⟨a, ha1⟩ := Int.eq_ofNat_of_zero_le (inB_yes hi).1
        have ha : a + 2 ≤ n := by have := inB_yes hi; omega
        subst ha1
        have E1 := Lib.hid ((congrArg (fun l => getAt l (a : Int) 2) (putAt_wrap2 bs (a : Int) m)).trans (back_yes bs n a 2 m hl ha h0))
        have E2 : ((m % 65536) != bits BinOp.and IntKind.u64 m 65535) = false := by rw [and2 m h0 h1]; simp
        rw [hi, show getAt (putAt bs (a : Int) 2 (IntKind.u16.wrap m)) (a : Int) 2 = (m % 65536) from E1.out]
        clear hi hl
        have q1 : (a : Int) ≤ (n : Int) - 2 := by omega
        go_wp2_with fail
        clear E2
        obtain ⟨wo, hwo⟩ : ∃ wo, wo = w3 := ⟨_, rfl⟩
        subst hwo
        have rdo := Lib.hid (Rd.out.below Hb3.out)
        go_loopw [16] (fun i wr => ∃ k : Nat, k ≤ n ∧ i = .int .i64 k ∧ ∃ d, wr = wo.drewN d) (fun i _ => n - (intOf i).toNat)
        case atStart => exact ⟨0, by omega, rfl, 0, rfl⟩
        case round =>
          obtain ⟨k, hk, rfl, d, rfl⟩ := hrel
          by_cases hlt : k < n
          · have hki : (k : Int) < (n : Int) := by omega
            obtain ⟨xv, hxv⟩ : ∃ x, bs.getD k 0 = x := ⟨_, rfl⟩
            obtain ⟨gb, off, hA, hcb⟩ := rdo.out.at_ (by omega)
            subst hA
            have cb : wo.cell? ⟨gb, off + k, none⟩ = some (.int .u8 xv) := by rw [← hxv]; exact hcb k hlt
            have hx0 : wo.cell? ⟨g, k, none⟩ = some (.int .u8 ((putAt bs (a : Int) 2 (IntKind.u16.wrap m)).getD k 0)) := by
              rw [R3.out.cellAt k (by omega)]; exact u8s_get _ k (by rw [putAt_len, rdo.out.1]; exact hlt)
            have Hx0 := Lib.hid hx0
            clear hcb hx0
            by_cases cin : a ≤ k ∧ k < a + 2
            · have t1 : decide (k < a) = false := decide_eq_false (by omega)
              have t3 : decide (a + 2 ≤ k) = false := decide_eq_false (by omega)
              have t2 : decide ((a : Int) + 2 ≤ (k : Int)) = false := decide_eq_false (by omega)
              clear cb
              go_wp2_with fail
              go_quiet (fail)
              go_wp2_with fail
              go_roundw
              case rel => exact ⟨k + 1, by omega, by go_num, d + nq, by first | rfl | simp⟩
              case measure => simp [intOf]; omega
            · have hx : wo.cell? ⟨g, k, none⟩ = some (.int .u8 xv) := by
                rw [Hx0.out, ← hxv, putAt_wrap2, put_other bs n a 2 k m rdo.out.1 ha (by omega)]
              have Hxv := Lib.hid hxv
              clear hxv
              by_cases ck : k < a
              · have t1 : (k : Int) < (a : Int) := by omega
                clear cin
                go_wp2_with fail
                go_quiet (fail)
                go_wp2_with fail
                go_roundw
                case rel => exact ⟨k + 1, by omega, by go_num, d + nq, by first | rfl | simp⟩
                case measure => simp [intOf]; omega
              · have t1 : decide (k < a) = false := decide_eq_false ck
                have t3 : (a : Int) + 2 ≤ (k : Int) := by omega
                clear cin ck
                go_wp2_with fail
                go_quiet (fail)
                go_wp2_with fail
                go_roundw
                case rel => exact ⟨k + 1, by omega, by go_num, d + nq, by first | rfl | simp⟩
                case measure => simp [intOf]; omega
          · obtain rfl : k = n := by omega
            go_wp2_with fail
            go_roundw
            case rel => exact ⟨.inr (.inl rfl), drew_below Hb3.out d⟩
            case measure => simp [intOf]
      · have hi' : inB n a1 2 = false := by simpa using hi
        have bn := back_no bs n 2 a1 (IntKind.u16.wrap m) hl hi'
        have EQ := Lib.hid bn.1
        have E1 : Hid (getAt (putAt bs a1 2 (IntKind.u16.wrap m)) a1 2 = 0) := by show _ = _; rw [bn.1]; exact bn.2
        rw [hi', show getAt (putAt bs a1 2 (IntKind.u16.wrap m)) a1 2 = 0 from E1.out]
        have hn := inB_no hi'
        clear hi hi' hl bn
        by_cases ca : a1 < 0
        · clear hn
          go_wp2_with fail
          obtain ⟨wo, hwo⟩ : ∃ wo, wo = w3 := ⟨_, rfl⟩
          subst hwo
          have rdo := Lib.hid (Rd.out.below Hb3.out)
          go_loopw [16] (fun i wr => ∃ k : Nat, k ≤ n ∧ i = .int .i64 k ∧ ∃ d, wr = wo.drewN d) (fun i _ => n - (intOf i).toNat)
          case atStart => exact ⟨0, by omega, rfl, 0, rfl⟩
          case round =>
            obtain ⟨k, hk, rfl, d, rfl⟩ := hrel
            by_cases hlt : k < n
            · have hki : (k : Int) < (n : Int) := by omega
              obtain ⟨xv, hxv⟩ : ∃ x, bs.getD k 0 = x := ⟨_, rfl⟩
              obtain ⟨gb, off, hA, hcb⟩ := rdo.out.at_ (by omega)
              subst hA
              have cb : wo.cell? ⟨gb, off + k, none⟩ = some (.int .u8 xv) := by rw [← hxv]; exact hcb k hlt
              have hx0 : wo.cell? ⟨g, k, none⟩ = some (.int .u8 ((putAt bs a1 2 (IntKind.u16.wrap m)).getD k 0)) := by
                rw [R3.out.cellAt k (by omega)]; exact u8s_get _ k (by rw [putAt_len, rdo.out.1]; exact hlt)
              have Hx0 := Lib.hid hx0
              clear hcb hx0
              have hx : wo.cell? ⟨g, k, none⟩ = some (.int .u8 xv) := by
                rw [Hx0.out, ← hxv, EQ.out]
              have Hxv := Lib.hid hxv
              clear hxv

              go_wp2_with fail
              go_quiet (fail)
              go_wp2_with fail
              go_roundw
              case rel => exact ⟨k + 1, by omega, by go_num, d + nq, by first | rfl | simp⟩
              case measure => simp [intOf]; omega
            · obtain rfl : k = n := by omega
              go_wp2_with fail
              go_roundw
              case rel => exact ⟨.inr (.inl rfl), drew_below Hb3.out d⟩
              case measure => simp [intOf]
        · have cb' : (n : Int) - 2 < a1 := by omega
          clear hn
          go_wp2_with fail
          obtain ⟨wo, hwo⟩ : ∃ wo, wo = w3 := ⟨_, rfl⟩
          subst hwo
          have rdo := Lib.hid (Rd.out.below Hb3.out)
          go_loopw [16] (fun i wr => ∃ k : Nat, k ≤ n ∧ i = .int .i64 k ∧ ∃ d, wr = wo.drewN d) (fun i _ => n - (intOf i).toNat)
          case atStart => exact ⟨0, by omega, rfl, 0, rfl⟩
          case round =>
            obtain ⟨k, hk, rfl, d, rfl⟩ := hrel
            by_cases hlt : k < n
            · have hki : (k : Int) < (n : Int) := by omega
              obtain ⟨xv, hxv⟩ : ∃ x, bs.getD k 0 = x := ⟨_, rfl⟩
              obtain ⟨gb, off, hA, hcb⟩ := rdo.out.at_ (by omega)
              subst hA
              have cb : wo.cell? ⟨gb, off + k, none⟩ = some (.int .u8 xv) := by rw [← hxv]; exact hcb k hlt
              have hx0 : wo.cell? ⟨g, k, none⟩ = some (.int .u8 ((putAt bs a1 2 (IntKind.u16.wrap m)).getD k 0)) := by
                rw [R3.out.cellAt k (by omega)]; exact u8s_get _ k (by rw [putAt_len, rdo.out.1]; exact hlt)
              have Hx0 := Lib.hid hx0
              clear hcb hx0
              have hx : wo.cell? ⟨g, k, none⟩ = some (.int .u8 xv) := by
                rw [Hx0.out, ← hxv, EQ.out]
              have Hxv := Lib.hid hxv
              clear hxv

              go_wp2_with fail
              go_quiet (fail)
              go_wp2_with fail
              go_roundw
              case rel => exact ⟨k + 1, by omega, by go_num, d + nq, by first | rfl | simp⟩
              case measure => simp [intOf]; omega
            · obtain rfl : k = n := by omega
              go_wp2_with fail
              go_roundw
              case rel => exact ⟨.inr (.inl rfl), drew_below Hb3.out d⟩
              case measure => simp [intOf]

    -- width 4
    · have hl := Rd.out.1
      go_wp2_with fail
      refine (own_row _ _ _ bs _ (Rd.out.below Hb.out) (by omega) nl).mono ?_
      rintro e w2 ⟨g, c', rfl, sg, r, hb2⟩
      have Hb2 := Lib.hid (Hb.out.trans (hb2.mono Hb.out.size))
      have sw : w.heap.size ≤ g := Nat.le_trans Hb.out.size sg
      have R2 := Lib.hid r
      clear r hb2 sg Hb
      go_wp2_with fail
      refine (Put32_any _ _ _ _ _ _ _ R2.out (by omega) (by omega)).mono ?_
      rintro e w3 ⟨rfl, r, hg⟩
      have Hb3 := Lib.hid (below_grown Hb2.out hg Hb2.out.size sw)
      have R3 := Lib.hid r
      clear r hg Hb2 R2
      go_wp2_with fail
      refine (Get32_any _ _ _ _ _ _ R3.out.reads (isBytes.putAt Ib.out _ _ _) (by omega)).mono ?_
      rintro e w4 ⟨rfl, rfl⟩
      by_cases hi : inB n a1 4 = true
      · obtain ⟨a, ha1⟩ := Int.eq_ofNat_of_zero_le (inB_yes hi).1
        have ha : a + 4 ≤ n := by have := inB_yes hi; omega
        subst ha1
        have E1 := Lib.hid ((congrArg (fun l => getAt l (a : Int) 4) (putAt_mod4 bs (a : Int) m)).trans (back_yes bs n a 4 m hl ha h0))
        have E2 : ((m % 4294967296) != bits BinOp.and IntKind.u64 m 4294967295) = false := by rw [and4 m h0 h1]; simp
        rw [hi, show getAt (putAt bs (a : Int) 4 (m % 4294967296)) (a : Int) 4 = (m % 4294967296) from E1.out]
        clear hi hl
        have q1 : (a : Int) ≤ (n : Int) - 4 := by omega
        go_wp2_with fail
        clear E2
        obtain ⟨wo, hwo⟩ : ∃ wo, wo = w3 := ⟨_, rfl⟩
        subst hwo
        have rdo := Lib.hid (Rd.out.below Hb3.out)
        go_loopw [16] (fun i wr => ∃ k : Nat, k ≤ n ∧ i = .int .i64 k ∧ ∃ d, wr = wo.drewN d) (fun i _ => n - (intOf i).toNat)
        case atStart => exact ⟨0, by omega, rfl, 0, rfl⟩
        case round =>
          obtain ⟨k, hk, rfl, d, rfl⟩ := hrel
          by_cases hlt : k < n
          · have hki : (k : Int) < (n : Int) := by omega
            obtain ⟨xv, hxv⟩ : ∃ x, bs.getD k 0 = x := ⟨_, rfl⟩
            obtain ⟨gb, off, hA, hcb⟩ := rdo.out.at_ (by omega)
            subst hA
            have cb : wo.cell? ⟨gb, off + k, none⟩ = some (.int .u8 xv) := by rw [← hxv]; exact hcb k hlt
            have hx0 : wo.cell? ⟨g, k, none⟩ = some (.int .u8 ((putAt bs (a : Int) 4 (m % 4294967296)).getD k 0)) := by
              rw [R3.out.cellAt k (by omega)]; exact u8s_get _ k (by rw [putAt_len, rdo.out.1]; exact hlt)
            have Hx0 := Lib.hid hx0
            clear hcb hx0
            by_cases cin : a ≤ k ∧ k < a + 4
            · have t1 : decide (k < a) = false := decide_eq_false (by omega)
              have t3 : decide (a + 4 ≤ k) = false := decide_eq_false (by omega)
              have t2 : decide ((a : Int) + 4 ≤ (k : Int)) = false := decide_eq_false (by omega)
              clear cb
              go_wp2_with fail
              go_quiet (fail)
              go_wp2_with fail
              go_roundw
              case rel => exact ⟨k + 1, by omega, by go_num, d + nq, by first | rfl | simp⟩
              case measure => simp [intOf]; omega
            · have hx : wo.cell? ⟨g, k, none⟩ = some (.int .u8 xv) := by
                rw [Hx0.out, ← hxv, putAt_mod4, put_other bs n a 4 k m rdo.out.1 ha (by omega)]
              have Hxv := Lib.hid hxv
              clear hxv
              by_cases ck : k < a
              · have t1 : (k : Int) < (a : Int) := by omega
                clear cin
                go_wp2_with fail
                go_quiet (fail)
                go_wp2_with fail
                go_roundw
                case rel => exact ⟨k + 1, by omega, by go_num, d + nq, by first | rfl | simp⟩
                case measure => simp [intOf]; omega
              · have t1 : decide (k < a) = false := decide_eq_false ck
                have t3 : (a : Int) + 4 ≤ (k : Int) := by omega
                clear cin ck
                go_wp2_with fail
                go_quiet (fail)
                go_wp2_with fail
                go_roundw
                case rel => exact ⟨k + 1, by omega, by go_num, d + nq, by first | rfl | simp⟩
                case measure => simp [intOf]; omega
          · obtain rfl : k = n := by omega
            go_wp2_with fail
            go_roundw
            case rel => exact ⟨.inr (.inr (.inl rfl)), drew_below Hb3.out d⟩
            case measure => simp [intOf]
      · have hi' : inB n a1 4 = false := by simpa using hi
        have bn := back_no bs n 4 a1 (m % 4294967296) hl hi'
        have EQ := Lib.hid bn.1
        have E1 : Hid (getAt (putAt bs a1 4 (m % 4294967296)) a1 4 = 0) := by show _ = _; rw [bn.1]; exact bn.2
        rw [hi', show getAt (putAt bs a1 4 (m % 4294967296)) a1 4 = 0 from E1.out]
        have hn := inB_no hi'
        clear hi hi' hl bn
        by_cases ca : a1 < 0
        · clear hn
          go_wp2_with fail
          obtain ⟨wo, hwo⟩ : ∃ wo, wo = w3 := ⟨_, rfl⟩
          subst hwo
          have rdo := Lib.hid (Rd.out.below Hb3.out)
          go_loopw [16] (fun i wr => ∃ k : Nat, k ≤ n ∧ i = .int .i64 k ∧ ∃ d, wr = wo.drewN d) (fun i _ => n - (intOf i).toNat)
          case atStart => exact ⟨0, by omega, rfl, 0, rfl⟩
          case round =>
            obtain ⟨k, hk, rfl, d, rfl⟩ := hrel
            by_cases hlt : k < n
            · have hki : (k : Int) < (n : Int) := by omega
              obtain ⟨xv, hxv⟩ : ∃ x, bs.getD k 0 = x := ⟨_, rfl⟩
              obtain ⟨gb, off, hA, hcb⟩ := rdo.out.at_ (by omega)
              subst hA
              have cb : wo.cell? ⟨gb, off + k, none⟩ = some (.int .u8 xv) := by rw [← hxv]; exact hcb k hlt
              have hx0 : wo.cell? ⟨g, k, none⟩ = some (.int .u8 ((putAt bs a1 4 (m % 4294967296)).getD k 0)) := by
                rw [R3.out.cellAt k (by omega)]; exact u8s_get _ k (by rw [putAt_len, rdo.out.1]; exact hlt)
              have Hx0 := Lib.hid hx0
              clear hcb hx0
              have hx : wo.cell? ⟨g, k, none⟩ = some (.int .u8 xv) := by
                rw [Hx0.out, ← hxv, EQ.out]
              have Hxv := Lib.hid hxv
              clear hxv

              go_wp2_with fail
              go_quiet (fail)
              go_wp2_with fail
              go_roundw
              case rel => exact ⟨k + 1, by omega, by go_num, d + nq, by first | rfl | simp⟩
              case measure => simp [intOf]; omega
            · obtain rfl : k = n := by omega
              go_wp2_with fail
              go_roundw
              case rel => exact ⟨.inr (.inr (.inl rfl)), drew_below Hb3.out d⟩
              case measure => simp [intOf]
        · have cb' : (n : Int) - 4 < a1 := by omega
          clear hn
          go_wp2_with fail
          obtain ⟨wo, hwo⟩ : ∃ wo, wo = w3 := ⟨_, rfl⟩
          subst hwo
          have rdo := Lib.hid (Rd.out.below Hb3.out)
          go_loopw [16] (fun i wr => ∃ k : Nat, k ≤ n ∧ i = .int .i64 k ∧ ∃ d, wr = wo.drewN d) (fun i _ => n - (intOf i).toNat)
          case atStart => exact ⟨0, by omega, rfl, 0, rfl⟩
          case round =>
            obtain ⟨k, hk, rfl, d, rfl⟩ := hrel
            by_cases hlt : k < n
            · have hki : (k : Int) < (n : Int) := by omega
              obtain ⟨xv, hxv⟩ : ∃ x, bs.getD k 0 = x := ⟨_, rfl⟩
              obtain ⟨gb, off, hA, hcb⟩ := rdo.out.at_ (by omega)
              subst hA
              have cb : wo.cell? ⟨gb, off + k, none⟩ = some (.int .u8 xv) := by rw [← hxv]; exact hcb k hlt
              have hx0 : wo.cell? ⟨g, k, none⟩ = some (.int .u8 ((putAt bs a1 4 (m % 4294967296)).getD k 0)) := by
                rw [R3.out.cellAt k (by omega)]; exact u8s_get _ k (by rw [putAt_len, rdo.out.1]; exact hlt)
              have Hx0 := Lib.hid hx0
              clear hcb hx0
              have hx : wo.cell? ⟨g, k, none⟩ = some (.int .u8 xv) := by
                rw [Hx0.out, ← hxv, EQ.out]
              have Hxv := Lib.hid hxv
              clear hxv

              go_wp2_with fail
              go_quiet (fail)
              go_wp2_with fail
              go_roundw
              case rel => exact ⟨k + 1, by omega, by go_num, d + nq, by first | rfl | simp⟩
              case measure => simp [intOf]; omega
            · obtain rfl : k = n := by omega
              go_wp2_with fail
              go_roundw
              case rel => exact ⟨.inr (.inr (.inl rfl)), drew_below Hb3.out d⟩
              case measure => simp [intOf]

    -- width 8
    · have hl := Rd.out.1
      go_wp2_with fail
      refine (own_row _ _ _ bs _ (Rd.out.below Hb.out) (by omega) nl).mono ?_
      rintro e w2 ⟨g, c', rfl, sg, r, hb2⟩
      have Hb2 := Lib.hid (Hb.out.trans (hb2.mono Hb.out.size))
      have sw : w.heap.size ≤ g := Nat.le_trans Hb.out.size sg
      have R2 := Lib.hid r
      clear r hb2 sg Hb
      go_wp2_with fail
      refine (Put64_any _ _ _ _ _ _ _ R2.out (by omega) h0).mono ?_
      rintro e w3 ⟨rfl, r, hg⟩
      have Hb3 := Lib.hid (below_grown Hb2.out hg Hb2.out.size sw)
      have R3 := Lib.hid r
      clear r hg Hb2 R2
      go_wp2_with fail
      refine (Get64_any _ _ _ _ _ _ R3.out.reads (isBytes.putAt Ib.out _ _ _) (by omega)).mono ?_
      rintro e w4 ⟨rfl, rfl⟩
      by_cases hi : inB n a1 8 = true
      · obtain ⟨a, ha1⟩ := Int.eq_ofNat_of_zero_le (inB_yes hi).1
        have ha : a + 8 ≤ n := by have := inB_yes hi; omega
        subst ha1
        have E1 := Lib.hid (back_yes bs n a 8 m hl ha h0)
        have E2 : (m != bits BinOp.and IntKind.u64 m 18446744073709551615) = false := by rw [and8 m h0 h1]; simp; omega
        rw [hi, show getAt (putAt bs (a : Int) 8 m) (a : Int) 8 = m from E1.out.trans (Int.emod_eq_of_lt h0 (by omega))]
        clear hi hl
        have q1 : (a : Int) ≤ (n : Int) - 8 := by omega
        go_wp2_with fail
        clear E2
        obtain ⟨wo, hwo⟩ : ∃ wo, wo = w3 := ⟨_, rfl⟩
        subst hwo
        have rdo := Lib.hid (Rd.out.below Hb3.out)
        go_loopw [16] (fun i wr => ∃ k : Nat, k ≤ n ∧ i = .int .i64 k ∧ ∃ d, wr = wo.drewN d) (fun i _ => n - (intOf i).toNat)
        case atStart => exact ⟨0, by omega, rfl, 0, rfl⟩
        case round =>
          obtain ⟨k, hk, rfl, d, rfl⟩ := hrel
          by_cases hlt : k < n
          · have hki : (k : Int) < (n : Int) := by omega
            obtain ⟨xv, hxv⟩ : ∃ x, bs.getD k 0 = x := ⟨_, rfl⟩
            obtain ⟨gb, off, hA, hcb⟩ := rdo.out.at_ (by omega)
            subst hA
            have cb : wo.cell? ⟨gb, off + k, none⟩ = some (.int .u8 xv) := by rw [← hxv]; exact hcb k hlt
            have hx0 : wo.cell? ⟨g, k, none⟩ = some (.int .u8 ((putAt bs (a : Int) 8 m).getD k 0)) := by
              rw [R3.out.cellAt k (by omega)]; exact u8s_get _ k (by rw [putAt_len, rdo.out.1]; exact hlt)
            have Hx0 := Lib.hid hx0
            clear hcb hx0
            by_cases cin : a ≤ k ∧ k < a + 8
            · have t1 : decide (k < a) = false := decide_eq_false (by omega)
              have t3 : decide (a + 8 ≤ k) = false := decide_eq_false (by omega)
              have t2 : decide ((a : Int) + 8 ≤ (k : Int)) = false := decide_eq_false (by omega)
              clear cb
              go_wp2_with fail
              go_quiet (fail)
              go_wp2_with fail
              go_roundw
              case rel => exact ⟨k + 1, by omega, by go_num, d + nq, by first | rfl | simp⟩
              case measure => simp [intOf]; omega
            · have hx : wo.cell? ⟨g, k, none⟩ = some (.int .u8 xv) := by
                rw [Hx0.out, ← hxv, put_other bs n a 8 k m rdo.out.1 ha (by omega)]
              have Hxv := Lib.hid hxv
              clear hxv
              by_cases ck : k < a
              · have t1 : (k : Int) < (a : Int) := by omega
                clear cin
                go_wp2_with fail
                go_quiet (fail)
                go_wp2_with fail
                go_roundw
                case rel => exact ⟨k + 1, by omega, by go_num, d + nq, by first | rfl | simp⟩
                case measure => simp [intOf]; omega
              · have t1 : decide (k < a) = false := decide_eq_false ck
                have t3 : (a : Int) + 8 ≤ (k : Int) := by omega
                clear cin ck
                go_wp2_with fail
                go_quiet (fail)
                go_wp2_with fail
                go_roundw
                case rel => exact ⟨k + 1, by omega, by go_num, d + nq, by first | rfl | simp⟩
                case measure => simp [intOf]; omega
          · obtain rfl : k = n := by omega
            go_wp2_with fail
            go_roundw
            case rel => exact ⟨.inr (.inr (.inr rfl)), drew_below Hb3.out d⟩
            case measure => simp [intOf]
      · have hi' : inB n a1 8 = false := by simpa using hi
        have bn := back_no bs n 8 a1 m hl hi'
        have EQ := Lib.hid bn.1
        have E1 : Hid (getAt (putAt bs a1 8 m) a1 8 = 0) := by show _ = _; rw [bn.1]; exact bn.2
        rw [hi', show getAt (putAt bs a1 8 m) a1 8 = 0 from E1.out]
        have hn := inB_no hi'
        clear hi hi' hl bn
        by_cases ca : a1 < 0
        · clear hn
          go_wp2_with fail
          obtain ⟨wo, hwo⟩ : ∃ wo, wo = w3 := ⟨_, rfl⟩
          subst hwo
          have rdo := Lib.hid (Rd.out.below Hb3.out)
          go_loopw [16] (fun i wr => ∃ k : Nat, k ≤ n ∧ i = .int .i64 k ∧ ∃ d, wr = wo.drewN d) (fun i _ => n - (intOf i).toNat)
          case atStart => exact ⟨0, by omega, rfl, 0, rfl⟩
          case round =>
            obtain ⟨k, hk, rfl, d, rfl⟩ := hrel
            by_cases hlt : k < n
            · have hki : (k : Int) < (n : Int) := by omega
              obtain ⟨xv, hxv⟩ : ∃ x, bs.getD k 0 = x := ⟨_, rfl⟩
              obtain ⟨gb, off, hA, hcb⟩ := rdo.out.at_ (by omega)
              subst hA
              have cb : wo.cell? ⟨gb, off + k, none⟩ = some (.int .u8 xv) := by rw [← hxv]; exact hcb k hlt
              have hx0 : wo.cell? ⟨g, k, none⟩ = some (.int .u8 ((putAt bs a1 8 m).getD k 0)) := by
                rw [R3.out.cellAt k (by omega)]; exact u8s_get _ k (by rw [putAt_len, rdo.out.1]; exact hlt)
              have Hx0 := Lib.hid hx0
              clear hcb hx0
              have hx : wo.cell? ⟨g, k, none⟩ = some (.int .u8 xv) := by
                rw [Hx0.out, ← hxv, EQ.out]
              have Hxv := Lib.hid hxv
              clear hxv

              go_wp2_with fail
              go_quiet (fail)
              go_wp2_with fail
              go_roundw
              case rel => exact ⟨k + 1, by omega, by go_num, d + nq, by first | rfl | simp⟩
              case measure => simp [intOf]; omega
            · obtain rfl : k = n := by omega
              go_wp2_with fail
              go_roundw
              case rel => exact ⟨.inr (.inr (.inr rfl)), drew_below Hb3.out d⟩
              case measure => simp [intOf]
        · have cb' : (n : Int) - 8 < a1 := by omega
          clear hn
          go_wp2_with fail
          obtain ⟨wo, hwo⟩ : ∃ wo, wo = w3 := ⟨_, rfl⟩
          subst hwo
          have rdo := Lib.hid (Rd.out.below Hb3.out)
          go_loopw [16] (fun i wr => ∃ k : Nat, k ≤ n ∧ i = .int .i64 k ∧ ∃ d, wr = wo.drewN d) (fun i _ => n - (intOf i).toNat)
          case atStart => exact ⟨0, by omega, rfl, 0, rfl⟩
          case round =>
            obtain ⟨k, hk, rfl, d, rfl⟩ := hrel
            by_cases hlt : k < n
            · have hki : (k : Int) < (n : Int) := by omega
              obtain ⟨xv, hxv⟩ : ∃ x, bs.getD k 0 = x := ⟨_, rfl⟩
              obtain ⟨gb, off, hA, hcb⟩ := rdo.out.at_ (by omega)
              subst hA
              have cb : wo.cell? ⟨gb, off + k, none⟩ = some (.int .u8 xv) := by rw [← hxv]; exact hcb k hlt
              have hx0 : wo.cell? ⟨g, k, none⟩ = some (.int .u8 ((putAt bs a1 8 m).getD k 0)) := by
                rw [R3.out.cellAt k (by omega)]; exact u8s_get _ k (by rw [putAt_len, rdo.out.1]; exact hlt)
              have Hx0 := Lib.hid hx0
              clear hcb hx0
              have hx : wo.cell? ⟨g, k, none⟩ = some (.int .u8 xv) := by
                rw [Hx0.out, ← hxv, EQ.out]
              have Hxv := Lib.hid hxv
              clear hxv

              go_wp2_with fail
              go_quiet (fail)
              go_wp2_with fail
              go_roundw
              case rel => exact ⟨k + 1, by omega, by go_num, d + nq, by first | rfl | simp⟩
              case measure => simp [intOf]; omega
            · obtain rfl : k = n := by omega
              go_wp2_with fail
              go_roundw
              case rel => exact ⟨.inr (.inr (.inr rfl)), drew_below Hb3.out d⟩
              case measure => simp [intOf]

    · have hb := Hb.out
      clear Hb
      go_wp2_with fail
      go_ret
      exact ⟨rfl, hb⟩
set_option maxRecDepth 100000 in
set_option maxHeartbeats 1000000 in
theorem walk (A : Option Addr) (n c : Nat) (bs : List Int) (a1 : Int) (w1 : (Lit.int .i64 a1).wf = true) (a2 : Int) (w2 : (Lit.int .u64 a2).wf = true) (w : World) (rd : RdB w A n bs) (ib : isBytes bs) (mx : n ≤ maxLen) (nl : A = none → c = 0) (bl : ∀ ad, A = some ad → 0 < n → ad.block < w.heap.size) :
    Calls Try.prog 6 #[.slice A n c, .int .i64 a1, .int .u64 a2] w fun e w' => e = .returned (.bool true) ∧ Below w.heap.size w w' := by
  unfold maxLen at mx
  clear bl w1
  by_cases c1 : 5000 < n
  · clear rd
    go_enter Try.func6, Try.ntmps6
    go_wp2_with (go_at_call 11; refine (awake_any _).mono ?_; rintro e w1 ⟨rfl, hb⟩)
    go_ret
    exact ⟨rfl, hb⟩
  · obtain ⟨h0, h1⟩ := bnd64 w2
    exact walk_in A n c bs a1 a2 w rd ib (by omega) nl h0 h1


set_option maxRecDepth 100000 in
theorem lifted (os : Os) (started : os.Started) (H : Type) (enc : TypeId × Value → H) :
    ReturnsInHanded {} Try.checked os 6 .any (Rows.bitsBackSpec.pre6 enc Try.prog Try.f6 Rows.bitsBackRow.domain false) (Rows.bitsBackSpec.post enc Try.prog Try.f6 false true false false) := by
  refine returnsInHanded_of_change_sized (C := Try.checked) own started (by kernel_rfl) Try.func6
    (ChangeSpec.witness6 (enc := enc) (C := Try.checked) false ⟨#[], #[.slice none 0 0, .int .i64 0, .int .u64 0], []⟩ 8 (by kernel_rfl) (by kernel_rfl) (by kernel_rfl) (by kernel_rfl)) ?_
  intro W base args ds gs before hval0 hW _ hsz _
  have hval : ∀ (j : Nat) t v, Try.f6.params[j]? = some t → args[j]? = some v → Value.okWide Try.prog W .any base t v := hval0
  have hW' := hW
  obtain ⟨p, q, hA0, hV, hbef, _, _⟩ := hW
  have hA : DataW.TrodAll enc Try.prog W 0 (fun _ => true) true Try.f6.params.toList args.toList ds p := hA0
  rw [Try.params6] at hA hval
  obtain ⟨v0, vs0, d0, ds0, p0, q0, hargs, rfl, rfl, h0, r0⟩ := trodAll_cons hA
  obtain ⟨v1, vs1, d1, ds1, p1, q1, rfl, rfl, rfl, h1, r1⟩ := trodAll_cons r0
  obtain ⟨v2, vs2, d2, ds2, p2, q2, rfl, rfl, rfl, h2, r2⟩ := trodAll_cons r1
  obtain ⟨rfl, rfl, rfl⟩ := trodAll_nil r2
  obtain rfl : args = #[v0, v1, v2] := by cases args; simp_all
  obtain ⟨rfl, rfl⟩ := trodVars_none hV
  obtain ⟨A0, n0, c0, bs0, rfl, rd0, ib0, mx0, nl0, bl0⟩ := open_u8 Try.underlying24 Try.underlying5 cells5 (hval 0 24 v0 rfl rfl) h0
  obtain ⟨a1, rfl, _, _, w1⟩ := open_int Try.underlying3 (hval 1 3 v1 rfl rfl) h1
  obtain ⟨a2, rfl, _, _, w2⟩ := open_int Try.underlying25 (hval 2 25 v2 rfl rfl) h2
  refine (walk A0 n0 c0 bs0 a1 w1 a2 w2 W rd0 ib0 mx0 nl0 bl0).mono fun e W' ⟨he, hb⟩ => ?_
  subst he
  exact ⟨_, rfl, law_post laidOut (of_decide_eq_true (by kernel_rfl)) rfl Try.underlying4 rfl rfl hW' hb⟩

theorem over : Rows.bitsBackRow.holds Try.pinned (OpenSpec.ofChange Rows.bitsBackSpec) :=
  OpenClaim.holds_of_wide 6 Try.f6 rfl rfl rfl rfl rfl rfl rfl ⟨rfl, rfl, rfl, rfl, rfl⟩ rfl rfl rfl rfl rfl (by kernel_rfl) Try.func6 (by kernel_rfl)
    (of_decide_eq_true (by kernel_rfl)) (by unfold Func.isWrapper; first | (rw [if_pos (by decide +kernel)]; kernel_rfl) | (rw [if_neg (by decide +kernel)]; exact ⟨rfl, rfl⟩))
    (fun os started H enc _ => lifted os started H enc)

end Go.Proofs.Ytlkmaompkkdacaa.bitsBack
namespace Go.Proofs.Ytlkmaompkkdacaa
theorem bitsBack_holds : Rows.BitsBackSaid := bitsBack.over
end Go.Proofs.Ytlkmaompkkdacaa
