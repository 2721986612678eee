/-
A view sees its own writer, and no other one from High on, nor a busy one; it sees all writers below Least, and not that one.
-/
import Derived.Test.YthicofdbcldpaaaL
import Derived.Test.YthicofdbcldpaaaQ
namespace Go.Proofs.Ythicofdbcldpaaa.viewOwn
open Go.ChangeShapes Go.WideShapes Go.ChangeAt Go.RowKit Go.Shelf Go.Sort Go.Lib
set_option linter.unusedVariables false
set_option linter.unusedSimpArgs false

theorem own : ownKnob Try.prog.godebug = none := by kernel_rfl
theorem laidOut : laidOutB Try.prog = true := by kernel_rfl

abbrev SO (w0 : World) (a : Addr) (y : Int) (B : Nat) (own high : Int) (g n cap : Nat) (W : World) : Prop := Below w0.heap.size w0 W ∧ W.cell? a = some (.int .i64 y) ∧
  W.cell? ⟨B, 0, none⟩ = some (.int .i64 own) ∧ W.cell? ⟨B, 1, none⟩ = some (.int .i64 high) ∧ W.cell? ⟨B, 2, none⟩ = some (.slice (some ⟨g, 0, none⟩) n cap)
theorem so_later {w0 W : World} {a : Addr} {y : Int} {B : Nat} {own high : Int} {g n cap : Nat} (h1 : w0.cell? a = some (.int .i64 y)) (ha : a.block < w0.heap.size) (hB : Blk w0 B #[.int .i64 own, .int .i64 high, .slice (some ⟨g, 0, none⟩) n cap] 25) (h : Below w0.heap.size w0 W) : SO w0 a y B own high g n cap W :=
  ⟨h, (h.cell ha).trans h1, (hB.later h).cell 0, (hB.later h).cell 1, (hB.later h).cell 2⟩
set_option maxRecDepth 100000 in
set_option maxHeartbeats 20000000 in
theorem walk_in (own high : Int) (A : Option Addr) (n c : Nat) (xs : List Int) (x : Int) (w : World) (hs : Sl w.heap.size w A n c xs) (hm : n ≤ maxLen) (hh : i64 high) :
    Calls Try.prog 5 #[.int .i64 own, .int .i64 high, .slice A n c, .int .i64 x] w fun e w' => e = .returned (.bool true) ∧ Below w.heap.size w w' := by
  unfold maxLen at hm
  unfold i64 at hh
  have V0 := Lib.hid hs.ints
  clear hs
  by_cases z1 : 300 < n
  · have d1 : decide (300 < n) = true := decide_eq_true z1
    have d1' : decide ((300 : Int) < (n : Int)) = true := decide_eq_true (by omega)
    go_enter Try.func5, Try.ntmps5
    go_wp2_with fail
    refine (awake_any _).mono ?_
    rintro e w1 ⟨rfl, hb⟩
    have H1 : Hid (Below w.heap.size w w1) := hb
    clear hb
    go_wp2_with fail
    go_ret
    exact ⟨rfl, H1.out⟩
  have d1 : decide (300 < n) = false := decide_eq_false z1
  have d1' : decide ((300 : Int) < (n : Int)) = false := decide_eq_false (by omega)
  obtain ⟨L, hL⟩ : ∃ L, refOf own high xs = L := ⟨_, rfl⟩
  have HL := Lib.hid hL
  have hLn : L.length ≤ n := by
    rw [← hL, ← V0.out.1]
    have := refOf_len own high xs []
    show (xs.foldl _ []).length ≤ _
    simpa using this
  have HX := Lib.hid (fun y (hy : y ∈ L) => drop_mem (own := own) (high := high) (xs := xs) (by rw [hL]; exact hy))
  clear hL
  go_enter Try.func5, Try.ntmps5
  go_wp2_with fail
  refine (awake_any _).mono ?_
  rintro e w1 ⟨rfl, hb⟩
  replace V0 := Lib.hid (V0.out.later hb)
  have H1 : Hid (Below w.heap.size w w1) := hb
  clear hb
  have CO : Hid (Calls Try.prog 12 #[.int .i64 own, .int .i64 high, .slice A n c] w1 (OfEnd own high L w1)) := by have := Of_any own high A n c xs w1 V0.out (by omega); rw [HL.out] at this; exact this
  go_wp2_with fail
  refine (CO.out).mono ?_
  rintro e w2 ⟨g, cap, rfl, hO, hb⟩
  have V : Hid (Ints w2.heap.size w2 (some ⟨g, 0, none⟩) L.length L) := hO.ints
  clear hO CO
  replace V0 := Lib.hid (V0.out.later hb)
  have H2 : Hid (Below w.heap.size w w2) := stepB H1.out hb
  clear hb H1
  have hb : Below w2.heap.size w2 (w2.alloc (.cells #[.int .i64 own, .int .i64 high, .slice (some ⟨g, 0, none⟩) L.length cap] 25)) := (Below.refl _ _).alloc (Nat.le_refl _) _
  replace V0 := Lib.hid (V0.out.later hb)
  replace V := Lib.hid (V.out.later hb)
  have H3 : Hid (Below w.heap.size w (w2.alloc (.cells #[.int .i64 own, .int .i64 high, .slice (some ⟨g, 0, none⟩) L.length cap] 25))) := stepB H2.out hb
  clear hb H2
  have K : Hid (Blk (w2.alloc (.cells #[.int .i64 own, .int .i64 high, .slice (some ⟨g, 0, none⟩) L.length cap] 25)) w2.heap.size #[.int .i64 own, .int .i64 high, .slice (some ⟨g, 0, none⟩) L.length cap] 25) := Blk.new w2 _ _
  have K_0 : _ = some (Value.int .i64 own) := K.out.cell 0
  have K_1 : _ = some (Value.int .i64 high) := K.out.cell 1
  have K_2 : _ = some (Value.slice (some ⟨g, 0, none⟩) L.length cap) := K.out.cell 2
  obtain ⟨b1, hb1⟩ : ∃ b, decide (1 ≤ own) = b := ⟨_, rfl⟩
  have H1 : Hid (sees own high L own = b1) := (sees_self own high L).trans hb1
  have d3 : (b1 != b1) = false := by simp
  go_wp2_with fail
  refine (Sees_any own high (some ⟨g, 0, none⟩) L.length cap L own _ V.out (by omega)).mono ?_
  rintro e w4 ⟨rfl, hb⟩
  rw [H1.out]
  replace V0 := Lib.hid (V0.out.later hb)
  replace V := Lib.hid (V.out.later hb)
  replace K := Lib.hid (K.out.later hb)
  replace K_0 : _ = some (Value.int .i64 own) := K.out.cell 0
  replace K_1 : _ = some (Value.int .i64 high) := K.out.cell 1
  replace K_2 : _ = some (Value.slice (some ⟨g, 0, none⟩) L.length cap) := K.out.cell 2
  have H4 : Hid (Below w.heap.size w w4) := stepB H3.out hb
  clear hb H3
  by_cases c1 : x = own
  · have d4 : (x != own) = false := by rw [bne_eq_false_iff_eq]; exact c1
    clear c1
    go_wp2_with fail
    have W0 : Hid (Below w.heap.size w w4) := H4.out
    go_loopw [10] (fun i wr => ∃ k : Nat, k ≤ n ∧ i = .int .i64 k ∧ Below w4.heap.size w4 wr) (fun i _ => n - (intOf i).toNat)
    case atStart => exact ⟨0, by omega, rfl, Below.refl _ _⟩
    case round =>
      obtain ⟨k, hk, rfl, hb⟩ := hrel
      obtain ⟨wo, rfl⟩ : ∃ wo : World, wo = wr := ⟨_, rfl⟩
      have V0r := Lib.hid (V0.out.later hb)
      have Vr := Lib.hid (V.out.later hb)
      have Kr := Lib.hid (K.out.later hb)
      clear K_0 K_1 K_2
      have K_0 : _ = some (Value.int .i64 own) := Kr.out.cell 0
      have K_1 : _ = some (Value.int .i64 high) := Kr.out.cell 1
      have K_2 : _ = some (Value.slice (some ⟨g, 0, none⟩) L.length cap) := Kr.out.cell 2
      have Hb := Lib.hid hb
      clear hb
      by_cases hlt : k < n
      case pos =>
        obtain ⟨g0, off0, rfl, hg0, hc0⟩ := V0r.out.2 (by omega)
        have hck := hc0 k hlt
        obtain ⟨y, hy⟩ : ∃ y, xs.getD k 0 = y := ⟨_, rfl⟩
        have hym : y ∈ xs := by rw [← hy]; exact getD_mem (by rw [V0.out.1]; exact hlt)
        rw [hy] at hck
        have hx1 := index_run g0 off0 n c k (k : Int) rfl hlt
        clear hc0 hy
        by_cases e : y = own
        · have de : (y != own) = false := by rw [bne_eq_false_iff_eq]; exact e
          clear e hym
          go_wp2
          go_quiet (fail)
          clear hck hx1
          go_wp2
          go_roundw
          case rel => exact ⟨k + 1, by omega, by go_num, below_drewN Hb.out _⟩
          case measure => simp [intOf]; omega
        · have de : (y != own) = true := by rw [bne_iff_ne]; exact e
          have HS : Hid (sees own high L y = false) := by have := sees_not (own := own) (high := high) hym e; rw [HL.out] at this; exact this
          clear e hym
          have CS : Hid (∀ W, SO wo ⟨g0, off0 + k, none⟩ y w2.heap.size own high g L.length cap W → Calls Try.prog 9 #[.agg #[.int .i64 own, .int .i64 high, .slice (some ⟨g, 0, none⟩) L.length cap], .int .i64 y] W fun e w' => e = .returned (.bool false) ∧ Below W.heap.size W w') := fun W h => by
            have := Sees_any own high (some ⟨g, 0, none⟩) L.length cap L y W (Vr.out.later h.1) (by omega)
            rw [HS.out] at this; exact this
          have KS : Hid (∀ W W2, Below W.heap.size W W2 → SO wo ⟨g0, off0 + k, none⟩ y w2.heap.size own high g L.length cap W → SO wo ⟨g0, off0 + k, none⟩ y w2.heap.size own high g L.length cap W2) := fun W W2 h2 h1 => so_later hck hg0 Kr.out (stepB h1.1 h2)
          have K0 : Hid (SO wo ⟨g0, off0 + k, none⟩ y w2.heap.size own high g L.length cap wo.drew) := so_later hck hg0 Kr.out (Below.drew (Below.refl _ _))
          clear K_0 K_1 K_2 hck
          go_wp2_with fail
          go_region_held3 (SO wo ⟨g0, off0 + k, none⟩ y w2.heap.size own high g L.length cap) (first | assumption | exact K0.out | exact KS.out _ _ (by assumption) (by assumption) | exact KS.out _ _ (below_drewN (Below.refl _ _) _) (by assumption)) (first
            | (go_at_call 9; refine (CS.out _ (by assumption)).mono ?_; rintro e w2 ⟨rfl, hb⟩))
          all_goals (
            rename SO _ _ _ _ _ _ _ _ _ _ => hSO
            have hz := Lib.hid (Hb.out.trans (hSO.1.mono Hb.out.size))
            clear hSO
            go_wp2
            go_roundw
            case rel => exact ⟨k + 1, by omega, by go_num, hz.out⟩
            case measure => simp [intOf]; omega)
      case neg =>
        clear V0r V0 V K
        have H0 : Hid (Below w.heap.size w wo) := stepB W0.out Hb.out
        clear Hb W0
        clear K_0 K_1 K_2
        have Kr_0 : _ = some (Value.int .i64 own) := Kr.out.cell 0
        have Kr_1 : _ = some (Value.int .i64 high) := Kr.out.cell 1
        have Kr_2 : _ = some (Value.slice (some ⟨g, 0, none⟩) L.length cap) := Kr.out.cell 2
        obtain ⟨least, hl⟩ : ∃ l, leastOf own high L = l := ⟨_, rfl⟩
        have HE := Lib.hid hl
        have hl1 : 1 ≤ least := by rw [← hl, ← HL.out]; exact least_one own high xs
        have hl2 : least ≠ 9223372036854775807 → sees own high L least = false := fun h => by rw [← hl, ← HL.out] at h ⊢; exact least_not h (by omega)
        have hl3 : ∀ x, 1 ≤ x → x < least → sees own high L x = true := fun x h1 h2 => by rw [← hl, ← HL.out] at h2; rw [← HL.out]; exact least_sees h1 h2
        have hl4 : least ≤ 9223372036854775807 := by rw [← hl]; have h1 := (first_bound (own := own) hh.2).2; have h2 := fold_le own L (firstOf own high); unfold leastOf; omega
        have HL2 := Lib.hid hl2
        have HL3 := Lib.hid hl3
        clear hl hl2 hl3
        go_wp2_with fail
        refine (Least_any own high (some ⟨g, 0, none⟩) L.length cap L _ Vr.out (by omega) hh.2).mono ?_
        rintro e w7 ⟨rfl, hb⟩
        rw [HE.out]
        clear HE
        replace Vr := Lib.hid (Vr.out.later hb)
        replace Kr := Lib.hid (Kr.out.later hb)
        replace Kr_0 : _ = some (Value.int .i64 own) := Kr.out.cell 0
        replace Kr_1 : _ = some (Value.int .i64 high) := Kr.out.cell 1
        replace Kr_2 : _ = some (Value.slice (some ⟨g, 0, none⟩) L.length cap) := Kr.out.cell 2
        have H7 : Hid (Below w.heap.size w w7) := stepB H0.out hb
        clear hb H0
        have d5 : decide (least < 1) = false := decide_eq_false (by omega)
        by_cases c6 : least = 9223372036854775807
        · have d6 : (least != 9223372036854775807) = false := by rw [bne_eq_false_iff_eq]; exact c6
          clear c6
          by_cases c7 : 1 ≤ x
          · have d7 : decide (1 ≤ x) = true := decide_eq_true c7
            by_cases c8 : x < least
            · have d8 : decide (x < least) = true := decide_eq_true c8
              have HT := Lib.hid (HL3.out x c7 c8)
              go_wp2_with fail
              refine (Sees_any own high (some ⟨g, 0, none⟩) L.length cap L x _ Vr.out (by omega)).mono ?_
              rintro e w8 ⟨rfl, hb⟩
              rw [HT.out]
              replace Vr := Lib.hid (Vr.out.later hb)
              replace Kr := Lib.hid (Kr.out.later hb)
              replace Kr_0 : _ = some (Value.int .i64 own) := Kr.out.cell 0
              replace Kr_1 : _ = some (Value.int .i64 high) := Kr.out.cell 1
              replace Kr_2 : _ = some (Value.slice (some ⟨g, 0, none⟩) L.length cap) := Kr.out.cell 2
              have H8 : Hid (Below w.heap.size w w8) := stepB H7.out hb
              clear hb H7
              go_wp2_with fail
              have W1 : Hid (Below w.heap.size w w8) := H8.out
              go_loopw [12] (fun i wr => ∃ k : Nat, 1 ≤ k ∧ k ≤ 400 ∧ i = .int .i64 k ∧ Below w8.heap.size w8 wr) (fun i _ => 400 - (intOf i).toNat)
              case atStart => exact ⟨1, by omega, by omega, rfl, Below.refl _ _⟩
              case round =>
                obtain ⟨k, hk1, hk2, rfl, hb⟩ := hrel
                obtain ⟨wp, rfl⟩ : ∃ wp : World, wp = wr := ⟨_, rfl⟩
                have Vs := Lib.hid (Vr.out.later hb)
                have Ks := Lib.hid (Kr.out.later hb)
                clear Kr_0 Kr_1 Kr_2
                have K_0 : _ = some (Value.int .i64 own) := Ks.out.cell 0
                have K_1 : _ = some (Value.int .i64 high) := Ks.out.cell 1
                have K_2 : _ = some (Value.slice (some ⟨g, 0, none⟩) L.length cap) := Ks.out.cell 2
                have Hb := Lib.hid hb
                clear hb
                by_cases c1 : (k : Int) < least
                · have e1 : decide ((k : Int) < least) = true := decide_eq_true c1
                  by_cases c2 : k < 400
                  · have e2 : decide (k < 400) = true := decide_eq_true c2
                    have e2' : decide ((k : Int) < 400) = true := decide_eq_true (by omega)
                    have HT := Lib.hid (HL3.out k (by omega) c1)
                    go_wp2_with fail
                    refine (Sees_any own high (some ⟨g, 0, none⟩) L.length cap L k _ Vs.out (by omega)).mono ?_
                    rintro e wq ⟨rfl, hb⟩
                    rw [HT.out]
                    have Hb2 := Lib.hid (stepB Hb.out hb)
                    clear hb
                    go_wp2_with fail
                    go_roundw
                    case rel => exact ⟨k + 1, by omega, by omega, by go_num, Hb2.out⟩
                    case measure => simp [intOf]; omega
                  · have e2 : decide (k < 400) = false := decide_eq_false c2
                    have e2' : decide ((k : Int) < 400) = false := decide_eq_false (by omega)
                    have Hz := Lib.hid (stepB W1.out Hb.out)
                    go_wp2_with fail
                    go_ret
                    exact ⟨rfl, Hz.out⟩
                · have e1 : decide ((k : Int) < least) = false := decide_eq_false c1
                  have Hz := Lib.hid (stepB W1.out Hb.out)
                  go_wp2_with fail
                  go_ret
                  exact ⟨rfl, Hz.out⟩

            · have d8 : decide (x < least) = false := decide_eq_false c8
              go_wp2_with fail
              have W1 : Hid (Below w.heap.size w w7) := H7.out
              go_loopw [12] (fun i wr => ∃ k : Nat, 1 ≤ k ∧ k ≤ 400 ∧ i = .int .i64 k ∧ Below w7.heap.size w7 wr) (fun i _ => 400 - (intOf i).toNat)
              case atStart => exact ⟨1, by omega, by omega, rfl, Below.refl _ _⟩
              case round =>
                obtain ⟨k, hk1, hk2, rfl, hb⟩ := hrel
                obtain ⟨wp, rfl⟩ : ∃ wp : World, wp = wr := ⟨_, rfl⟩
                have Vs := Lib.hid (Vr.out.later hb)
                have Ks := Lib.hid (Kr.out.later hb)
                clear Kr_0 Kr_1 Kr_2
                have K_0 : _ = some (Value.int .i64 own) := Ks.out.cell 0
                have K_1 : _ = some (Value.int .i64 high) := Ks.out.cell 1
                have K_2 : _ = some (Value.slice (some ⟨g, 0, none⟩) L.length cap) := Ks.out.cell 2
                have Hb := Lib.hid hb
                clear hb
                by_cases c1 : (k : Int) < least
                · have e1 : decide ((k : Int) < least) = true := decide_eq_true c1
                  by_cases c2 : k < 400
                  · have e2 : decide (k < 400) = true := decide_eq_true c2
                    have e2' : decide ((k : Int) < 400) = true := decide_eq_true (by omega)
                    have HT := Lib.hid (HL3.out k (by omega) c1)
                    go_wp2_with fail
                    refine (Sees_any own high (some ⟨g, 0, none⟩) L.length cap L k _ Vs.out (by omega)).mono ?_
                    rintro e wq ⟨rfl, hb⟩
                    rw [HT.out]
                    have Hb2 := Lib.hid (stepB Hb.out hb)
                    clear hb
                    go_wp2_with fail
                    go_roundw
                    case rel => exact ⟨k + 1, by omega, by omega, by go_num, Hb2.out⟩
                    case measure => simp [intOf]; omega
                  · have e2 : decide (k < 400) = false := decide_eq_false c2
                    have e2' : decide ((k : Int) < 400) = false := decide_eq_false (by omega)
                    have Hz := Lib.hid (stepB W1.out Hb.out)
                    go_wp2_with fail
                    go_ret
                    exact ⟨rfl, Hz.out⟩
                · have e1 : decide ((k : Int) < least) = false := decide_eq_false c1
                  have Hz := Lib.hid (stepB W1.out Hb.out)
                  go_wp2_with fail
                  go_ret
                  exact ⟨rfl, Hz.out⟩

          · have d7 : decide (1 ≤ x) = false := decide_eq_false c7
            go_wp2_with fail
            have W1 : Hid (Below w.heap.size w w7) := H7.out
            go_loopw [12] (fun i wr => ∃ k : Nat, 1 ≤ k ∧ k ≤ 400 ∧ i = .int .i64 k ∧ Below w7.heap.size w7 wr) (fun i _ => 400 - (intOf i).toNat)
            case atStart => exact ⟨1, by omega, by omega, rfl, Below.refl _ _⟩
            case round =>
              obtain ⟨k, hk1, hk2, rfl, hb⟩ := hrel
              obtain ⟨wp, rfl⟩ : ∃ wp : World, wp = wr := ⟨_, rfl⟩
              have Vs := Lib.hid (Vr.out.later hb)
              have Ks := Lib.hid (Kr.out.later hb)
              clear Kr_0 Kr_1 Kr_2
              have K_0 : _ = some (Value.int .i64 own) := Ks.out.cell 0
              have K_1 : _ = some (Value.int .i64 high) := Ks.out.cell 1
              have K_2 : _ = some (Value.slice (some ⟨g, 0, none⟩) L.length cap) := Ks.out.cell 2
              have Hb := Lib.hid hb
              clear hb
              by_cases c1 : (k : Int) < least
              · have e1 : decide ((k : Int) < least) = true := decide_eq_true c1
                by_cases c2 : k < 400
                · have e2 : decide (k < 400) = true := decide_eq_true c2
                  have e2' : decide ((k : Int) < 400) = true := decide_eq_true (by omega)
                  have HT := Lib.hid (HL3.out k (by omega) c1)
                  go_wp2_with fail
                  refine (Sees_any own high (some ⟨g, 0, none⟩) L.length cap L k _ Vs.out (by omega)).mono ?_
                  rintro e wq ⟨rfl, hb⟩
                  rw [HT.out]
                  have Hb2 := Lib.hid (stepB Hb.out hb)
                  clear hb
                  go_wp2_with fail
                  go_roundw
                  case rel => exact ⟨k + 1, by omega, by omega, by go_num, Hb2.out⟩
                  case measure => simp [intOf]; omega
                · have e2 : decide (k < 400) = false := decide_eq_false c2
                  have e2' : decide ((k : Int) < 400) = false := decide_eq_false (by omega)
                  have Hz := Lib.hid (stepB W1.out Hb.out)
                  go_wp2_with fail
                  go_ret
                  exact ⟨rfl, Hz.out⟩
              · have e1 : decide ((k : Int) < least) = false := decide_eq_false c1
                have Hz := Lib.hid (stepB W1.out Hb.out)
                go_wp2_with fail
                go_ret
                exact ⟨rfl, Hz.out⟩
        · have d6 : (least != 9223372036854775807) = true := by rw [bne_iff_ne]; exact c6
          have HN := Lib.hid (HL2.out c6)
          clear c6
          go_wp2_with fail
          refine (Sees_any own high (some ⟨g, 0, none⟩) L.length cap L least _ Vr.out (by omega)).mono ?_
          rintro e w8 ⟨rfl, hb⟩
          rw [HN.out]
          replace Vr := Lib.hid (Vr.out.later hb)
          replace Kr := Lib.hid (Kr.out.later hb)
          replace Kr_0 : _ = some (Value.int .i64 own) := Kr.out.cell 0
          replace Kr_1 : _ = some (Value.int .i64 high) := Kr.out.cell 1
          replace Kr_2 : _ = some (Value.slice (some ⟨g, 0, none⟩) L.length cap) := Kr.out.cell 2
          have H8 : Hid (Below w.heap.size w w8) := stepB H7.out hb
          clear hb H7
          by_cases c7 : 1 ≤ x
          · have d7 : decide (1 ≤ x) = true := decide_eq_true c7
            by_cases c8 : x < least
            · have d8 : decide (x < least) = true := decide_eq_true c8
              have HT := Lib.hid (HL3.out x c7 c8)
              go_wp2_with fail
              refine (Sees_any own high (some ⟨g, 0, none⟩) L.length cap L x _ Vr.out (by omega)).mono ?_
              rintro e w9 ⟨rfl, hb⟩
              rw [HT.out]
              replace Vr := Lib.hid (Vr.out.later hb)
              replace Kr := Lib.hid (Kr.out.later hb)
              replace Kr_0 : _ = some (Value.int .i64 own) := Kr.out.cell 0
              replace Kr_1 : _ = some (Value.int .i64 high) := Kr.out.cell 1
              replace Kr_2 : _ = some (Value.slice (some ⟨g, 0, none⟩) L.length cap) := Kr.out.cell 2
              have H9 : Hid (Below w.heap.size w w9) := stepB H8.out hb
              clear hb H8
              go_wp2_with fail
              have W1 : Hid (Below w.heap.size w w9) := H9.out
              go_loopw [12] (fun i wr => ∃ k : Nat, 1 ≤ k ∧ k ≤ 400 ∧ i = .int .i64 k ∧ Below w9.heap.size w9 wr) (fun i _ => 400 - (intOf i).toNat)
              case atStart => exact ⟨1, by omega, by omega, rfl, Below.refl _ _⟩
              case round =>
                obtain ⟨k, hk1, hk2, rfl, hb⟩ := hrel
                obtain ⟨wp, rfl⟩ : ∃ wp : World, wp = wr := ⟨_, rfl⟩
                have Vs := Lib.hid (Vr.out.later hb)
                have Ks := Lib.hid (Kr.out.later hb)
                clear Kr_0 Kr_1 Kr_2
                have K_0 : _ = some (Value.int .i64 own) := Ks.out.cell 0
                have K_1 : _ = some (Value.int .i64 high) := Ks.out.cell 1
                have K_2 : _ = some (Value.slice (some ⟨g, 0, none⟩) L.length cap) := Ks.out.cell 2
                have Hb := Lib.hid hb
                clear hb
                by_cases c1 : (k : Int) < least
                · have e1 : decide ((k : Int) < least) = true := decide_eq_true c1
                  by_cases c2 : k < 400
                  · have e2 : decide (k < 400) = true := decide_eq_true c2
                    have e2' : decide ((k : Int) < 400) = true := decide_eq_true (by omega)
                    have HT := Lib.hid (HL3.out k (by omega) c1)
                    go_wp2_with fail
                    refine (Sees_any own high (some ⟨g, 0, none⟩) L.length cap L k _ Vs.out (by omega)).mono ?_
                    rintro e wq ⟨rfl, hb⟩
                    rw [HT.out]
                    have Hb2 := Lib.hid (stepB Hb.out hb)
                    clear hb
                    go_wp2_with fail
                    go_roundw
                    case rel => exact ⟨k + 1, by omega, by omega, by go_num, Hb2.out⟩
                    case measure => simp [intOf]; omega
                  · have e2 : decide (k < 400) = false := decide_eq_false c2
                    have e2' : decide ((k : Int) < 400) = false := decide_eq_false (by omega)
                    have Hz := Lib.hid (stepB W1.out Hb.out)
                    go_wp2_with fail
                    go_ret
                    exact ⟨rfl, Hz.out⟩
                · have e1 : decide ((k : Int) < least) = false := decide_eq_false c1
                  have Hz := Lib.hid (stepB W1.out Hb.out)
                  go_wp2_with fail
                  go_ret
                  exact ⟨rfl, Hz.out⟩

            · have d8 : decide (x < least) = false := decide_eq_false c8
              go_wp2_with fail
              have W1 : Hid (Below w.heap.size w w8) := H8.out
              go_loopw [12] (fun i wr => ∃ k : Nat, 1 ≤ k ∧ k ≤ 400 ∧ i = .int .i64 k ∧ Below w8.heap.size w8 wr) (fun i _ => 400 - (intOf i).toNat)
              case atStart => exact ⟨1, by omega, by omega, rfl, Below.refl _ _⟩
              case round =>
                obtain ⟨k, hk1, hk2, rfl, hb⟩ := hrel
                obtain ⟨wp, rfl⟩ : ∃ wp : World, wp = wr := ⟨_, rfl⟩
                have Vs := Lib.hid (Vr.out.later hb)
                have Ks := Lib.hid (Kr.out.later hb)
                clear Kr_0 Kr_1 Kr_2
                have K_0 : _ = some (Value.int .i64 own) := Ks.out.cell 0
                have K_1 : _ = some (Value.int .i64 high) := Ks.out.cell 1
                have K_2 : _ = some (Value.slice (some ⟨g, 0, none⟩) L.length cap) := Ks.out.cell 2
                have Hb := Lib.hid hb
                clear hb
                by_cases c1 : (k : Int) < least
                · have e1 : decide ((k : Int) < least) = true := decide_eq_true c1
                  by_cases c2 : k < 400
                  · have e2 : decide (k < 400) = true := decide_eq_true c2
                    have e2' : decide ((k : Int) < 400) = true := decide_eq_true (by omega)
                    have HT := Lib.hid (HL3.out k (by omega) c1)
                    go_wp2_with fail
                    refine (Sees_any own high (some ⟨g, 0, none⟩) L.length cap L k _ Vs.out (by omega)).mono ?_
                    rintro e wq ⟨rfl, hb⟩
                    rw [HT.out]
                    have Hb2 := Lib.hid (stepB Hb.out hb)
                    clear hb
                    go_wp2_with fail
                    go_roundw
                    case rel => exact ⟨k + 1, by omega, by omega, by go_num, Hb2.out⟩
                    case measure => simp [intOf]; omega
                  · have e2 : decide (k < 400) = false := decide_eq_false c2
                    have e2' : decide ((k : Int) < 400) = false := decide_eq_false (by omega)
                    have Hz := Lib.hid (stepB W1.out Hb.out)
                    go_wp2_with fail
                    go_ret
                    exact ⟨rfl, Hz.out⟩
                · have e1 : decide ((k : Int) < least) = false := decide_eq_false c1
                  have Hz := Lib.hid (stepB W1.out Hb.out)
                  go_wp2_with fail
                  go_ret
                  exact ⟨rfl, Hz.out⟩

          · have d7 : decide (1 ≤ x) = false := decide_eq_false c7
            go_wp2_with fail
            have W1 : Hid (Below w.heap.size w w8) := H8.out
            go_loopw [12] (fun i wr => ∃ k : Nat, 1 ≤ k ∧ k ≤ 400 ∧ i = .int .i64 k ∧ Below w8.heap.size w8 wr) (fun i _ => 400 - (intOf i).toNat)
            case atStart => exact ⟨1, by omega, by omega, rfl, Below.refl _ _⟩
            case round =>
              obtain ⟨k, hk1, hk2, rfl, hb⟩ := hrel
              obtain ⟨wp, rfl⟩ : ∃ wp : World, wp = wr := ⟨_, rfl⟩
              have Vs := Lib.hid (Vr.out.later hb)
              have Ks := Lib.hid (Kr.out.later hb)
              clear Kr_0 Kr_1 Kr_2
              have K_0 : _ = some (Value.int .i64 own) := Ks.out.cell 0
              have K_1 : _ = some (Value.int .i64 high) := Ks.out.cell 1
              have K_2 : _ = some (Value.slice (some ⟨g, 0, none⟩) L.length cap) := Ks.out.cell 2
              have Hb := Lib.hid hb
              clear hb
              by_cases c1 : (k : Int) < least
              · have e1 : decide ((k : Int) < least) = true := decide_eq_true c1
                by_cases c2 : k < 400
                · have e2 : decide (k < 400) = true := decide_eq_true c2
                  have e2' : decide ((k : Int) < 400) = true := decide_eq_true (by omega)
                  have HT := Lib.hid (HL3.out k (by omega) c1)
                  go_wp2_with fail
                  refine (Sees_any own high (some ⟨g, 0, none⟩) L.length cap L k _ Vs.out (by omega)).mono ?_
                  rintro e wq ⟨rfl, hb⟩
                  rw [HT.out]
                  have Hb2 := Lib.hid (stepB Hb.out hb)
                  clear hb
                  go_wp2_with fail
                  go_roundw
                  case rel => exact ⟨k + 1, by omega, by omega, by go_num, Hb2.out⟩
                  case measure => simp [intOf]; omega
                · have e2 : decide (k < 400) = false := decide_eq_false c2
                  have e2' : decide ((k : Int) < 400) = false := decide_eq_false (by omega)
                  have Hz := Lib.hid (stepB W1.out Hb.out)
                  go_wp2_with fail
                  go_ret
                  exact ⟨rfl, Hz.out⟩
              · have e1 : decide ((k : Int) < least) = false := decide_eq_false c1
                have Hz := Lib.hid (stepB W1.out Hb.out)
                go_wp2_with fail
                go_ret
                exact ⟨rfl, Hz.out⟩
  have d4 : (x != own) = true := by rw [bne_iff_ne]; exact c1
  by_cases c2 : high ≤ x
  · have d5 : decide (high ≤ x) = true := decide_eq_true c2
    have HQ : Hid (sees own high L x = false) := sees_high c1 (by omega)
    clear c1
    go_wp2_with fail
    refine (Sees_any own high (some ⟨g, 0, none⟩) L.length cap L x _ V.out (by omega)).mono ?_
    rintro e w5 ⟨rfl, hb⟩
    rw [HQ.out]
    replace V0 := Lib.hid (V0.out.later hb)
    replace V := Lib.hid (V.out.later hb)
    replace K := Lib.hid (K.out.later hb)
    replace K_0 : _ = some (Value.int .i64 own) := K.out.cell 0
    replace K_1 : _ = some (Value.int .i64 high) := K.out.cell 1
    replace K_2 : _ = some (Value.slice (some ⟨g, 0, none⟩) L.length cap) := K.out.cell 2
    have H5 : Hid (Below w.heap.size w w5) := stepB H4.out hb
    clear hb H4
    go_wp2_with fail
    have W0 : Hid (Below w.heap.size w w5) := H5.out
    go_loopw [10] (fun i wr => ∃ k : Nat, k ≤ n ∧ i = .int .i64 k ∧ Below w5.heap.size w5 wr) (fun i _ => n - (intOf i).toNat)
    case atStart => exact ⟨0, by omega, rfl, Below.refl _ _⟩
    case round =>
      obtain ⟨k, hk, rfl, hb⟩ := hrel
      obtain ⟨wo, rfl⟩ : ∃ wo : World, wo = wr := ⟨_, rfl⟩
      have V0r := Lib.hid (V0.out.later hb)
      have Vr := Lib.hid (V.out.later hb)
      have Kr := Lib.hid (K.out.later hb)
      clear K_0 K_1 K_2
      have K_0 : _ = some (Value.int .i64 own) := Kr.out.cell 0
      have K_1 : _ = some (Value.int .i64 high) := Kr.out.cell 1
      have K_2 : _ = some (Value.slice (some ⟨g, 0, none⟩) L.length cap) := Kr.out.cell 2
      have Hb := Lib.hid hb
      clear hb
      by_cases hlt : k < n
      case pos =>
        obtain ⟨g0, off0, rfl, hg0, hc0⟩ := V0r.out.2 (by omega)
        have hck := hc0 k hlt
        obtain ⟨y, hy⟩ : ∃ y, xs.getD k 0 = y := ⟨_, rfl⟩
        have hym : y ∈ xs := by rw [← hy]; exact getD_mem (by rw [V0.out.1]; exact hlt)
        rw [hy] at hck
        have hx1 := index_run g0 off0 n c k (k : Int) rfl hlt
        clear hc0 hy
        by_cases e : y = own
        · have de : (y != own) = false := by rw [bne_eq_false_iff_eq]; exact e
          clear e hym
          go_wp2
          go_quiet (fail)
          clear hck hx1
          go_wp2
          go_roundw
          case rel => exact ⟨k + 1, by omega, by go_num, below_drewN Hb.out _⟩
          case measure => simp [intOf]; omega
        · have de : (y != own) = true := by rw [bne_iff_ne]; exact e
          have HS : Hid (sees own high L y = false) := by have := sees_not (own := own) (high := high) hym e; rw [HL.out] at this; exact this
          clear e hym
          have CS : Hid (∀ W, SO wo ⟨g0, off0 + k, none⟩ y w2.heap.size own high g L.length cap W → Calls Try.prog 9 #[.agg #[.int .i64 own, .int .i64 high, .slice (some ⟨g, 0, none⟩) L.length cap], .int .i64 y] W fun e w' => e = .returned (.bool false) ∧ Below W.heap.size W w') := fun W h => by
            have := Sees_any own high (some ⟨g, 0, none⟩) L.length cap L y W (Vr.out.later h.1) (by omega)
            rw [HS.out] at this; exact this
          have KS : Hid (∀ W W2, Below W.heap.size W W2 → SO wo ⟨g0, off0 + k, none⟩ y w2.heap.size own high g L.length cap W → SO wo ⟨g0, off0 + k, none⟩ y w2.heap.size own high g L.length cap W2) := fun W W2 h2 h1 => so_later hck hg0 Kr.out (stepB h1.1 h2)
          have K0 : Hid (SO wo ⟨g0, off0 + k, none⟩ y w2.heap.size own high g L.length cap wo.drew) := so_later hck hg0 Kr.out (Below.drew (Below.refl _ _))
          clear K_0 K_1 K_2 hck
          go_wp2_with fail
          go_region_held3 (SO wo ⟨g0, off0 + k, none⟩ y w2.heap.size own high g L.length cap) (first | assumption | exact K0.out | exact KS.out _ _ (by assumption) (by assumption) | exact KS.out _ _ (below_drewN (Below.refl _ _) _) (by assumption)) (first
            | (go_at_call 9; refine (CS.out _ (by assumption)).mono ?_; rintro e w2 ⟨rfl, hb⟩))
          all_goals (
            rename SO _ _ _ _ _ _ _ _ _ _ => hSO
            have hz := Lib.hid (Hb.out.trans (hSO.1.mono Hb.out.size))
            clear hSO
            go_wp2
            go_roundw
            case rel => exact ⟨k + 1, by omega, by go_num, hz.out⟩
            case measure => simp [intOf]; omega)
      case neg =>
        clear V0r V0 V K
        have H0 : Hid (Below w.heap.size w wo) := stepB W0.out Hb.out
        clear Hb W0
        clear K_0 K_1 K_2
        have Kr_0 : _ = some (Value.int .i64 own) := Kr.out.cell 0
        have Kr_1 : _ = some (Value.int .i64 high) := Kr.out.cell 1
        have Kr_2 : _ = some (Value.slice (some ⟨g, 0, none⟩) L.length cap) := Kr.out.cell 2
        obtain ⟨least, hl⟩ : ∃ l, leastOf own high L = l := ⟨_, rfl⟩
        have HE := Lib.hid hl
        have hl1 : 1 ≤ least := by rw [← hl, ← HL.out]; exact least_one own high xs
        have hl2 : least ≠ 9223372036854775807 → sees own high L least = false := fun h => by rw [← hl, ← HL.out] at h ⊢; exact least_not h (by omega)
        have hl3 : ∀ x, 1 ≤ x → x < least → sees own high L x = true := fun x h1 h2 => by rw [← hl, ← HL.out] at h2; rw [← HL.out]; exact least_sees h1 h2
        have hl4 : least ≤ 9223372036854775807 := by rw [← hl]; have h1 := (first_bound (own := own) hh.2).2; have h2 := fold_le own L (firstOf own high); unfold leastOf; omega
        have HL2 := Lib.hid hl2
        have HL3 := Lib.hid hl3
        clear hl hl2 hl3
        go_wp2_with fail
        refine (Least_any own high (some ⟨g, 0, none⟩) L.length cap L _ Vr.out (by omega) hh.2).mono ?_
        rintro e w8 ⟨rfl, hb⟩
        rw [HE.out]
        clear HE
        replace Vr := Lib.hid (Vr.out.later hb)
        replace Kr := Lib.hid (Kr.out.later hb)
        replace Kr_0 : _ = some (Value.int .i64 own) := Kr.out.cell 0
        replace Kr_1 : _ = some (Value.int .i64 high) := Kr.out.cell 1
        replace Kr_2 : _ = some (Value.slice (some ⟨g, 0, none⟩) L.length cap) := Kr.out.cell 2
        have H8 : Hid (Below w.heap.size w w8) := stepB H0.out hb
        clear hb H0
        have d5 : decide (least < 1) = false := decide_eq_false (by omega)
        by_cases c6 : least = 9223372036854775807
        · have d6 : (least != 9223372036854775807) = false := by rw [bne_eq_false_iff_eq]; exact c6
          clear c6
          by_cases c7 : 1 ≤ x
          · have d7 : decide (1 ≤ x) = true := decide_eq_true c7
            by_cases c8 : x < least
            · have d8 : decide (x < least) = true := decide_eq_true c8
              have HT := Lib.hid (HL3.out x c7 c8)
              go_wp2_with fail
              refine (Sees_any own high (some ⟨g, 0, none⟩) L.length cap L x _ Vr.out (by omega)).mono ?_
              rintro e w9 ⟨rfl, hb⟩
              rw [HT.out]
              replace Vr := Lib.hid (Vr.out.later hb)
              replace Kr := Lib.hid (Kr.out.later hb)
              replace Kr_0 : _ = some (Value.int .i64 own) := Kr.out.cell 0
              replace Kr_1 : _ = some (Value.int .i64 high) := Kr.out.cell 1
              replace Kr_2 : _ = some (Value.slice (some ⟨g, 0, none⟩) L.length cap) := Kr.out.cell 2
              have H9 : Hid (Below w.heap.size w w9) := stepB H8.out hb
              clear hb H8
              go_wp2_with fail
              have W1 : Hid (Below w.heap.size w w9) := H9.out
              go_loopw [12] (fun i wr => ∃ k : Nat, 1 ≤ k ∧ k ≤ 400 ∧ i = .int .i64 k ∧ Below w9.heap.size w9 wr) (fun i _ => 400 - (intOf i).toNat)
              case atStart => exact ⟨1, by omega, by omega, rfl, Below.refl _ _⟩
              case round =>
                obtain ⟨k, hk1, hk2, rfl, hb⟩ := hrel
                obtain ⟨wp, rfl⟩ : ∃ wp : World, wp = wr := ⟨_, rfl⟩
                have Vs := Lib.hid (Vr.out.later hb)
                have Ks := Lib.hid (Kr.out.later hb)
                clear Kr_0 Kr_1 Kr_2
                have K_0 : _ = some (Value.int .i64 own) := Ks.out.cell 0
                have K_1 : _ = some (Value.int .i64 high) := Ks.out.cell 1
                have K_2 : _ = some (Value.slice (some ⟨g, 0, none⟩) L.length cap) := Ks.out.cell 2
                have Hb := Lib.hid hb
                clear hb
                by_cases c1 : (k : Int) < least
                · have e1 : decide ((k : Int) < least) = true := decide_eq_true c1
                  by_cases c2 : k < 400
                  · have e2 : decide (k < 400) = true := decide_eq_true c2
                    have e2' : decide ((k : Int) < 400) = true := decide_eq_true (by omega)
                    have HT := Lib.hid (HL3.out k (by omega) c1)
                    go_wp2_with fail
                    refine (Sees_any own high (some ⟨g, 0, none⟩) L.length cap L k _ Vs.out (by omega)).mono ?_
                    rintro e wq ⟨rfl, hb⟩
                    rw [HT.out]
                    have Hb2 := Lib.hid (stepB Hb.out hb)
                    clear hb
                    go_wp2_with fail
                    go_roundw
                    case rel => exact ⟨k + 1, by omega, by omega, by go_num, Hb2.out⟩
                    case measure => simp [intOf]; omega
                  · have e2 : decide (k < 400) = false := decide_eq_false c2
                    have e2' : decide ((k : Int) < 400) = false := decide_eq_false (by omega)
                    have Hz := Lib.hid (stepB W1.out Hb.out)
                    go_wp2_with fail
                    go_ret
                    exact ⟨rfl, Hz.out⟩
                · have e1 : decide ((k : Int) < least) = false := decide_eq_false c1
                  have Hz := Lib.hid (stepB W1.out Hb.out)
                  go_wp2_with fail
                  go_ret
                  exact ⟨rfl, Hz.out⟩

            · have d8 : decide (x < least) = false := decide_eq_false c8
              go_wp2_with fail
              have W1 : Hid (Below w.heap.size w w8) := H8.out
              go_loopw [12] (fun i wr => ∃ k : Nat, 1 ≤ k ∧ k ≤ 400 ∧ i = .int .i64 k ∧ Below w8.heap.size w8 wr) (fun i _ => 400 - (intOf i).toNat)
              case atStart => exact ⟨1, by omega, by omega, rfl, Below.refl _ _⟩
              case round =>
                obtain ⟨k, hk1, hk2, rfl, hb⟩ := hrel
                obtain ⟨wp, rfl⟩ : ∃ wp : World, wp = wr := ⟨_, rfl⟩
                have Vs := Lib.hid (Vr.out.later hb)
                have Ks := Lib.hid (Kr.out.later hb)
                clear Kr_0 Kr_1 Kr_2
                have K_0 : _ = some (Value.int .i64 own) := Ks.out.cell 0
                have K_1 : _ = some (Value.int .i64 high) := Ks.out.cell 1
                have K_2 : _ = some (Value.slice (some ⟨g, 0, none⟩) L.length cap) := Ks.out.cell 2
                have Hb := Lib.hid hb
                clear hb
                by_cases c1 : (k : Int) < least
                · have e1 : decide ((k : Int) < least) = true := decide_eq_true c1
                  by_cases c2 : k < 400
                  · have e2 : decide (k < 400) = true := decide_eq_true c2
                    have e2' : decide ((k : Int) < 400) = true := decide_eq_true (by omega)
                    have HT := Lib.hid (HL3.out k (by omega) c1)
                    go_wp2_with fail
                    refine (Sees_any own high (some ⟨g, 0, none⟩) L.length cap L k _ Vs.out (by omega)).mono ?_
                    rintro e wq ⟨rfl, hb⟩
                    rw [HT.out]
                    have Hb2 := Lib.hid (stepB Hb.out hb)
                    clear hb
                    go_wp2_with fail
                    go_roundw
                    case rel => exact ⟨k + 1, by omega, by omega, by go_num, Hb2.out⟩
                    case measure => simp [intOf]; omega
                  · have e2 : decide (k < 400) = false := decide_eq_false c2
                    have e2' : decide ((k : Int) < 400) = false := decide_eq_false (by omega)
                    have Hz := Lib.hid (stepB W1.out Hb.out)
                    go_wp2_with fail
                    go_ret
                    exact ⟨rfl, Hz.out⟩
                · have e1 : decide ((k : Int) < least) = false := decide_eq_false c1
                  have Hz := Lib.hid (stepB W1.out Hb.out)
                  go_wp2_with fail
                  go_ret
                  exact ⟨rfl, Hz.out⟩

          · have d7 : decide (1 ≤ x) = false := decide_eq_false c7
            go_wp2_with fail
            have W1 : Hid (Below w.heap.size w w8) := H8.out
            go_loopw [12] (fun i wr => ∃ k : Nat, 1 ≤ k ∧ k ≤ 400 ∧ i = .int .i64 k ∧ Below w8.heap.size w8 wr) (fun i _ => 400 - (intOf i).toNat)
            case atStart => exact ⟨1, by omega, by omega, rfl, Below.refl _ _⟩
            case round =>
              obtain ⟨k, hk1, hk2, rfl, hb⟩ := hrel
              obtain ⟨wp, rfl⟩ : ∃ wp : World, wp = wr := ⟨_, rfl⟩
              have Vs := Lib.hid (Vr.out.later hb)
              have Ks := Lib.hid (Kr.out.later hb)
              clear Kr_0 Kr_1 Kr_2
              have K_0 : _ = some (Value.int .i64 own) := Ks.out.cell 0
              have K_1 : _ = some (Value.int .i64 high) := Ks.out.cell 1
              have K_2 : _ = some (Value.slice (some ⟨g, 0, none⟩) L.length cap) := Ks.out.cell 2
              have Hb := Lib.hid hb
              clear hb
              by_cases c1 : (k : Int) < least
              · have e1 : decide ((k : Int) < least) = true := decide_eq_true c1
                by_cases c2 : k < 400
                · have e2 : decide (k < 400) = true := decide_eq_true c2
                  have e2' : decide ((k : Int) < 400) = true := decide_eq_true (by omega)
                  have HT := Lib.hid (HL3.out k (by omega) c1)
                  go_wp2_with fail
                  refine (Sees_any own high (some ⟨g, 0, none⟩) L.length cap L k _ Vs.out (by omega)).mono ?_
                  rintro e wq ⟨rfl, hb⟩
                  rw [HT.out]
                  have Hb2 := Lib.hid (stepB Hb.out hb)
                  clear hb
                  go_wp2_with fail
                  go_roundw
                  case rel => exact ⟨k + 1, by omega, by omega, by go_num, Hb2.out⟩
                  case measure => simp [intOf]; omega
                · have e2 : decide (k < 400) = false := decide_eq_false c2
                  have e2' : decide ((k : Int) < 400) = false := decide_eq_false (by omega)
                  have Hz := Lib.hid (stepB W1.out Hb.out)
                  go_wp2_with fail
                  go_ret
                  exact ⟨rfl, Hz.out⟩
              · have e1 : decide ((k : Int) < least) = false := decide_eq_false c1
                have Hz := Lib.hid (stepB W1.out Hb.out)
                go_wp2_with fail
                go_ret
                exact ⟨rfl, Hz.out⟩
        · have d6 : (least != 9223372036854775807) = true := by rw [bne_iff_ne]; exact c6
          have HN := Lib.hid (HL2.out c6)
          clear c6
          go_wp2_with fail
          refine (Sees_any own high (some ⟨g, 0, none⟩) L.length cap L least _ Vr.out (by omega)).mono ?_
          rintro e w9 ⟨rfl, hb⟩
          rw [HN.out]
          replace Vr := Lib.hid (Vr.out.later hb)
          replace Kr := Lib.hid (Kr.out.later hb)
          replace Kr_0 : _ = some (Value.int .i64 own) := Kr.out.cell 0
          replace Kr_1 : _ = some (Value.int .i64 high) := Kr.out.cell 1
          replace Kr_2 : _ = some (Value.slice (some ⟨g, 0, none⟩) L.length cap) := Kr.out.cell 2
          have H9 : Hid (Below w.heap.size w w9) := stepB H8.out hb
          clear hb H8
          by_cases c7 : 1 ≤ x
          · have d7 : decide (1 ≤ x) = true := decide_eq_true c7
            by_cases c8 : x < least
            · have d8 : decide (x < least) = true := decide_eq_true c8
              have HT := Lib.hid (HL3.out x c7 c8)
              go_wp2_with fail
              refine (Sees_any own high (some ⟨g, 0, none⟩) L.length cap L x _ Vr.out (by omega)).mono ?_
              rintro e w10 ⟨rfl, hb⟩
              rw [HT.out]
              replace Vr := Lib.hid (Vr.out.later hb)
              replace Kr := Lib.hid (Kr.out.later hb)
              replace Kr_0 : _ = some (Value.int .i64 own) := Kr.out.cell 0
              replace Kr_1 : _ = some (Value.int .i64 high) := Kr.out.cell 1
              replace Kr_2 : _ = some (Value.slice (some ⟨g, 0, none⟩) L.length cap) := Kr.out.cell 2
              have H10 : Hid (Below w.heap.size w w10) := stepB H9.out hb
              clear hb H9
              go_wp2_with fail
              have W1 : Hid (Below w.heap.size w w10) := H10.out
              go_loopw [12] (fun i wr => ∃ k : Nat, 1 ≤ k ∧ k ≤ 400 ∧ i = .int .i64 k ∧ Below w10.heap.size w10 wr) (fun i _ => 400 - (intOf i).toNat)
              case atStart => exact ⟨1, by omega, by omega, rfl, Below.refl _ _⟩
              case round =>
                obtain ⟨k, hk1, hk2, rfl, hb⟩ := hrel
                obtain ⟨wp, rfl⟩ : ∃ wp : World, wp = wr := ⟨_, rfl⟩
                have Vs := Lib.hid (Vr.out.later hb)
                have Ks := Lib.hid (Kr.out.later hb)
                clear Kr_0 Kr_1 Kr_2
                have K_0 : _ = some (Value.int .i64 own) := Ks.out.cell 0
                have K_1 : _ = some (Value.int .i64 high) := Ks.out.cell 1
                have K_2 : _ = some (Value.slice (some ⟨g, 0, none⟩) L.length cap) := Ks.out.cell 2
                have Hb := Lib.hid hb
                clear hb
                by_cases c1 : (k : Int) < least
                · have e1 : decide ((k : Int) < least) = true := decide_eq_true c1
                  by_cases c2 : k < 400
                  · have e2 : decide (k < 400) = true := decide_eq_true c2
                    have e2' : decide ((k : Int) < 400) = true := decide_eq_true (by omega)
                    have HT := Lib.hid (HL3.out k (by omega) c1)
                    go_wp2_with fail
                    refine (Sees_any own high (some ⟨g, 0, none⟩) L.length cap L k _ Vs.out (by omega)).mono ?_
                    rintro e wq ⟨rfl, hb⟩
                    rw [HT.out]
                    have Hb2 := Lib.hid (stepB Hb.out hb)
                    clear hb
                    go_wp2_with fail
                    go_roundw
                    case rel => exact ⟨k + 1, by omega, by omega, by go_num, Hb2.out⟩
                    case measure => simp [intOf]; omega
                  · have e2 : decide (k < 400) = false := decide_eq_false c2
                    have e2' : decide ((k : Int) < 400) = false := decide_eq_false (by omega)
                    have Hz := Lib.hid (stepB W1.out Hb.out)
                    go_wp2_with fail
                    go_ret
                    exact ⟨rfl, Hz.out⟩
                · have e1 : decide ((k : Int) < least) = false := decide_eq_false c1
                  have Hz := Lib.hid (stepB W1.out Hb.out)
                  go_wp2_with fail
                  go_ret
                  exact ⟨rfl, Hz.out⟩

            · have d8 : decide (x < least) = false := decide_eq_false c8
              go_wp2_with fail
              have W1 : Hid (Below w.heap.size w w9) := H9.out
              go_loopw [12] (fun i wr => ∃ k : Nat, 1 ≤ k ∧ k ≤ 400 ∧ i = .int .i64 k ∧ Below w9.heap.size w9 wr) (fun i _ => 400 - (intOf i).toNat)
              case atStart => exact ⟨1, by omega, by omega, rfl, Below.refl _ _⟩
              case round =>
                obtain ⟨k, hk1, hk2, rfl, hb⟩ := hrel
                obtain ⟨wp, rfl⟩ : ∃ wp : World, wp = wr := ⟨_, rfl⟩
                have Vs := Lib.hid (Vr.out.later hb)
                have Ks := Lib.hid (Kr.out.later hb)
                clear Kr_0 Kr_1 Kr_2
                have K_0 : _ = some (Value.int .i64 own) := Ks.out.cell 0
                have K_1 : _ = some (Value.int .i64 high) := Ks.out.cell 1
                have K_2 : _ = some (Value.slice (some ⟨g, 0, none⟩) L.length cap) := Ks.out.cell 2
                have Hb := Lib.hid hb
                clear hb
                by_cases c1 : (k : Int) < least
                · have e1 : decide ((k : Int) < least) = true := decide_eq_true c1
                  by_cases c2 : k < 400
                  · have e2 : decide (k < 400) = true := decide_eq_true c2
                    have e2' : decide ((k : Int) < 400) = true := decide_eq_true (by omega)
                    have HT := Lib.hid (HL3.out k (by omega) c1)
                    go_wp2_with fail
                    refine (Sees_any own high (some ⟨g, 0, none⟩) L.length cap L k _ Vs.out (by omega)).mono ?_
                    rintro e wq ⟨rfl, hb⟩
                    rw [HT.out]
                    have Hb2 := Lib.hid (stepB Hb.out hb)
                    clear hb
                    go_wp2_with fail
                    go_roundw
                    case rel => exact ⟨k + 1, by omega, by omega, by go_num, Hb2.out⟩
                    case measure => simp [intOf]; omega
                  · have e2 : decide (k < 400) = false := decide_eq_false c2
                    have e2' : decide ((k : Int) < 400) = false := decide_eq_false (by omega)
                    have Hz := Lib.hid (stepB W1.out Hb.out)
                    go_wp2_with fail
                    go_ret
                    exact ⟨rfl, Hz.out⟩
                · have e1 : decide ((k : Int) < least) = false := decide_eq_false c1
                  have Hz := Lib.hid (stepB W1.out Hb.out)
                  go_wp2_with fail
                  go_ret
                  exact ⟨rfl, Hz.out⟩

          · have d7 : decide (1 ≤ x) = false := decide_eq_false c7
            go_wp2_with fail
            have W1 : Hid (Below w.heap.size w w9) := H9.out
            go_loopw [12] (fun i wr => ∃ k : Nat, 1 ≤ k ∧ k ≤ 400 ∧ i = .int .i64 k ∧ Below w9.heap.size w9 wr) (fun i _ => 400 - (intOf i).toNat)
            case atStart => exact ⟨1, by omega, by omega, rfl, Below.refl _ _⟩
            case round =>
              obtain ⟨k, hk1, hk2, rfl, hb⟩ := hrel
              obtain ⟨wp, rfl⟩ : ∃ wp : World, wp = wr := ⟨_, rfl⟩
              have Vs := Lib.hid (Vr.out.later hb)
              have Ks := Lib.hid (Kr.out.later hb)
              clear Kr_0 Kr_1 Kr_2
              have K_0 : _ = some (Value.int .i64 own) := Ks.out.cell 0
              have K_1 : _ = some (Value.int .i64 high) := Ks.out.cell 1
              have K_2 : _ = some (Value.slice (some ⟨g, 0, none⟩) L.length cap) := Ks.out.cell 2
              have Hb := Lib.hid hb
              clear hb
              by_cases c1 : (k : Int) < least
              · have e1 : decide ((k : Int) < least) = true := decide_eq_true c1
                by_cases c2 : k < 400
                · have e2 : decide (k < 400) = true := decide_eq_true c2
                  have e2' : decide ((k : Int) < 400) = true := decide_eq_true (by omega)
                  have HT := Lib.hid (HL3.out k (by omega) c1)
                  go_wp2_with fail
                  refine (Sees_any own high (some ⟨g, 0, none⟩) L.length cap L k _ Vs.out (by omega)).mono ?_
                  rintro e wq ⟨rfl, hb⟩
                  rw [HT.out]
                  have Hb2 := Lib.hid (stepB Hb.out hb)
                  clear hb
                  go_wp2_with fail
                  go_roundw
                  case rel => exact ⟨k + 1, by omega, by omega, by go_num, Hb2.out⟩
                  case measure => simp [intOf]; omega
                · have e2 : decide (k < 400) = false := decide_eq_false c2
                  have e2' : decide ((k : Int) < 400) = false := decide_eq_false (by omega)
                  have Hz := Lib.hid (stepB W1.out Hb.out)
                  go_wp2_with fail
                  go_ret
                  exact ⟨rfl, Hz.out⟩
              · have e1 : decide ((k : Int) < least) = false := decide_eq_false c1
                have Hz := Lib.hid (stepB W1.out Hb.out)
                go_wp2_with fail
                go_ret
                exact ⟨rfl, Hz.out⟩
  · have d5 : decide (high ≤ x) = false := decide_eq_false c2
    clear c1
    go_wp2_with fail
    have W0 : Hid (Below w.heap.size w w4) := H4.out
    go_loopw [10] (fun i wr => ∃ k : Nat, k ≤ n ∧ i = .int .i64 k ∧ Below w4.heap.size w4 wr) (fun i _ => n - (intOf i).toNat)
    case atStart => exact ⟨0, by omega, rfl, Below.refl _ _⟩
    case round =>
      obtain ⟨k, hk, rfl, hb⟩ := hrel
      obtain ⟨wo, rfl⟩ : ∃ wo : World, wo = wr := ⟨_, rfl⟩
      have V0r := Lib.hid (V0.out.later hb)
      have Vr := Lib.hid (V.out.later hb)
      have Kr := Lib.hid (K.out.later hb)
      clear K_0 K_1 K_2
      have K_0 : _ = some (Value.int .i64 own) := Kr.out.cell 0
      have K_1 : _ = some (Value.int .i64 high) := Kr.out.cell 1
      have K_2 : _ = some (Value.slice (some ⟨g, 0, none⟩) L.length cap) := Kr.out.cell 2
      have Hb := Lib.hid hb
      clear hb
      by_cases hlt : k < n
      case pos =>
        obtain ⟨g0, off0, rfl, hg0, hc0⟩ := V0r.out.2 (by omega)
        have hck := hc0 k hlt
        obtain ⟨y, hy⟩ : ∃ y, xs.getD k 0 = y := ⟨_, rfl⟩
        have hym : y ∈ xs := by rw [← hy]; exact getD_mem (by rw [V0.out.1]; exact hlt)
        rw [hy] at hck
        have hx1 := index_run g0 off0 n c k (k : Int) rfl hlt
        clear hc0 hy
        by_cases e : y = own
        · have de : (y != own) = false := by rw [bne_eq_false_iff_eq]; exact e
          clear e hym
          go_wp2
          go_quiet (fail)
          clear hck hx1
          go_wp2
          go_roundw
          case rel => exact ⟨k + 1, by omega, by go_num, below_drewN Hb.out _⟩
          case measure => simp [intOf]; omega
        · have de : (y != own) = true := by rw [bne_iff_ne]; exact e
          have HS : Hid (sees own high L y = false) := by have := sees_not (own := own) (high := high) hym e; rw [HL.out] at this; exact this
          clear e hym
          have CS : Hid (∀ W, SO wo ⟨g0, off0 + k, none⟩ y w2.heap.size own high g L.length cap W → Calls Try.prog 9 #[.agg #[.int .i64 own, .int .i64 high, .slice (some ⟨g, 0, none⟩) L.length cap], .int .i64 y] W fun e w' => e = .returned (.bool false) ∧ Below W.heap.size W w') := fun W h => by
            have := Sees_any own high (some ⟨g, 0, none⟩) L.length cap L y W (Vr.out.later h.1) (by omega)
            rw [HS.out] at this; exact this
          have KS : Hid (∀ W W2, Below W.heap.size W W2 → SO wo ⟨g0, off0 + k, none⟩ y w2.heap.size own high g L.length cap W → SO wo ⟨g0, off0 + k, none⟩ y w2.heap.size own high g L.length cap W2) := fun W W2 h2 h1 => so_later hck hg0 Kr.out (stepB h1.1 h2)
          have K0 : Hid (SO wo ⟨g0, off0 + k, none⟩ y w2.heap.size own high g L.length cap wo.drew) := so_later hck hg0 Kr.out (Below.drew (Below.refl _ _))
          clear K_0 K_1 K_2 hck
          go_wp2_with fail
          go_region_held3 (SO wo ⟨g0, off0 + k, none⟩ y w2.heap.size own high g L.length cap) (first | assumption | exact K0.out | exact KS.out _ _ (by assumption) (by assumption) | exact KS.out _ _ (below_drewN (Below.refl _ _) _) (by assumption)) (first
            | (go_at_call 9; refine (CS.out _ (by assumption)).mono ?_; rintro e w2 ⟨rfl, hb⟩))
          all_goals (
            rename SO _ _ _ _ _ _ _ _ _ _ => hSO
            have hz := Lib.hid (Hb.out.trans (hSO.1.mono Hb.out.size))
            clear hSO
            go_wp2
            go_roundw
            case rel => exact ⟨k + 1, by omega, by go_num, hz.out⟩
            case measure => simp [intOf]; omega)
      case neg =>
        clear V0r V0 V K
        have H0 : Hid (Below w.heap.size w wo) := stepB W0.out Hb.out
        clear Hb W0
        clear K_0 K_1 K_2
        have Kr_0 : _ = some (Value.int .i64 own) := Kr.out.cell 0
        have Kr_1 : _ = some (Value.int .i64 high) := Kr.out.cell 1
        have Kr_2 : _ = some (Value.slice (some ⟨g, 0, none⟩) L.length cap) := Kr.out.cell 2
        obtain ⟨least, hl⟩ : ∃ l, leastOf own high L = l := ⟨_, rfl⟩
        have HE := Lib.hid hl
        have hl1 : 1 ≤ least := by rw [← hl, ← HL.out]; exact least_one own high xs
        have hl2 : least ≠ 9223372036854775807 → sees own high L least = false := fun h => by rw [← hl, ← HL.out] at h ⊢; exact least_not h (by omega)
        have hl3 : ∀ x, 1 ≤ x → x < least → sees own high L x = true := fun x h1 h2 => by rw [← hl, ← HL.out] at h2; rw [← HL.out]; exact least_sees h1 h2
        have hl4 : least ≤ 9223372036854775807 := by rw [← hl]; have h1 := (first_bound (own := own) hh.2).2; have h2 := fold_le own L (firstOf own high); unfold leastOf; omega
        have HL2 := Lib.hid hl2
        have HL3 := Lib.hid hl3
        clear hl hl2 hl3
        go_wp2_with fail
        refine (Least_any own high (some ⟨g, 0, none⟩) L.length cap L _ Vr.out (by omega) hh.2).mono ?_
        rintro e w7 ⟨rfl, hb⟩
        rw [HE.out]
        clear HE
        replace Vr := Lib.hid (Vr.out.later hb)
        replace Kr := Lib.hid (Kr.out.later hb)
        replace Kr_0 : _ = some (Value.int .i64 own) := Kr.out.cell 0
        replace Kr_1 : _ = some (Value.int .i64 high) := Kr.out.cell 1
        replace Kr_2 : _ = some (Value.slice (some ⟨g, 0, none⟩) L.length cap) := Kr.out.cell 2
        have H7 : Hid (Below w.heap.size w w7) := stepB H0.out hb
        clear hb H0
        have d5 : decide (least < 1) = false := decide_eq_false (by omega)
        by_cases c6 : least = 9223372036854775807
        · have d6 : (least != 9223372036854775807) = false := by rw [bne_eq_false_iff_eq]; exact c6
          clear c6
          by_cases c7 : 1 ≤ x
          · have d7 : decide (1 ≤ x) = true := decide_eq_true c7
            by_cases c8 : x < least
            · have d8 : decide (x < least) = true := decide_eq_true c8
              have HT := Lib.hid (HL3.out x c7 c8)
              go_wp2_with fail
              refine (Sees_any own high (some ⟨g, 0, none⟩) L.length cap L x _ Vr.out (by omega)).mono ?_
              rintro e w8 ⟨rfl, hb⟩
              rw [HT.out]
              replace Vr := Lib.hid (Vr.out.later hb)
              replace Kr := Lib.hid (Kr.out.later hb)
              replace Kr_0 : _ = some (Value.int .i64 own) := Kr.out.cell 0
              replace Kr_1 : _ = some (Value.int .i64 high) := Kr.out.cell 1
              replace Kr_2 : _ = some (Value.slice (some ⟨g, 0, none⟩) L.length cap) := Kr.out.cell 2
              have H8 : Hid (Below w.heap.size w w8) := stepB H7.out hb
              clear hb H7
              go_wp2_with fail
              have W1 : Hid (Below w.heap.size w w8) := H8.out
              go_loopw [12] (fun i wr => ∃ k : Nat, 1 ≤ k ∧ k ≤ 400 ∧ i = .int .i64 k ∧ Below w8.heap.size w8 wr) (fun i _ => 400 - (intOf i).toNat)
              case atStart => exact ⟨1, by omega, by omega, rfl, Below.refl _ _⟩
              case round =>
                obtain ⟨k, hk1, hk2, rfl, hb⟩ := hrel
                obtain ⟨wp, rfl⟩ : ∃ wp : World, wp = wr := ⟨_, rfl⟩
                have Vs := Lib.hid (Vr.out.later hb)
                have Ks := Lib.hid (Kr.out.later hb)
                clear Kr_0 Kr_1 Kr_2
                have K_0 : _ = some (Value.int .i64 own) := Ks.out.cell 0
                have K_1 : _ = some (Value.int .i64 high) := Ks.out.cell 1
                have K_2 : _ = some (Value.slice (some ⟨g, 0, none⟩) L.length cap) := Ks.out.cell 2
                have Hb := Lib.hid hb
                clear hb
                by_cases c1 : (k : Int) < least
                · have e1 : decide ((k : Int) < least) = true := decide_eq_true c1
                  by_cases c2 : k < 400
                  · have e2 : decide (k < 400) = true := decide_eq_true c2
                    have e2' : decide ((k : Int) < 400) = true := decide_eq_true (by omega)
                    have HT := Lib.hid (HL3.out k (by omega) c1)
                    go_wp2_with fail
                    refine (Sees_any own high (some ⟨g, 0, none⟩) L.length cap L k _ Vs.out (by omega)).mono ?_
                    rintro e wq ⟨rfl, hb⟩
                    rw [HT.out]
                    have Hb2 := Lib.hid (stepB Hb.out hb)
                    clear hb
                    go_wp2_with fail
                    go_roundw
                    case rel => exact ⟨k + 1, by omega, by omega, by go_num, Hb2.out⟩
                    case measure => simp [intOf]; omega
                  · have e2 : decide (k < 400) = false := decide_eq_false c2
                    have e2' : decide ((k : Int) < 400) = false := decide_eq_false (by omega)
                    have Hz := Lib.hid (stepB W1.out Hb.out)
                    go_wp2_with fail
                    go_ret
                    exact ⟨rfl, Hz.out⟩
                · have e1 : decide ((k : Int) < least) = false := decide_eq_false c1
                  have Hz := Lib.hid (stepB W1.out Hb.out)
                  go_wp2_with fail
                  go_ret
                  exact ⟨rfl, Hz.out⟩

            · have d8 : decide (x < least) = false := decide_eq_false c8
              go_wp2_with fail
              have W1 : Hid (Below w.heap.size w w7) := H7.out
              go_loopw [12] (fun i wr => ∃ k : Nat, 1 ≤ k ∧ k ≤ 400 ∧ i = .int .i64 k ∧ Below w7.heap.size w7 wr) (fun i _ => 400 - (intOf i).toNat)
              case atStart => exact ⟨1, by omega, by omega, rfl, Below.refl _ _⟩
              case round =>
                obtain ⟨k, hk1, hk2, rfl, hb⟩ := hrel
                obtain ⟨wp, rfl⟩ : ∃ wp : World, wp = wr := ⟨_, rfl⟩
                have Vs := Lib.hid (Vr.out.later hb)
                have Ks := Lib.hid (Kr.out.later hb)
                clear Kr_0 Kr_1 Kr_2
                have K_0 : _ = some (Value.int .i64 own) := Ks.out.cell 0
                have K_1 : _ = some (Value.int .i64 high) := Ks.out.cell 1
                have K_2 : _ = some (Value.slice (some ⟨g, 0, none⟩) L.length cap) := Ks.out.cell 2
                have Hb := Lib.hid hb
                clear hb
                by_cases c1 : (k : Int) < least
                · have e1 : decide ((k : Int) < least) = true := decide_eq_true c1
                  by_cases c2 : k < 400
                  · have e2 : decide (k < 400) = true := decide_eq_true c2
                    have e2' : decide ((k : Int) < 400) = true := decide_eq_true (by omega)
                    have HT := Lib.hid (HL3.out k (by omega) c1)
                    go_wp2_with fail
                    refine (Sees_any own high (some ⟨g, 0, none⟩) L.length cap L k _ Vs.out (by omega)).mono ?_
                    rintro e wq ⟨rfl, hb⟩
                    rw [HT.out]
                    have Hb2 := Lib.hid (stepB Hb.out hb)
                    clear hb
                    go_wp2_with fail
                    go_roundw
                    case rel => exact ⟨k + 1, by omega, by omega, by go_num, Hb2.out⟩
                    case measure => simp [intOf]; omega
                  · have e2 : decide (k < 400) = false := decide_eq_false c2
                    have e2' : decide ((k : Int) < 400) = false := decide_eq_false (by omega)
                    have Hz := Lib.hid (stepB W1.out Hb.out)
                    go_wp2_with fail
                    go_ret
                    exact ⟨rfl, Hz.out⟩
                · have e1 : decide ((k : Int) < least) = false := decide_eq_false c1
                  have Hz := Lib.hid (stepB W1.out Hb.out)
                  go_wp2_with fail
                  go_ret
                  exact ⟨rfl, Hz.out⟩

          · have d7 : decide (1 ≤ x) = false := decide_eq_false c7
            go_wp2_with fail
            have W1 : Hid (Below w.heap.size w w7) := H7.out
            go_loopw [12] (fun i wr => ∃ k : Nat, 1 ≤ k ∧ k ≤ 400 ∧ i = .int .i64 k ∧ Below w7.heap.size w7 wr) (fun i _ => 400 - (intOf i).toNat)
            case atStart => exact ⟨1, by omega, by omega, rfl, Below.refl _ _⟩
            case round =>
              obtain ⟨k, hk1, hk2, rfl, hb⟩ := hrel
              obtain ⟨wp, rfl⟩ : ∃ wp : World, wp = wr := ⟨_, rfl⟩
              have Vs := Lib.hid (Vr.out.later hb)
              have Ks := Lib.hid (Kr.out.later hb)
              clear Kr_0 Kr_1 Kr_2
              have K_0 : _ = some (Value.int .i64 own) := Ks.out.cell 0
              have K_1 : _ = some (Value.int .i64 high) := Ks.out.cell 1
              have K_2 : _ = some (Value.slice (some ⟨g, 0, none⟩) L.length cap) := Ks.out.cell 2
              have Hb := Lib.hid hb
              clear hb
              by_cases c1 : (k : Int) < least
              · have e1 : decide ((k : Int) < least) = true := decide_eq_true c1
                by_cases c2 : k < 400
                · have e2 : decide (k < 400) = true := decide_eq_true c2
                  have e2' : decide ((k : Int) < 400) = true := decide_eq_true (by omega)
                  have HT := Lib.hid (HL3.out k (by omega) c1)
                  go_wp2_with fail
                  refine (Sees_any own high (some ⟨g, 0, none⟩) L.length cap L k _ Vs.out (by omega)).mono ?_
                  rintro e wq ⟨rfl, hb⟩
                  rw [HT.out]
                  have Hb2 := Lib.hid (stepB Hb.out hb)
                  clear hb
                  go_wp2_with fail
                  go_roundw
                  case rel => exact ⟨k + 1, by omega, by omega, by go_num, Hb2.out⟩
                  case measure => simp [intOf]; omega
                · have e2 : decide (k < 400) = false := decide_eq_false c2
                  have e2' : decide ((k : Int) < 400) = false := decide_eq_false (by omega)
                  have Hz := Lib.hid (stepB W1.out Hb.out)
                  go_wp2_with fail
                  go_ret
                  exact ⟨rfl, Hz.out⟩
              · have e1 : decide ((k : Int) < least) = false := decide_eq_false c1
                have Hz := Lib.hid (stepB W1.out Hb.out)
                go_wp2_with fail
                go_ret
                exact ⟨rfl, Hz.out⟩
        · have d6 : (least != 9223372036854775807) = true := by rw [bne_iff_ne]; exact c6
          have HN := Lib.hid (HL2.out c6)
          clear c6
          go_wp2_with fail
          refine (Sees_any own high (some ⟨g, 0, none⟩) L.length cap L least _ Vr.out (by omega)).mono ?_
          rintro e w8 ⟨rfl, hb⟩
          rw [HN.out]
          replace Vr := Lib.hid (Vr.out.later hb)
          replace Kr := Lib.hid (Kr.out.later hb)
          replace Kr_0 : _ = some (Value.int .i64 own) := Kr.out.cell 0
          replace Kr_1 : _ = some (Value.int .i64 high) := Kr.out.cell 1
          replace Kr_2 : _ = some (Value.slice (some ⟨g, 0, none⟩) L.length cap) := Kr.out.cell 2
          have H8 : Hid (Below w.heap.size w w8) := stepB H7.out hb
          clear hb H7
          by_cases c7 : 1 ≤ x
          · have d7 : decide (1 ≤ x) = true := decide_eq_true c7
            by_cases c8 : x < least
            · have d8 : decide (x < least) = true := decide_eq_true c8
              have HT := Lib.hid (HL3.out x c7 c8)
              go_wp2_with fail
              refine (Sees_any own high (some ⟨g, 0, none⟩) L.length cap L x _ Vr.out (by omega)).mono ?_
              rintro e w9 ⟨rfl, hb⟩
              rw [HT.out]
              replace Vr := Lib.hid (Vr.out.later hb)
              replace Kr := Lib.hid (Kr.out.later hb)
              replace Kr_0 : _ = some (Value.int .i64 own) := Kr.out.cell 0
              replace Kr_1 : _ = some (Value.int .i64 high) := Kr.out.cell 1
              replace Kr_2 : _ = some (Value.slice (some ⟨g, 0, none⟩) L.length cap) := Kr.out.cell 2
              have H9 : Hid (Below w.heap.size w w9) := stepB H8.out hb
              clear hb H8
              go_wp2_with fail
              have W1 : Hid (Below w.heap.size w w9) := H9.out
              go_loopw [12] (fun i wr => ∃ k : Nat, 1 ≤ k ∧ k ≤ 400 ∧ i = .int .i64 k ∧ Below w9.heap.size w9 wr) (fun i _ => 400 - (intOf i).toNat)
              case atStart => exact ⟨1, by omega, by omega, rfl, Below.refl _ _⟩
              case round =>
                obtain ⟨k, hk1, hk2, rfl, hb⟩ := hrel
                obtain ⟨wp, rfl⟩ : ∃ wp : World, wp = wr := ⟨_, rfl⟩
                have Vs := Lib.hid (Vr.out.later hb)
                have Ks := Lib.hid (Kr.out.later hb)
                clear Kr_0 Kr_1 Kr_2
                have K_0 : _ = some (Value.int .i64 own) := Ks.out.cell 0
                have K_1 : _ = some (Value.int .i64 high) := Ks.out.cell 1
                have K_2 : _ = some (Value.slice (some ⟨g, 0, none⟩) L.length cap) := Ks.out.cell 2
                have Hb := Lib.hid hb
                clear hb
                by_cases c1 : (k : Int) < least
                · have e1 : decide ((k : Int) < least) = true := decide_eq_true c1
                  by_cases c2 : k < 400
                  · have e2 : decide (k < 400) = true := decide_eq_true c2
                    have e2' : decide ((k : Int) < 400) = true := decide_eq_true (by omega)
                    have HT := Lib.hid (HL3.out k (by omega) c1)
                    go_wp2_with fail
                    refine (Sees_any own high (some ⟨g, 0, none⟩) L.length cap L k _ Vs.out (by omega)).mono ?_
                    rintro e wq ⟨rfl, hb⟩
                    rw [HT.out]
                    have Hb2 := Lib.hid (stepB Hb.out hb)
                    clear hb
                    go_wp2_with fail
                    go_roundw
                    case rel => exact ⟨k + 1, by omega, by omega, by go_num, Hb2.out⟩
                    case measure => simp [intOf]; omega
                  · have e2 : decide (k < 400) = false := decide_eq_false c2
                    have e2' : decide ((k : Int) < 400) = false := decide_eq_false (by omega)
                    have Hz := Lib.hid (stepB W1.out Hb.out)
                    go_wp2_with fail
                    go_ret
                    exact ⟨rfl, Hz.out⟩
                · have e1 : decide ((k : Int) < least) = false := decide_eq_false c1
                  have Hz := Lib.hid (stepB W1.out Hb.out)
                  go_wp2_with fail
                  go_ret
                  exact ⟨rfl, Hz.out⟩

            · have d8 : decide (x < least) = false := decide_eq_false c8
              go_wp2_with fail
              have W1 : Hid (Below w.heap.size w w8) := H8.out
              go_loopw [12] (fun i wr => ∃ k : Nat, 1 ≤ k ∧ k ≤ 400 ∧ i = .int .i64 k ∧ Below w8.heap.size w8 wr) (fun i _ => 400 - (intOf i).toNat)
              case atStart => exact ⟨1, by omega, by omega, rfl, Below.refl _ _⟩
              case round =>
                obtain ⟨k, hk1, hk2, rfl, hb⟩ := hrel
                obtain ⟨wp, rfl⟩ : ∃ wp : World, wp = wr := ⟨_, rfl⟩
                have Vs := Lib.hid (Vr.out.later hb)
                have Ks := Lib.hid (Kr.out.later hb)
                clear Kr_0 Kr_1 Kr_2
                have K_0 : _ = some (Value.int .i64 own) := Ks.out.cell 0
                have K_1 : _ = some (Value.int .i64 high) := Ks.out.cell 1
                have K_2 : _ = some (Value.slice (some ⟨g, 0, none⟩) L.length cap) := Ks.out.cell 2
                have Hb := Lib.hid hb
                clear hb
                by_cases c1 : (k : Int) < least
                · have e1 : decide ((k : Int) < least) = true := decide_eq_true c1
                  by_cases c2 : k < 400
                  · have e2 : decide (k < 400) = true := decide_eq_true c2
                    have e2' : decide ((k : Int) < 400) = true := decide_eq_true (by omega)
                    have HT := Lib.hid (HL3.out k (by omega) c1)
                    go_wp2_with fail
                    refine (Sees_any own high (some ⟨g, 0, none⟩) L.length cap L k _ Vs.out (by omega)).mono ?_
                    rintro e wq ⟨rfl, hb⟩
                    rw [HT.out]
                    have Hb2 := Lib.hid (stepB Hb.out hb)
                    clear hb
                    go_wp2_with fail
                    go_roundw
                    case rel => exact ⟨k + 1, by omega, by omega, by go_num, Hb2.out⟩
                    case measure => simp [intOf]; omega
                  · have e2 : decide (k < 400) = false := decide_eq_false c2
                    have e2' : decide ((k : Int) < 400) = false := decide_eq_false (by omega)
                    have Hz := Lib.hid (stepB W1.out Hb.out)
                    go_wp2_with fail
                    go_ret
                    exact ⟨rfl, Hz.out⟩
                · have e1 : decide ((k : Int) < least) = false := decide_eq_false c1
                  have Hz := Lib.hid (stepB W1.out Hb.out)
                  go_wp2_with fail
                  go_ret
                  exact ⟨rfl, Hz.out⟩

          · have d7 : decide (1 ≤ x) = false := decide_eq_false c7
            go_wp2_with fail
            have W1 : Hid (Below w.heap.size w w8) := H8.out
            go_loopw [12] (fun i wr => ∃ k : Nat, 1 ≤ k ∧ k ≤ 400 ∧ i = .int .i64 k ∧ Below w8.heap.size w8 wr) (fun i _ => 400 - (intOf i).toNat)
            case atStart => exact ⟨1, by omega, by omega, rfl, Below.refl _ _⟩
            case round =>
              obtain ⟨k, hk1, hk2, rfl, hb⟩ := hrel
              obtain ⟨wp, rfl⟩ : ∃ wp : World, wp = wr := ⟨_, rfl⟩
              have Vs := Lib.hid (Vr.out.later hb)
              have Ks := Lib.hid (Kr.out.later hb)
              clear Kr_0 Kr_1 Kr_2
              have K_0 : _ = some (Value.int .i64 own) := Ks.out.cell 0
              have K_1 : _ = some (Value.int .i64 high) := Ks.out.cell 1
              have K_2 : _ = some (Value.slice (some ⟨g, 0, none⟩) L.length cap) := Ks.out.cell 2
              have Hb := Lib.hid hb
              clear hb
              by_cases c1 : (k : Int) < least
              · have e1 : decide ((k : Int) < least) = true := decide_eq_true c1
                by_cases c2 : k < 400
                · have e2 : decide (k < 400) = true := decide_eq_true c2
                  have e2' : decide ((k : Int) < 400) = true := decide_eq_true (by omega)
                  have HT := Lib.hid (HL3.out k (by omega) c1)
                  go_wp2_with fail
                  refine (Sees_any own high (some ⟨g, 0, none⟩) L.length cap L k _ Vs.out (by omega)).mono ?_
                  rintro e wq ⟨rfl, hb⟩
                  rw [HT.out]
                  have Hb2 := Lib.hid (stepB Hb.out hb)
                  clear hb
                  go_wp2_with fail
                  go_roundw
                  case rel => exact ⟨k + 1, by omega, by omega, by go_num, Hb2.out⟩
                  case measure => simp [intOf]; omega
                · have e2 : decide (k < 400) = false := decide_eq_false c2
                  have e2' : decide ((k : Int) < 400) = false := decide_eq_false (by omega)
                  have Hz := Lib.hid (stepB W1.out Hb.out)
                  go_wp2_with fail
                  go_ret
                  exact ⟨rfl, Hz.out⟩
              · have e1 : decide ((k : Int) < least) = false := decide_eq_false c1
                have Hz := Lib.hid (stepB W1.out Hb.out)
                go_wp2_with fail
                go_ret
                exact ⟨rfl, Hz.out⟩

theorem walk (a0 a1 : Int) (A : Option Addr) (n c : Nat) (xs : List Int) (a3 : Int) (w : World) (h0 : (Lit.int .i64 a0).wf = true) (h1 : (Lit.int .i64 a1).wf = true) (hs : Sl w.heap.size w A n c xs) (hm : n ≤ maxLen) (hr : ∀ v ∈ xs, i64 v) (h3 : (Lit.int .i64 a3).wf = true) :
    Calls Try.prog 5 #[.int .i64 a0, .int .i64 a1, .slice A n c, .int .i64 a3] w fun e w' => e = .returned (.bool true) ∧ Below w.heap.size w w' := walk_in a0 a1 A n c xs a3 w hs hm (i64_of h1)


set_option maxRecDepth 100000 in
theorem lifted (os : Os) (started : os.Started) (H : Type) (enc : TypeId × Value → H) :
    ReturnsInHanded {} Try.checked os 5 .any (Rows.viewOwnSpec.pre6 enc Try.prog Try.f5 Rows.viewOwnRow.domain false) (Rows.viewOwnSpec.post enc Try.prog Try.f5 false true false false) := by
  refine returnsInHanded_of_change_sized (C := Try.checked) own started (by kernel_rfl) Try.func5
    (ChangeSpec.witness6 (enc := enc) (C := Try.checked) false ⟨#[], #[.int .i64 0, .int .i64 0, .slice none 0 0, .int .i64 0], []⟩ 8 (by kernel_rfl) (by kernel_rfl) (by kernel_rfl) (by kernel_rfl)) ?_
  intro W base args ds gs before hval0 hW _ hsz _
  have hval : ∀ (j : Nat) t v, Try.f5.params[j]? = some t → args[j]? = some v → Value.okWide Try.prog W .any base t v := hval0
  have hW' := hW
  obtain ⟨p, q, hA0, hV, hbef, _, _⟩ := hW
  have hA : DataW.TrodAll enc Try.prog W 0 (fun _ => true) true Try.f5.params.toList args.toList ds p := hA0
  rw [Try.params5] at hA hval
  obtain ⟨v0, vs0, d0, ds0, p0, q0, hargs, rfl, rfl, h0, r0⟩ := trodAll_cons hA
  obtain ⟨v1, vs1, d1, ds1, p1, q1, rfl, rfl, rfl, h1, r1⟩ := trodAll_cons r0
  obtain ⟨v2, vs2, d2, ds2, p2, q2, rfl, rfl, rfl, h2, r2⟩ := trodAll_cons r1
  obtain ⟨v3, vs3, d3, ds3, p3, q3, rfl, rfl, rfl, h3, r3⟩ := trodAll_cons r2
  obtain ⟨rfl, rfl, rfl⟩ := trodAll_nil r3
  obtain rfl : args = #[v0, v1, v2, v3] := by cases args; simp_all
  obtain ⟨rfl, rfl⟩ := trodVars_none hV
  obtain ⟨a0, rfl, _, _, w0⟩ := open_int Try.underlying3 (hval 0 3 v0 rfl rfl) h0
  obtain ⟨a1, rfl, _, _, w1⟩ := open_int Try.underlying3 (hval 1 3 v1 rfl rfl) h1
  obtain ⟨A2, n2, c2, xs2, rfl, sl2, mx2, rg2⟩ := open_int23 (hval 2 23 v2 rfl rfl) h2
  obtain ⟨a3, rfl, _, _, w3⟩ := open_int Try.underlying3 (hval 3 3 v3 rfl rfl) h3
  refine (walk a0 a1 A2 n2 c2 xs2 a3 W w0 w1 sl2 mx2 rg2 w3).mono fun e W' ⟨he, hb⟩ => ?_
  subst he
  exact ⟨_, rfl, law_post laidOut (of_decide_eq_true (by kernel_rfl)) rfl Try.underlying4 rfl rfl hW' hb⟩

theorem over : Rows.viewOwnRow.holds Try.pinned (OpenSpec.ofChange Rows.viewOwnSpec) :=
  OpenClaim.holds_of_wide 5 Try.f5 rfl rfl rfl rfl rfl rfl rfl ⟨rfl, rfl, rfl, rfl, rfl⟩ rfl rfl rfl rfl rfl (by kernel_rfl) Try.func5 (by kernel_rfl)
    (of_decide_eq_true (by kernel_rfl)) (by unfold Func.isWrapper; first | (rw [if_pos (by decide +kernel)]; kernel_rfl) | (rw [if_neg (by decide +kernel)]; exact ⟨rfl, rfl⟩))
    (fun os started H enc _ => lifted os started H enc)

end Go.Proofs.Ythicofdbcldpaaa.viewOwn
namespace Go.Proofs.Ythicofdbcldpaaa
theorem viewOwn_holds : Rows.ViewOwnSaid := viewOwn.over
end Go.Proofs.Ythicofdbcldpaaa
