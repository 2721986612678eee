/-
Of a node that may be: all keys ahead of a key's place are below it, none behind is; a key's kid is the one between whose keys it is. For every node and every key.
-/
import Derived.Test.YtiojjpmkiljngaaL
import Derived.Test.YtiojjpmkiljngaaM
import Derived.Test.YtiojjpmkiljngaaG
import Derived.Test.YtiojjpmkiljngaaN
namespace Go.Proofs.Ytiojjpmkiljngaa.forkPlaces
open Go.ChangeShapes Go.WideShapes Go.ChangeAt Go.RowKit Go.ChangeMaps
set_option linter.unusedVariables false
set_option linter.unusedSimpArgs false

theorem own : ownKnob Try.prog.godebug = none := by kernel_rfl
theorem laidOut : laidOutB Try.prog = true := by kernel_rfl

set_option maxRecDepth 100000 in
set_option maxHeartbeats 4000000 in
theorem w_large (lf : Bool) (A B C : Option Addr) (n c m d k e : Nat) (xs : List ByteArray) (ks rs : List Int) (key : ByteArray) (w : World) (hI : NdIn w A B C n c m d k e xs ks rs) (hL : largeB xs m k = true) : Calls Try.prog 5 #[.agg #[.bool lf, .slice A n c, .slice B m d, .slice C k e], .string key] w (fun e w' => e = .returned (.bool true) ∧ Below w.heap.size w w') := by
  have hb0 : Below w.heap.size w (w.alloc (.cells #[.bool lf, .slice A n c, .slice B m d, .slice C k e] 28)) := (Below.refl _ _).alloc (Nat.le_refl _) _
  have b0 := Lib.hid (Blk.new w #[.bool lf, .slice A n c, .slice B m d, .slice C k e] 28)
  have c0 := b0.out.c4
  have HB0 := Lib.hid hb0
  have HI := Lib.hid hI
  have HL := Lib.hid hL
  clear hb0 hI hL
  go_enter Try.func5, Try.ntmps5
  go_wp2_with fail
  refine (large_any lf A B C n c m d k e xs _ (HI.out.K.rd.later HB0.out) (by have := HI.out.hn; omega) (by have := HI.out.hm; omega) (by have := HI.out.hk; omega) (fun s hs => by have := HI.out.hs s hs; omega)).mono ?_
  rintro x w1 ⟨rfl, hb⟩
  rw [HL.out]
  have HB1 := Lib.hid (stepB HB0.out hb)
  have b1 := Lib.hid (b0.out.later hb)
  have c1 := b1.out.c4
  clear hb b0 HB0 c0
  go_wp2_with fail
  refine (awake_any _).mono ?_
  rintro x w2 ⟨rfl, hb⟩
  have HB2 := Lib.hid (stepB HB1.out hb)
  have b2 := Lib.hid (b1.out.later hb)
  have c2 := b2.out.c4
  clear hb b1 HB1 c1
  go_wp2
  go_ret
  exact ⟨rfl, HB2.out⟩
set_option maxRecDepth 100000 in
set_option maxHeartbeats 4000000 in
theorem w_long (lf : Bool) (A B C : Option Addr) (n c m d k e : Nat) (xs : List ByteArray) (ks rs : List Int) (key : ByteArray) (w : World) (hI : NdIn w A B C n c m d k e xs ks rs) (hL : largeB xs m k = false) (hk : 3000 < key.size) : Calls Try.prog 5 #[.agg #[.bool lf, .slice A n c, .slice B m d, .slice C k e], .string key] w (fun e w' => e = .returned (.bool true) ∧ Below w.heap.size w w') := by
  have hb0 : Below w.heap.size w (w.alloc (.cells #[.bool lf, .slice A n c, .slice B m d, .slice C k e] 28)) := (Below.refl _ _).alloc (Nat.le_refl _) _
  have b0 := Lib.hid (Blk.new w #[.bool lf, .slice A n c, .slice B m d, .slice C k e] 28)
  have c0 := b0.out.c4
  have HB0 := Lib.hid hb0
  have HI := Lib.hid hI
  have HL := Lib.hid hL
  have d1 : decide ((3000 : Int) < (key.size : Int)) = true := decide_eq_true (by omega)
  clear hb0 hI hL hk
  go_enter Try.func5, Try.ntmps5
  go_wp2_with fail
  refine (large_any lf A B C n c m d k e xs _ (HI.out.K.rd.later HB0.out) (by have := HI.out.hn; omega) (by have := HI.out.hm; omega) (by have := HI.out.hk; omega) (fun s hs => by have := HI.out.hs s hs; omega)).mono ?_
  rintro x w1 ⟨rfl, hb⟩
  rw [HL.out]
  have HB1 := Lib.hid (stepB HB0.out hb)
  have b1 := Lib.hid (b0.out.later hb)
  have c1 := b1.out.c4
  clear hb b0 HB0 c0
  go_wp2_with fail
  refine (awake_any _).mono ?_
  rintro x w2 ⟨rfl, hb⟩
  have HB2 := Lib.hid (stepB HB1.out hb)
  have b2 := Lib.hid (b1.out.later hb)
  have c2 := b2.out.c4
  clear hb b1 HB1 c1
  go_wp2
  go_ret
  exact ⟨rfl, HB2.out⟩
set_option maxRecDepth 100000 in
set_option maxHeartbeats 4000000 in
theorem w_wrong (lf : Bool) (A B C : Option Addr) (n c m d k e : Nat) (xs : List ByteArray) (ks rs : List Int) (key : ByteArray) (w : World) (hI : NdIn w A B C n c m d k e xs ks rs) (hL : largeB xs m k = false) (hk : ¬ 3000 < key.size) (hM : mayB lf xs m k = false) : Calls Try.prog 5 #[.agg #[.bool lf, .slice A n c, .slice B m d, .slice C k e], .string key] w (fun e w' => e = .returned (.bool true) ∧ Below w.heap.size w w') := by
  have hb0 : Below w.heap.size w (w.alloc (.cells #[.bool lf, .slice A n c, .slice B m d, .slice C k e] 28)) := (Below.refl _ _).alloc (Nat.le_refl _) _
  have b0 := Lib.hid (Blk.new w #[.bool lf, .slice A n c, .slice B m d, .slice C k e] 28)
  have c0 := b0.out.c4
  have HB0 := Lib.hid hb0
  have HN : Hid (Nd w A B C n c m d k e xs ks rs) := ⟨hI.K, hI.D, hI.R, by have h1 := large_no hL; have h2 := wide_len xs; have h3 := hI.K.len; omega⟩
  have HI := Lib.hid hI
  have HL := Lib.hid hL
  have d1 : decide ((3000 : Int) < (key.size : Int)) = false := decide_eq_false (by omega)
  have HM := Lib.hid hM
  clear hb0 hI hL hk hM
  go_enter Try.func5, Try.ntmps5
  go_wp2_with fail
  refine (large_any lf A B C n c m d k e xs _ (HI.out.K.rd.later HB0.out) (by have := HI.out.hn; omega) (by have := HI.out.hm; omega) (by have := HI.out.hk; omega) (fun s hs => by have := HI.out.hs s hs; omega)).mono ?_
  rintro x w1 ⟨rfl, hb⟩
  rw [HL.out]
  have HB1 := Lib.hid (stepB HB0.out hb)
  have b1 := Lib.hid (b0.out.later hb)
  have c1 := b1.out.c4
  clear hb b0 HB0 c0
  go_wp2_with fail
  refine (awake_any _).mono ?_
  rintro x w2 ⟨rfl, hb⟩
  have HB2 := Lib.hid (stepB HB1.out hb)
  have b2 := Lib.hid (b1.out.later hb)
  have c2 := b2.out.c4
  clear hb b1 HB1 c1
  go_wp2_with fail
  refine (May_any lf A B C n c m d k e xs _ (HN.out.later HB2.out).K.rd (by have := HN.out.sz; omega) (by have := HN.out.sz; omega) (by have := HN.out.sz; omega)).mono ?_
  rintro x w3 ⟨rfl, hb⟩
  rw [HM.out]
  have HB3 := Lib.hid (stepB HB2.out hb)
  have b3 := Lib.hid (b2.out.later hb)
  have c3 := b3.out.c4
  clear hb b2 HB2 c2
  go_wp2_with fail
  refine (awake_any _).mono ?_
  rintro x w4 ⟨rfl, hb⟩
  have HB4 := Lib.hid (stepB HB3.out hb)
  have b4 := Lib.hid (b3.out.later hb)
  have c4 := b4.out.c4
  clear hb b3 HB3 c3
  go_wp2
  go_ret
  exact ⟨rfl, HB4.out⟩
set_option maxRecDepth 100000 in
set_option maxHeartbeats 4000000 in
theorem w_main (lf : Bool) (A B C : Option Addr) (n c m d k e : Nat) (xs : List ByteArray) (ks rs : List Int) (key : ByteArray) (w : World) (hI : NdIn w A B C n c m d k e xs ks rs) (hL : largeB xs m k = false) (hk : ¬ 3000 < key.size) (hM : mayB lf xs m k = true) : Calls Try.prog 5 #[.agg #[.bool lf, .slice A n c, .slice B m d, .slice C k e], .string key] w (fun e w' => e = .returned (.bool true) ∧ Below w.heap.size w w') := by
  have hb0 : Below w.heap.size w (w.alloc (.cells #[.bool lf, .slice A n c, .slice B m d, .slice C k e] 28)) := (Below.refl _ _).alloc (Nat.le_refl _) _
  have b0 := Lib.hid (Blk.new w #[.bool lf, .slice A n c, .slice B m d, .slice C k e] 28)
  have c0 := b0.out.c4
  have HB0 := Lib.hid hb0
  have HN : Hid (Nd w A B C n c m d k e xs ks rs) := ⟨hI.K, hI.D, hI.R, by have h1 := large_no hL; have h2 := wide_len xs; have h3 := hI.K.len; omega⟩
  have HI := Lib.hid hI
  have HL := Lib.hid hL
  have d1 : decide ((3000 : Int) < (key.size : Int)) = false := decide_eq_false (by omega)
  have HM := Lib.hid hM
  clear hb0 hI hL hk hM
  have HU := Lib.hid (may_up HM.out)
  have HT := Lib.hid (may_true HM.out)
  have hz := HN.out.sz
  have hln := low_le xs key
  rw [HN.out.K.len] at hln
  go_enter Try.func5, Try.ntmps5
  go_wp2_with fail
  refine (large_any lf A B C n c m d k e xs _ (HI.out.K.rd.later HB0.out) (by have := HI.out.hn; omega) (by have := HI.out.hm; omega) (by have := HI.out.hk; omega) (fun s hs => by have := HI.out.hs s hs; omega)).mono ?_
  rintro x w1 ⟨rfl, hb⟩
  rw [HL.out]
  have HB1 := Lib.hid (stepB HB0.out hb)
  have b1 := Lib.hid (b0.out.later hb)
  have c1 := b1.out.c4
  clear hb b0 HB0 c0
  go_wp2_with fail
  refine (awake_any _).mono ?_
  rintro x w2 ⟨rfl, hb⟩
  have HB2 := Lib.hid (stepB HB1.out hb)
  have b2 := Lib.hid (b1.out.later hb)
  have c2 := b2.out.c4
  clear hb b1 HB1 c1
  go_wp2_with fail
  refine (May_any lf A B C n c m d k e xs _ (HN.out.later HB2.out).K.rd (by have := HN.out.sz; omega) (by have := HN.out.sz; omega) (by have := HN.out.sz; omega)).mono ?_
  rintro x w3 ⟨rfl, hb⟩
  rw [HM.out]
  have HB3 := Lib.hid (stepB HB2.out hb)
  have b3 := Lib.hid (b2.out.later hb)
  have c3 := b3.out.c4
  clear hb b2 HB2 c2
  have HP := Lib.hid (place_c key (lowN xs key) (hasB xs key) (HN.out.later HB3.out) HM.out rfl rfl)
  obtain ⟨l, hl⟩ : ∃ l, lowN xs key = l := ⟨_, rfl⟩
  obtain ⟨b, hb0⟩ : ∃ b, hasB xs key = b := ⟨_, rfl⟩
  rw [hl, hb0] at HP
  rw [hl] at hln
  have HLO := Lib.hid hl
  have HH := Lib.hid hb0
  clear hl hb0
  go_wp2_with fail
  refine (HP.out).mono ?_
  rintro x w4 ⟨rfl, hb⟩
  have HB4 := Lib.hid (stepB HB3.out hb)
  have b4 := Lib.hid (b3.out.later hb)
  have c4 := b4.out.c4
  have HN4 := Lib.hid (HN.out.later HB4.out)
  have d2 : decide ((n : Int) < (l : Int)) = false := decide_eq_false (by omega)
  clear hb b3 HB3 c3 HP
  go_wp2
  go_loop [7] (fun i => ∃ j : Nat, j ≤ n ∧ i = .int .i64 j) (fun i => n - (intOf i).toNat)
  case atStart => exact ⟨0, Nat.zero_le _, rfl⟩
  case round =>
    obtain ⟨j, hj, rfl⟩ := hrel
    by_cases hlt : j < n
    · obtain ⟨g, off, hA, hcell⟩ := HN4.out.K.rd.getD hlt
      have hcj := hcell j hlt
      obtain ⟨x, hx⟩ : ∃ x, xs.getD j e0 = x := ⟨_, rfl⟩
      rw [hx] at hcj
      have h1 := place_lt (key := key) HU.out (by rw [HN.out.K.len]; exact hlt)
      have h2 := place_eq (key := key) HU.out (by rw [HN.out.K.len]; exact hlt)
      rw [hx, HLO.out] at h1 h2
      rw [HH.out] at h2
      have i1 := sindex g off n c j (j : Int) rfl hlt
      have d3 : decide ((j : Int) < (n : Int)) = true := decide_eq_true (by omega)
      subst hA
      clear hcell hx
      rcases Nat.lt_trichotomy j l with hc | hc | hc
      · have e1 := less_yes (h1.2 hc)
        have e2 := same_no (fun e => by have := (h2.1 e).2; omega)
        have e3 : decide ((j : Int) < (l : Int)) = true := decide_eq_true (by omega)
        have e4 : ((j : Int) == (l : Int)) = false := by rw [beq_eq_false_iff_ne]; omega
        clear h1 h2
        cases b
        all_goals
          go_wp2
          go_round
          case rel => exact ⟨j + 1, by omega, by go_num⟩
          case measure => simp [intOf]; omega
      · have e1 := less_no (Int.not_lt.1 (fun e => by have := h1.1 e; omega))
        subst hc
        cases b
        · have e2 := same_no (fun e => by have := (h2.1 e).1; cases this)
          clear h1 h2
          go_wp2
          go_round
          case rel => exact ⟨j + 1, by omega, by go_num⟩
          case measure => simp [intOf]; omega
        · have e2 := same_yes (h2.2 ⟨rfl, rfl⟩)
          clear h1 h2
          go_wp2
          go_round
          case rel => exact ⟨j + 1, by omega, by go_num⟩
          case measure => simp [intOf]; omega
      · have e1 := less_no (Int.not_lt.1 (fun e => by have := h1.1 e; omega))
        have e2 := same_no (fun e => by have := (h2.1 e).2; omega)
        have e3 : decide ((j : Int) < (l : Int)) = false := decide_eq_false (by omega)
        have e4 : ((j : Int) == (l : Int)) = false := by rw [beq_eq_false_iff_ne]; omega
        clear h1 h2
        cases b
        all_goals
          go_wp2
          go_round
          case rel => exact ⟨j + 1, by omega, by go_num⟩
          case measure => simp [intOf]; omega
    · have d3 : decide ((j : Int) < (n : Int)) = false := decide_eq_false (by omega)
      clear d2
      cases lf
      · have hmn : m = n + 1 := by have h := HT.out; rw [if_neg (by decide)] at h; have := HN.out.K.len; omega
        have HMN := Lib.hid hmn
        have HQ := Lib.hid (kid_c key (kidN xs key) HN4.out HM.out rfl)
        have hq := kid_le xs key
        rw [HN.out.K.len] at hq
        have HKL : Hid (∀ t, t < kidN xs key → co (xs.getD t e0) key ≤ 0) := fun t ht => kid_low ht
        have HKH : Hid (∀ t, kidN xs key ≤ t → t < xs.length → 0 < co (xs.getD t e0) key) := fun t h1 h2 => kid_high HU.out h1 h2
        have HFB : Hid (fenceB false xs m k (kidN xs key : Nat) = decide (kidN xs key < n)) := by
          show _ = _
          unfold fenceB
          rw [HM.out, HN.out.K.len, decide_eq_true (show (0 : Int) ≤ (kidN xs key : Nat) by omega)]
          simp
        have HFS : Hid (kidN xs key < n → fence false xs m k (kidN xs key : Nat) = xs.getD (kidN xs key) e0) := fun h => by
          rw [fence_yes (by rw [HFB.out]; exact decide_eq_true h)]; rfl
        generalize kidN xs key = q at *
        clear hmn
        go_wp2_with fail
        refine (HQ.out).mono ?_
        rintro x w5 ⟨rfl, hb⟩
        have HB5 := Lib.hid (stepB HB4.out hb)
        have b5 := Lib.hid (b4.out.later hb)
        have c5 := b5.out.c4
        have HN5 := Lib.hid (HN4.out.later hb)
        have hqm : q < m := by have := HMN.out; omega
        have f1 : decide ((m : Int) ≤ (q : Int)) = false := decide_eq_false (by omega)
        have HF5 := Lib.hid (fence_c (lf := false) (w := w5) ((q : Nat) : Int) _ _ HN5.out rfl rfl)
        clear hb b4 HB4 c4 HQ
        rcases Nat.eq_zero_or_pos q with hq0 | hq0
        · subst hq0
          have g0 : ¬ m = 0 := by omega
          have g1 : 0 < m := by omega
          have g2 : decide (m = 0) = false := decide_eq_false g0
          have f0 : decide ((0 : Int) < (0 : Int)) = false := rfl
          go_wp2_with fail
          refine (HF5.out).mono ?_
          rintro x w6 ⟨rfl, hb⟩
          have HB6 := Lib.hid (stepB HB5.out hb)
          have b6 := Lib.hid (b5.out.later hb)
          have c6 := b6.out.c4
          have HN6 := Lib.hid (HN5.out.later hb)
          clear hb b5 HB5 c5 HF5 
          by_cases hqn : 0 < n
          · rw [HFB.out, HFS.out hqn, decide_eq_true hqn]
            obtain ⟨g6, off6, hA6, hcell6⟩ := HN6.out.K.rd.getD hqn
            have hc6 := hcell6 (0) hqn
            obtain ⟨z, hz6⟩ : ∃ z, xs.getD (0) e0 = z := ⟨_, rfl⟩
            rw [hz6] at hc6 ⊢
            have e6 : Op.bytesLess key.toList z.toList = true := less_yes (by have := HKH.out (0) (by omega) (by rw [HN6.out.K.len]; exact hqn); rw [hz6] at this; have h := co_neg z key; omega)
            have e7 : (z.toList == z.toList) = true := seq_yes rfl
            have i6 := sindex g6 off6 n c 0 0 rfl hqn
            rw [Nat.add_zero] at hc6
            simp only [Nat.add_zero] at i6
            have f6 : decide ((0 : Int) < (n : Int)) = true := decide_eq_true (by omega)
            first | cases hA6 | subst hA6
            clear hz6 hcell6
            go_wp2
            go_ret
            exact ⟨rfl, HB6.out⟩
          · have f7 : decide (0 < n) = false := decide_eq_false hqn
            have f8 : n = 0 := by omega
            rw [HFB.out, decide_eq_false hqn]
            go_wp2
            go_ret
            exact ⟨rfl, HB6.out⟩
        · obtain ⟨q', rfl⟩ : ∃ q', q = q' + 1 := ⟨q - 1, by omega⟩
          have g0 : ¬ m ≤ q' + 1 := by omega
          have g2 : decide (m ≤ q' + 1) = false := decide_eq_false g0
          have g3 : decide ((m : Int) ≤ (q' : Int) + 1) = false := decide_eq_false (by omega)
          obtain ⟨g, off, hA, hcell⟩ := HN5.out.K.rd.getD (j := q') (by omega)
          have hcq := hcell q' (by omega)
          obtain ⟨y, hy⟩ : ∃ y, xs.getD q' e0 = y := ⟨_, rfl⟩
          rw [hy] at hcq
          have hyk : co y key ≤ 0 := by have := HKL.out q' (by omega); rwa [hy] at this
          have i5 := sindex g off n c q' (q' : Int) rfl (by omega)
          have w5' : IntKind.i64.wrap (((q' + 1 : Nat) : Int) - 1) = (q' : Int) := (IntWalk.i64_in _ (by omega)).trans (by omega)
          have w6' : IntKind.i64.wrap ((q' : Int) + 1 - 1) = (q' : Int) := (IntWalk.i64_in _ (by omega)).trans (by omega)
          have w7' : (q' : Int) + 1 - 1 = (q' : Int) := by omega
          subst hA
          clear hy hcell
          have e5 : (Op.bytesLess y.toList key.toList = true ∧ (y.toList == key.toList) = false) ∨ (Op.bytesLess y.toList key.toList = false ∧ (y.toList == key.toList) = true) := by
            rcases Int.lt_or_eq_of_le hyk with h | h
            · exact .inl ⟨less_yes h, same_no (by omega)⟩
            · exact .inr ⟨less_no (by omega), same_yes h⟩
          clear hyk
          rcases e5 with ⟨e5, e5'⟩ | ⟨e5, e5'⟩
          all_goals (
            have f0 : decide ((0 : Int) < ((q' : Int) + 1)) = true := decide_eq_true (by omega)
            go_wp2_with fail
            refine (HF5.out).mono ?_
            rintro x w6 ⟨rfl, hb⟩
            have HB6 := Lib.hid (stepB HB5.out hb)
            have b6 := Lib.hid (b5.out.later hb)
            have c6 := b6.out.c4
            have HN6 := Lib.hid (HN5.out.later hb)
            clear hb b5 HB5 c5 HF5 hcq i5 w5' w6' w7' e5 e5'
            by_cases hqn : q' + 1 < n
            · rw [HFB.out, HFS.out hqn, decide_eq_true hqn]
              obtain ⟨g6, off6, hA6, hcell6⟩ := HN6.out.K.rd.getD hqn
              have hc6 := hcell6 (q' + 1) hqn
              obtain ⟨z, hz6⟩ : ∃ z, xs.getD (q' + 1) e0 = z := ⟨_, rfl⟩
              rw [hz6] at hc6 ⊢
              have e6 : Op.bytesLess key.toList z.toList = true := less_yes (by have := HKH.out (q' + 1) (by omega) (by rw [HN6.out.K.len]; exact hqn); rw [hz6] at this; have h := co_neg z key; omega)
              have e7 : (z.toList == z.toList) = true := seq_yes rfl
              have i6 := sindex g6 off6 n c (q' + 1) ((q' : Int) + 1) (by omega) hqn
              have f6 : decide (((q' : Int) + 1) < (n : Int)) = true := decide_eq_true (by omega)
              first | cases hA6 | subst hA6
              clear hz6 hcell6
              go_wp2
              go_ret
              exact ⟨rfl, HB6.out⟩
            · have f6 : decide (((q' : Int) + 1) < (n : Int)) = false := decide_eq_false (by omega)
              have f7 : decide (q' + 1 < n) = false := decide_eq_false hqn
              rw [HFB.out, decide_eq_false hqn]
              go_wp2
              go_ret
              exact ⟨rfl, HB6.out⟩)
      · go_wp2
        go_ret
        exact ⟨rfl, HB4.out⟩
theorem walk (lf : Bool) (A B C : Option Addr) (n c m d k e : Nat) (xs : List ByteArray) (ks rs : List Int) (key : ByteArray) (w : World) (hI : NdIn w A B C n c m d k e xs ks rs) : Calls Try.prog 5 #[.agg #[.bool lf, .slice A n c, .slice B m d, .slice C k e], .string key] w (fun e w' => e = .returned (.bool true) ∧ Below w.heap.size w w') := by
  cases hL : largeB xs m k
  · by_cases hk : 3000 < key.size
    · exact w_long lf A B C n c m d k e xs ks rs key w hI hL hk
    · cases hM : mayB lf xs m k
      · exact w_wrong lf A B C n c m d k e xs ks rs key w hI hL hk hM
      · exact w_main lf A B C n c m d k e xs ks rs key w hI hL hk hM
  · exact w_large lf A B C n c m d k e xs ks rs key w hI hL


set_option maxRecDepth 100000 in
theorem lifted (os : Os) (started : os.Started) (H : Type) (enc : TypeId × Value → H) :
    ReturnsInHanded {} Try.checked os 5 .any (Rows.forkPlacesSpec.pre6 enc Try.prog Try.f5 Rows.forkPlacesRow.domain false) (Rows.forkPlacesSpec.post enc Try.prog Try.f5 false true false false) := by
  refine returnsInHanded_of_change_sized (C := Try.checked) own started (by kernel_rfl) Try.func5
    (ChangeSpec.witness6 (enc := enc) (C := Try.checked) false ⟨#[], #[.agg #[.bool false, .slice none 0 0, .slice none 0 0, .slice none 0 0], .string ⟨#[]⟩], []⟩ 8 (by kernel_rfl) (by kernel_rfl) (by kernel_rfl) (by kernel_rfl)) ?_
  intro W base args ds gs before hval0 hW _ hsz _
  have hval : ∀ (j : Nat) t v, Try.f5.params[j]? = some t → args[j]? = some v → Value.okWide Try.prog W .any base t v := hval0
  have hW' := hW
  obtain ⟨p, q, hA0, hV, hbef, _, _⟩ := hW
  have hA : DataW.TrodAll enc Try.prog W 0 (fun _ => true) true Try.f5.params.toList args.toList ds p := hA0
  rw [Try.params5] at hA hval
  obtain ⟨v0, vs0, d0, ds0, p0, q0, hargs, rfl, rfl, h0, r0⟩ := trodAll_cons hA
  obtain ⟨v1, vs1, d1, ds1, p1, q1, rfl, rfl, rfl, h1, r1⟩ := trodAll_cons r0
  obtain ⟨rfl, rfl, rfl⟩ := trodAll_nil r1
  obtain rfl : args = #[v0, v1] := by cases args; simp_all
  obtain ⟨rfl, rfl⟩ := trodVars_none hV
  obtain ⟨lf0, A0, B0, C0, n0, c0, m0, d0_, k0, e0, xs0, ks0, rs0, rfl, nn0⟩ := open_node (hval 0 28 v0 rfl rfl) h0 (weight_at (ts := Try.f5.params.toList) hsz (j := 0) (by rw [Try.params5]; rfl) rfl)
  obtain ⟨s1, rfl, _, _, w1⟩ := open_string Try.underlying9 (hval 1 9 v1 rfl rfl) h1
  refine (walk lf0 A0 B0 C0 n0 c0 m0 d0_ k0 e0 xs0 ks0 rs0 s1 W nn0).mono fun e W' ⟨he, hb⟩ => ?_
  subst he
  exact ⟨_, rfl, law_post laidOut (of_decide_eq_true (by kernel_rfl)) rfl Try.underlying4 rfl rfl hW' hb⟩

theorem over : Rows.forkPlacesRow.holds Try.pinned (OpenSpec.ofChange Rows.forkPlacesSpec) :=
  OpenClaim.holds_of_wide 5 Try.f5 rfl rfl rfl rfl rfl rfl rfl ⟨rfl, rfl, rfl, rfl, rfl⟩ rfl rfl rfl rfl rfl (by kernel_rfl) Try.func5 (by kernel_rfl)
    (of_decide_eq_true (by kernel_rfl)) (by unfold Func.isWrapper; first | (rw [if_pos (by decide +kernel)]; kernel_rfl) | (rw [if_neg (by decide +kernel)]; exact ⟨rfl, rfl⟩))
    (fun os started H enc _ => lifted os started H enc)

end Go.Proofs.Ytiojjpmkiljngaa.forkPlaces
namespace Go.Proofs.Ytiojjpmkiljngaa
theorem forkPlaces_holds : Rows.ForkPlacesSaid := forkPlaces.over
end Go.Proofs.Ytiojjpmkiljngaa
