/- The document's word on a key's kid, on a kid's fence. -/
import Derived.Test.YtiojjpmkiljngaaF
namespace Go.Proofs.Ytiojjpmkiljngaa
open Go.ChangeShapes Go.WideShapes Go.ChangeAt Go.RowKit
set_option linter.unusedVariables false
theorem kid_low {xs : List ByteArray} {key : ByteArray} {t : Nat} (ht : t < kidN xs key) : co (xs.getD t e0) key ≤ 0 := by
  unfold kidN at ht
  by_cases hh : hasB xs key = true
  · rw [if_pos hh] at ht
    by_cases e : t = lowN xs key
    · unfold hasB at hh
      rw [Bool.and_eq_true, decide_eq_true_eq, decide_eq_true_eq] at hh
      rw [e]; omega
    · exact Int.le_of_lt (low_below xs key t (by omega))
  · rw [if_neg hh] at ht
    exact Int.le_of_lt (low_below xs key t ht)
theorem kid_high {xs : List ByteArray} {key : ByteArray} {t : Nat} (hu : upB xs = true) (ht : kidN xs key ≤ t) (hn : t < xs.length) : 0 < co (xs.getD t e0) key := by
  have hl : lowN xs key ≤ t := by unfold kidN at ht; split at ht <;> omega
  have h0 := low_at xs key (by omega)
  have hk := co_neg (xs.getD t e0) key
  have hk2 := co_neg (xs.getD (lowN xs key) e0) key
  unfold kidN at ht
  by_cases hh : hasB xs key = true
  · rw [if_pos hh] at ht
    unfold hasB at hh
    rw [Bool.and_eq_true, decide_eq_true_eq, decide_eq_true_eq] at hh
    have h1 := rise hu (lowN xs key) t (by omega) hn
    have h2 := co_le_lt (a := key) (b := xs.getD (lowN xs key) e0) (c := xs.getD t e0) (by omega) h1
    omega
  · have hne : co (xs.getD (lowN xs key) e0) key ≠ 0 := fun e => hh (by
      unfold hasB
      rw [decide_eq_true (show lowN xs key < xs.length by omega), decide_eq_true e]; rfl)
    by_cases e : lowN xs key = t
    · rw [e] at h0 hne; omega
    · have h1 := rise hu (lowN xs key) t (by omega) hn
      have h2 := co_lt (a := key) (b := xs.getD (lowN xs key) e0) (c := xs.getD t e0) (by omega) h1
      omega
theorem kid_le (xs : List ByteArray) (key : ByteArray) : kidN xs key ≤ xs.length := by
  unfold kidN
  have := low_le xs key
  split
  · rename_i h
    unfold hasB at h
    rw [Bool.and_eq_true, decide_eq_true_eq] at h
    omega
  · exact this
theorem leq_no {a b : ByteArray} (h : 0 < co a b) : Op.bytesLess a.toList b.toList = false ∧ (a.toList == b.toList) = false := ⟨less_no (by omega), same_no (by omega)⟩
def KidEnd (lf : Bool) (xs : List ByteArray) (m k : Nat) (key : ByteArray) (w : World) (x : Ending) (w' : World) : Prop := x = .returned (.int .i64 (if !lf && mayB lf xs m k then kidN xs key else 0 : Nat)) ∧ Below w.heap.size w w'
theorem kid_end_no {lf : Bool} {xs : List ByteArray} {m k : Nat} {key : ByteArray} {w w' : World} (h : (!lf && mayB lf xs m k) = false) (hb : Below w.heap.size w w') : KidEnd lf xs m k key w (.returned (.int .i64 0)) w' := ⟨by rw [h]; rfl, hb⟩
theorem kid_end_yes {lf : Bool} {xs : List ByteArray} {m k l : Nat} {key : ByteArray} {w w' : World} (h : (!lf && mayB lf xs m k) = true) (hl : kidN xs key = l) (hb : Below w.heap.size w w') : KidEnd lf xs m k key w (.returned (.int .i64 l)) w' := ⟨by rw [h, hl]; simp, hb⟩
set_option maxRecDepth 100000 in
set_option maxHeartbeats 1000000 in
theorem rKid_any (lf : Bool) (A B C : Option Addr) (n c m d k e : Nat) (xs : List ByteArray) (key : ByteArray) (w : World) (hs : Rd sv w.heap.size w A n xs) (hn : n ≤ 1000000) (hm : m ≤ 1000000) (hk : k ≤ 1000000) :
    Calls Try.prog 25 #[.agg #[.bool lf, .slice A n c, .slice B m d, .slice C k e], .string key] w (KidEnd lf xs m k key w) := by
  have b0 := Blk.new w #[.bool lf, .slice A n c, .slice B m d, .slice C k e] 47
  have hB0 : Below w.heap.size w (w.alloc (.cells #[.bool lf, .slice A n c, .slice B m d, .slice C k e] 47)) := (Below.refl _ _).alloc (Nat.le_refl _) _
  have HB0 := Lib.hid hB0
  have H0 := Lib.hid b0
  have Hs := Lib.hid (hs.later hB0)
  cases lf
  case true =>
    clear hB0 hs b0
    go_enter Try.func25, Try.ntmps25
    go_wp2
    go_ret
    exact kid_end_no rfl HB0.out
  obtain ⟨b, hbm⟩ : ∃ b, mayB false xs m k = b := ⟨_, rfl⟩
  have hC := rMay_any false A B C n c m d k e xs _ (hs.later hB0) hn hm hk
  rw [hbm] at hC
  have HC := Lib.hid hC
  have HM : Hid ((!false && mayB false xs m k) = b) := by show _ = _; rw [hbm]; rfl
  have HL := Lib.hid Hs.out.1
  have HU : Hid (b = true → upB xs = true) := fun h => may_up (hbm.trans h)
  clear hB0 hs b0 hC hbm
  cases b
  · go_enter Try.func25, Try.ntmps25
    go_wp2_with fail
    refine (HC.out).mono ?_
    rintro x w' ⟨rfl, hb⟩
    have HB := Lib.hid (stepB HB0.out hb)
    clear hb HC
    go_wp2
    go_ret
    exact kid_end_no HM.out HB.out
  · have HU2 : Hid (upB xs = true) := HU.out rfl
    clear HU
    go_enter Try.func25, Try.ntmps25
    go_wp2_with fail
    refine (HC.out).mono ?_
    rintro x w' ⟨rfl, hb⟩
    have HB := Lib.hid (stepB HB0.out hb)
    have Hs2 := Lib.hid (Hs.out.later hb)
    have k1 := (H0.out.later hb).cell 1
    simp only [List.getElem?_toArray, List.getElem?_cons_zero, List.getElem?_cons_succ] at k1
    clear hb HC Hs H0 HB0
    go_wp2
    go_loop [5, 6] (fun q i => ∃ j l : Nat, j ≤ n ∧ i = .int .i64 j ∧ q = .int .i64 l ∧ l ≤ j ∧ l = min j (kidN xs key)) (fun q i => n - (intOf i).toNat)
    case atStart => exact ⟨0, 0, by omega, rfl, rfl, by omega, by omega⟩
    case round =>
      obtain ⟨j, l, hj, rfl, rfl, hlj, hl⟩ := hrel
      have HK := Lib.hid hl
      clear hl
      by_cases hlt : j < n
      · have hc1 : decide ((j : Int) < (n : Int)) = true := decide_eq_true (by omega)
        obtain ⟨g, off, rfl, hcell⟩ := Hs2.out.getD (j := 0) (by omega)
        have h1 := hcell j hlt
        obtain ⟨x, hx⟩ : ∃ x, xs.getD j e0 = x := ⟨_, rfl⟩
        rw [hx] at h1
        have HX := Lib.hid hx
        have i1 := index_run g off n c j (j : Int) rfl hlt
        clear hcell hx
        by_cases hco : 0 < co x key
        · have d1 := (leq_no hco).1
          have d2 := (leq_no hco).2
          have HK2 : Hid (l = min (j + 1) (kidN xs key)) := by
            show _ = _
            have h := HK.out
            have h2 : kidN xs key ≤ j := by
              rcases Nat.lt_or_ge j (kidN xs key) with c | c
              · have := kid_low c; rw [HX.out] at this; omega
              · exact c
            omega
          have Hco := Lib.hid hco
          clear hco
          go_wp2
          go_round
          case rel => exact ⟨j + 1, l, by omega, by go_num, rfl, by omega, HK2.out⟩
          case measure => simp [intOf]; omega
        · have d1 : (Op.bytesLess x.toList key.toList || x.toList == key.toList) = true := leq_yes (by omega)
          have HK2 : Hid (l + 1 = min (j + 1) (kidN xs key)) := by
            show _ = _
            have h := HK.out
            have h2 : j < kidN xs key := by
              rcases Nat.lt_or_ge j (kidN xs key) with c | c
              · exact c
              · have := kid_high HU2.out c (by have := HL.out; omega); rw [HX.out] at this; omega
            omega
          have Hco := Lib.hid hco
          clear hco
          go_wp2
          go_round
          case rel => exact ⟨j + 1, l + 1, by omega, by go_num, by go_num, by omega, HK2.out⟩
          case measure => simp [intOf]; omega
      · obtain rfl : j = n := by omega
        have hc1 : decide ((j : Int) < (j : Int)) = false := decide_eq_false (by omega)
        have HF : Hid (kidN xs key = l) := by
          show _ = _
          have h := HK.out
          have h2 := kid_le xs key
          have h3 := HL.out
          omega
        go_wp2
        go_ret
        exact kid_end_yes HM.out HF.out HB.out
end Go.Proofs.Ytiojjpmkiljngaa
