/- A key's place among keys that rise, by halving. -/
import Derived.Test.YtiojjpmkiljngaaB
namespace Go.Proofs.Ytiojjpmkiljngaa
open Go.ChangeShapes Go.WideShapes Go.ChangeAt Go.RowKit
set_option linter.unusedVariables false
theorem co_lt {a b c : ByteArray} (h1 : co a b < 0) (h2 : co b c < 0) : co a c < 0 := cb_lt_le _ _ _ h1 (Int.le_of_lt h2)
theorem co_le_lt {a b c : ByteArray} (h1 : co a b ≤ 0) (h2 : co b c < 0) : co a c < 0 := cb_le_lt _ _ _ h1 h2
theorem co_lt_le {a b c : ByteArray} (h1 : co a b < 0) (h2 : co b c ≤ 0) : co a c < 0 := cb_lt_le _ _ _ h1 h2
theorem rise {xs : List ByteArray} (h : upB xs = true) (i j : Nat) (hij : i < j) (hj : j < xs.length) : co (xs.getD i e0) (xs.getD j e0) < 0 := by
  have hs := (upB_iff xs).1 h
  induction j with
  | zero => omega
  | succ j ih =>
    by_cases e : i = j
    · subst e; exact hs i hj
    · exact co_lt (ih (by omega) (by omega)) (hs j hj)
/-- the place of the first key that is not below -/
def lowN : List ByteArray → ByteArray → Nat
  | [], _ => 0
  | a :: l, k => if co a k < 0 then lowN l k + 1 else 0
theorem low_of {xs : List ByteArray} {k : ByteArray} {l : Nat} (hl : l ≤ xs.length) (h1 : ∀ t, t < l → co (xs.getD t e0) k < 0) (h2 : l < xs.length → 0 ≤ co (xs.getD l e0) k) : lowN xs k = l := by
  induction xs generalizing l with
  | nil => simp at hl; subst hl; rfl
  | cons a xs ih =>
    unfold lowN
    cases l with
    | zero =>
      have := h2 (by simp)
      simp only [List.getD_cons_zero] at this
      rw [if_neg (by omega)]
    | succ l =>
      have := h1 0 (by omega)
      simp only [List.getD_cons_zero] at this
      rw [if_pos this]
      rw [ih (l := l) (by simpa using hl) (fun t ht => by simpa using h1 (t + 1) (by omega)) (fun h => by simpa using h2 (by simpa using h))]
theorem low_le (xs : List ByteArray) (k : ByteArray) : lowN xs k ≤ xs.length := by
  induction xs with
  | nil => exact Nat.le_refl _
  | cons a xs ih => unfold lowN; split <;> simp <;> omega
theorem low_below (xs : List ByteArray) (k : ByteArray) (t : Nat) (ht : t < lowN xs k) : co (xs.getD t e0) k < 0 := by
  induction xs generalizing t with
  | nil => simp [lowN] at ht
  | cons a xs ih =>
    unfold lowN at ht
    split at ht
    · cases t with
      | zero => simpa
      | succ t => simpa using ih t (by omega)
    · omega
theorem low_at (xs : List ByteArray) (k : ByteArray) (h : lowN xs k < xs.length) : 0 ≤ co (xs.getD (lowN xs k) e0) k := by
  induction xs with
  | nil => simp at h
  | cons a xs ih =>
    unfold lowN at h ⊢
    split
    · rename_i h1
      rw [if_pos h1] at h
      simpa using ih (by simpa using h)
    · rename_i h1
      simp only [List.getD_cons_zero]; omega
/-- is it that key? -/
def hasB (xs : List ByteArray) (k : ByteArray) : Bool := decide (lowN xs k < xs.length) && decide (co (xs.getD (lowN xs k) e0) k = 0)
def cfn : Value := .func (.func 33) #[] #[]
set_option maxRecDepth 100000 in
set_option maxHeartbeats 2000000 in
theorem place_any (A : Option Addr) (n c : Nat) (xs : List ByteArray) (key : ByteArray) (w : World) (hs : Rd sv w.heap.size w A n xs) (hn : n ≤ 1000000) (hu : upB xs = true) :
    Calls Try.prog 35 #[.slice A n c, .string key, .func (.func 33) #[] #[]] w fun e w' => e = .returned (.tuple #[.int .i64 (lowN xs key : Nat), .bool (hasB xs key)]) ∧ w = w' := by
  have Hs := Lib.hid hs
  have HU := Lib.hid hu
  clear hs hu
  go_enter Try.func35, Try.ntmps35
  go_wp2
  go_loop [8, 9] (fun i j => ∃ l h : Nat, l ≤ h ∧ h ≤ n ∧ i = .int .i64 l ∧ j = .int .i64 h ∧ (∀ t, t < l → co (xs.getD t e0) key < 0) ∧ (∀ t, h ≤ t → t < n → 0 ≤ co (xs.getD t e0) key)) (fun i j => (intOf j).toNat - (intOf i).toNat)
  case atStart => exact ⟨0, n, by omega, by omega, rfl, rfl, fun t ht => by omega, fun t h1 h2 => by omega⟩
  case round =>
    obtain ⟨l, h, hlh, hhn, rfl, rfl, hlo, hhi⟩ := hrel
    have Hlo := Lib.hid hlo
    have Hhi := Lib.hid hhi
    clear hlo hhi
    by_cases hlt : l < h
    · have hc1 : decide ((l : Int) < (h : Int)) = true := decide_eq_true (by omega)
      have w1 : IntKind.i64.wrap ((h : Int) - (l : Int)) = ((h - l : Nat) : Int) := (IntWalk.i64_in _ (by omega)).trans (by omega)
      obtain ⟨g, off, rfl, hcell⟩ := Hs.out.getD (j := 0) (by omega)
      have h1 := hcell (l + (h - l) / 2) (by omega)
      clear hcell
      obtain ⟨x, hx⟩ : ∃ x, xs.getD (l + (h - l) / 2) e0 = x := ⟨_, rfl⟩
      rw [hx] at h1
      have HX := Lib.hid hx
      have i1 := index_run g off n c (l + (h - l) / 2) ((l : Int) + ((h - l : Nat) : Int) / 2) (by omega) (by omega)
      clear hx
      by_cases hco : co x key < 0
      · have d1 : decide (co x key < 0) = true := decide_eq_true hco
        have Hlo2 : Hid (∀ t, t < l + (h - l) / 2 + 1 → co (xs.getD t e0) key < 0) := fun t ht => by
          by_cases e : t = l + (h - l) / 2
          · subst e; rw [HX.out]; exact hco
          · exact co_lt (rise HU.out t (l + (h - l) / 2) (by omega) (by have := Hs.out.1; omega)) (by rw [HX.out]; exact hco)
        have Hco := Lib.hid hco
        clear hco
        go_wp2_with (go_at_call 33; refine (cmp _ _ _).mono ?_; rintro e w' ⟨rfl, rfl⟩)
        go_round
        case rel => exact ⟨l + (h - l) / 2 + 1, h, by omega, by omega, by go_num, rfl, Hlo2.out, Hhi.out⟩
        case measure => simp [intOf]; omega
      · have d1 : decide (co x key < 0) = false := decide_eq_false hco
        have Hhi2 : Hid (∀ t, l + (h - l) / 2 ≤ t → t < n → 0 ≤ co (xs.getD t e0) key) := fun t h1 h2 => by
          by_cases e : t = l + (h - l) / 2
          · subst e; rw [HX.out]; omega
          · have h3 := rise HU.out (l + (h - l) / 2) t (by omega) (by have := Hs.out.1; omega)
            rw [HX.out] at h3
            have h4 := co_neg x key
            have h5 := co_neg (xs.getD t e0) key
            have h6 := co_le_lt (a := key) (b := x) (c := xs.getD t e0) (by omega) h3
            omega
        have Hco := Lib.hid hco
        clear hco
        go_wp2_with (go_at_call 33; refine (cmp _ _ _).mono ?_; rintro e w' ⟨rfl, rfl⟩)
        go_round
        case rel => exact ⟨l, l + (h - l) / 2, by omega, by omega, rfl, by go_num, Hlo.out, Hhi2.out⟩
        case measure => simp [intOf]; omega
    · obtain rfl : l = h := by omega
      have hc1 : decide ((l : Int) < (l : Int)) = false := decide_eq_false (by omega)
      have HL : Hid (lowN xs key = l) := low_of (by have := Hs.out.1; omega) Hlo.out (fun h => Hhi.out l (Nat.le_refl _) (by have := Hs.out.1; omega))
      by_cases hln : l < n
      · have hc2 : decide ((l : Int) < (n : Int)) = true := decide_eq_true (by omega)
        obtain ⟨g, off, rfl, hcell⟩ := Hs.out.getD (j := 0) (by omega)
        have h1 := hcell l (by omega)
        clear hcell
        obtain ⟨x, hx⟩ : ∃ x, xs.getD l e0 = x := ⟨_, rfl⟩
        rw [hx] at h1
        have i1 := index_run g off n c l (l : Int) rfl (by omega)
        have HB : Hid (hasB xs key = decide (co x key = 0)) := by show _ = _; unfold hasB; rw [HL.out, hx, decide_eq_true (show l < xs.length by have := Hs.out.1; omega)]; rfl
        clear hx
        go_wp2_with (go_at_call 33; refine (cmp _ _ _).mono ?_; rintro e w' ⟨rfl, rfl⟩)
        go_ret2
        exact ⟨by rw [HL.out, HB.out]; first | rfl | (congr 4), rfl⟩
      · have hc2 : decide ((l : Int) < (n : Int)) = false := decide_eq_false (by omega)
        have HB : Hid (hasB xs key = false) := by show _ = _; unfold hasB; rw [HL.out, decide_eq_false (show ¬ l < xs.length by have := Hs.out.1; omega)]; rfl
        go_wp2
        go_ret2
        exact ⟨by rw [HL.out, HB.out]; rfl, rfl⟩
theorem ret_any {v v' : Value} (h : v = v') : Ending.returned v = .returned v' := by rw [h]
set_option maxHeartbeats 1000000 in
theorem inner_any (lf : Bool) (A B C : Option Addr) (n c m d k e : Nat) (xs : List ByteArray) (w : World) (hs : Rd sv w.heap.size w A n xs) (hn : n ≤ 1000000) (hm : m ≤ 1000000) (hk : k ≤ 1000000) :
    Calls Try.prog 34 #[.agg #[.bool lf, .slice A n c, .slice B m d, .slice C k e]] w fun x w' => x = .returned (.bool (!lf && mayB lf xs m k)) ∧ Below w.heap.size w w' := by
  have hB0 : Below w.heap.size w (w.alloc (.cells #[.bool lf, .slice A n c, .slice B m d, .slice C k e] 28)) := (Below.refl _ _).alloc (Nat.le_refl _) _
  have HB0 := Lib.hid hB0
  have HC := Lib.hid (May_any lf A B C n c m d k e xs _ (hs.later hB0) hn hm hk)
  clear hB0 hs
  cases lf
  · go_enter Try.func34, Try.ntmps34
    go_wp2_with fail
    refine (HC.out).mono ?_
    rintro x w' ⟨rfl, hb⟩
    go_wp2
    go_ret
    exact ⟨ret_bool (by simp), stepB HB0.out hb⟩
  · go_enter Try.func34, Try.ntmps34
    go_wp2
    go_ret
    exact ⟨rfl, HB0.out⟩
theorem may_up {lf : Bool} {xs : List ByteArray} {m k : Nat} (h : mayB lf xs m k = true) : upB xs = true := by
  unfold mayB at h
  cases hx : upB xs
  · rw [hx] at h; cases h
  · rfl
set_option maxHeartbeats 1000000 in
theorem Place_any (lf : Bool) (A B C : Option Addr) (n c m d k e : Nat) (xs : List ByteArray) (key : ByteArray) (w : World) (hs : Rd sv w.heap.size w A n xs) (hn : n ≤ 1000000) (hm : m ≤ 1000000) (hk : k ≤ 1000000) :
    Calls Try.prog 12 #[.agg #[.bool lf, .slice A n c, .slice B m d, .slice C k e], .string key] w fun x w' => x = .returned (.tuple #[.int .i64 (if mayB lf xs m k then lowN xs key else 0 : Nat), .bool (mayB lf xs m k && hasB xs key)]) ∧ Below w.heap.size w w' := by
  have b0 := Blk.new w #[.bool lf, .slice A n c, .slice B m d, .slice C k e] 28
  have hB0 : Below w.heap.size w (w.alloc (.cells #[.bool lf, .slice A n c, .slice B m d, .slice C k e] 28)) := (Below.refl _ _).alloc (Nat.le_refl _) _
  have HB0 := Lib.hid hB0
  have H0 := Lib.hid b0
  have Hs := Lib.hid (hs.later hB0)
  obtain ⟨b, hbm⟩ : ∃ b, mayB lf xs m k = b := ⟨_, rfl⟩
  have hC := May_any lf A B C n c m d k e xs _ (hs.later hB0) hn hm hk
  rw [hbm] at hC ⊢
  have HC := Lib.hid hC
  have HM := Lib.hid hbm
  clear hB0 hs b0 hC hbm
  cases b
  · show Calls Try.prog 12 _ w fun x w' => x = .returned (.tuple #[.int .i64 ((0 : Nat) : Int), .bool false]) ∧ Below w.heap.size w w'
    go_enter Try.func12, Try.ntmps12
    go_wp2_with fail
    refine (HC.out).mono ?_
    rintro x w' ⟨rfl, hb⟩
    have HB := Lib.hid (stepB HB0.out hb)
    clear hb HC
    go_wp2
    go_ret2
    exact ⟨rfl, HB.out⟩
  · show Calls Try.prog 12 _ w fun x w' => x = .returned (.tuple #[.int .i64 (lowN xs key : Nat), .bool (hasB xs key)]) ∧ Below w.heap.size w w'
    have hu : upB xs = true := may_up HM.out
    have HU := Lib.hid hu
    clear hu
    go_enter Try.func12, Try.ntmps12
    go_wp2_with fail
    refine (HC.out).mono ?_
    rintro x w' ⟨rfl, hb⟩
    have HB := Lib.hid (stepB HB0.out hb)
    have HP := Lib.hid (place_any A n c xs key w' (Hs.out.later hb) hn HU.out)
    have k1 := (H0.out.later hb).cell 1
    simp only [List.getElem?_toArray, List.getElem?_cons_zero, List.getElem?_cons_succ] at k1
    clear hb HC
    go_wp2_with fail
    refine (HP.out).mono ?_
    rintro x w2 ⟨rfl, rfl⟩
    go_wp2
    go_ret2
    exact ⟨rfl, HB.out⟩
/-- the kid that has a key -/
def kidN (xs : List ByteArray) (k : ByteArray) : Nat := if hasB xs k then lowN xs k + 1 else lowN xs k
end Go.Proofs.Ytiojjpmkiljngaa
