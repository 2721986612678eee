/- Package view's Sees, Same, Copy. -/
import Derived.Test.YthicofdbcldpaaaN
namespace Go.Proofs.Ythicofdbcldpaaa
open Go.ChangeShapes Go.WideShapes Go.ChangeAt Go.RowKit Go.Shelf Go.Sort Go.Lib
set_option linter.unusedVariables false
set_option linter.unusedSimpArgs false
theorem contains_any (A : Option Addr) (n c : Nat) (xs : List Int) (x : Int) (w : World) (hs : Ints w.heap.size w A n xs) (hn : n ≤ 1000000) :
    Calls Try.prog 26 #[.slice A n c, .int .i64 x] w fun e w' => e = .returned (.bool (decide (x ∈ xs))) ∧ w = w' := by
  by_cases h0 : 0 < n
  · obtain ⟨g, off, rfl, hg, hc⟩ := hs.2 h0
    refine (Try.slices_Contains_int g off n c xs x w (by rw [hs.1]; exact Nat.le_refl _) (by omega) (fun j hj => hc j (by rw [hs.1] at hj; exact hj))).mono ?_
    rintro e w' ⟨rfl, rfl⟩
    refine ⟨?_, rfl⟩
    rw [List.take_of_length_le (by rw [hs.1]; exact Nat.le_refl _)]
    have : xs.contains x = decide (x ∈ xs) := by simp
    rw [this]
  · obtain rfl : n = 0 := by omega
    have hx : xs = [] := List.eq_nil_of_length_eq_zero hs.1
    refine (Try.slices_Contains_int_empty A c x w).mono ?_
    rintro e w' ⟨rfl, rfl⟩
    exact ⟨by rw [hx]; rfl, rfl⟩
set_option maxHeartbeats 1000000 in
theorem among_any (own high : Int) (A : Option Addr) (n c : Nat) (w : World) :
    Calls Try.prog 17 #[.agg #[.int .i64 own, .int .i64 high, .slice A n c]] w fun e w' => e = .returned (.func (.func 25) #[] #[.pointer (some ⟨w.heap.size, 0, none⟩)]) ∧ w' = w.alloc (.cells #[.int .i64 own, .int .i64 high, .slice A n c] 25) := by
  go_enter Try.func17, Try.ntmps17
  go_wp2
  go_ret
  exact ⟨rfl, rfl⟩
set_option maxHeartbeats 1000000 in
theorem busy_any (B : Nat) (A : Option Addr) (n c : Nat) (xs : List Int) (x : Int) (w : World) (hc : w.cell? ⟨B, 2, none⟩ = some (.slice A n c)) (hs : Ints w.heap.size w A n xs) (hn : n ≤ 1000000) :
    Calls Try.prog 25 #[.int .i64 x, .pointer (some ⟨B, 0, none⟩)] w fun e w' => e = .returned (.bool (decide (x ∈ xs))) ∧ w = w' := by
  have Hs := Lib.hid hs
  obtain ⟨b, hb⟩ : ∃ b, decide (x ∈ xs) = b := ⟨_, rfl⟩
  have Hb := Lib.hid hb
  clear hs hb
  go_enter Try.func25, Try.ntmps25
  go_wp2_with fail
  refine (contains_any A n c xs x _ Hs.out hn).mono ?_
  rintro e _ ⟨rfl, rfl⟩
  rw [Hb.out]
  go_wp2_with fail
  go_ret
  exact ⟨ret_bool Hb.out.symm, rfl⟩
set_option maxRecDepth 100000 in
set_option maxHeartbeats 2000000 in
theorem Sees_any (own high : Int) (A : Option Addr) (n c : Nat) (xs : List Int) (x : Int) (w : World) (hs : Ints w.heap.size w A n xs) (hn : n ≤ 1000000) :
    Calls Try.prog 9 #[.agg #[.int .i64 own, .int .i64 high, .slice A n c], .int .i64 x] w fun e w' => e = .returned (.bool (sees own high xs x)) ∧ Below w.heap.size w w' := by
  have hb : Below w.heap.size w (w.alloc (.cells #[.int .i64 own, .int .i64 high, .slice A n c] 25)) := (Below.refl _ _).alloc (Nat.le_refl _) _
  have hb2 : Below w.heap.size w ((w.alloc (.cells #[.int .i64 own, .int .i64 high, .slice A n c] 25)).alloc (.cells #[.int .i64 own, .int .i64 high, .slice A n c] 25)) := hb.alloc (by simp) _
  have Hs := Lib.hid (hs.later hb2)
  have Hb := Lib.hid hb
  have Hb2 := Lib.hid hb2
  clear hs hb hb2
  by_cases h1 : x < 1
  · have HE := Lib.hid (sees_low (own := own) (high := high) (xs := xs) h1)
    go_enter Try.func9, Try.ntmps9
    go_wp2_with fail
    go_ret
    exact ⟨ret_bool HE.out.symm, Hb.out⟩
  · by_cases h2 : x = own
    · have HE := Lib.hid (sees_own (high := high) (xs := xs) h1 h2)
      have d : (x == own) = true := by rw [beq_iff_eq]; exact h2
      clear h2
      go_enter Try.func9, Try.ntmps9
      go_wp2_with fail
      refine (among_any own high A n c _).mono ?_
      rintro e _ ⟨rfl, rfl⟩
      go_wp2_with fail
      go_ret
      exact ⟨ret_bool HE.out.symm, Hb2.out⟩
    · have d : (x == own) = false := by rw [beq_eq_false_iff_ne]; exact h2
      by_cases h3 : x < high
      · have HE := Lib.hid (sees_has (xs := xs) h1 h2 h3)
        have dh : decide (x < high) = true := decide_eq_true h3
        clear h2
        go_enter Try.func9, Try.ntmps9
        go_wp2_with fail
        refine (among_any own high A n c _).mono ?_
        rintro e _ ⟨rfl, rfl⟩
        go_wp2_with fail
        refine (busy_any (w.heap.size + 1) A n c xs x _ (by simp [go_sem]) Hs.out hn).mono ?_
        rintro e _ ⟨rfl, rfl⟩
        generalize decide (x ∈ xs) = b at *
        go_wp2_with fail
        go_ret
        exact ⟨ret_bool HE.out.symm, Hb2.out⟩
      · have HE := Lib.hid (sees_high (xs := xs) h2 h3)
        have dh : decide (x < high) = false := decide_eq_false h3
        clear h2
        go_enter Try.func9, Try.ntmps9
        go_wp2_with fail
        refine (among_any own high A n c _).mono ?_
        rintro e _ ⟨rfl, rfl⟩
        go_wp2_with fail
        go_ret
        exact ⟨ret_bool HE.out.symm, Hb2.out⟩
def sameL (xs ys : List Int) : Bool := decide (xs = ys)
set_option maxRecDepth 100000 in
set_option maxHeartbeats 2000000 in
theorem equal_any (A A' : Option Addr) (n m c c' : Nat) (xs ys : List Int) (w : World) (hs : Ints w.heap.size w A n xs) (hu : Ints w.heap.size w A' m ys) (hn : n ≤ 1000000) (hm : m ≤ 1000000) :
    Calls Try.prog 18 #[.slice A n c, .slice A' m c'] w fun e w' => e = .returned (.bool (sameL xs ys)) ∧ ∃ d, w' = w.drewN d := by
  have Hs := Lib.hid hs
  have Hu := Lib.hid hu
  clear hs hu
  by_cases hnm : n = m
  · obtain rfl := hnm
    go_enter Try.func18, Try.ntmps18
    go_wp2
    go_loopw [13] (fun i wr => ∃ k : Nat, k ≤ n ∧ i = .int .i64 k ∧ (∀ j, j < k → xs.getD j 0 = ys.getD j 0) ∧ ∃ d, wr = w.drewN d) (fun i _ => n - (intOf i).toNat)
    case atStart => exact ⟨0, by omega, rfl, fun j hj => by omega, 0, rfl⟩
    case round =>
      obtain ⟨k, hk, rfl, hall, d, rfl⟩ := hrel
      have Hall := Lib.hid hall
      clear hall
      by_cases hlt : k < n
      · obtain ⟨g, off, rfl, hg, hc⟩ := Hs.out.2 (by omega)
        obtain ⟨g', off', rfl, hg', hc'⟩ := Hu.out.2 (by omega)
        have hck := hc k hlt
        have hck' := hc' k hlt
        obtain ⟨v, hv⟩ : ∃ v, xs.getD k 0 = v := ⟨_, rfl⟩
        obtain ⟨u, hu⟩ : ∃ u, ys.getD k 0 = u := ⟨_, rfl⟩
        rw [hv] at hck
        rw [hu] at hck'
        have Hv := Lib.hid hv
        have Hu2 := Lib.hid hu
        have hx1 := index_run g off n c k (k : Int) rfl hlt
        have hx2 := index_run g' off' n c' k (k : Int) rfl hlt
        clear hc hc' hv hu
        by_cases he : v = u
        · subst he
          have Hall2 : Hid (∀ j, j < k + 1 → xs.getD j 0 = ys.getD j 0) := fun j hj => by
            by_cases e : j = k
            · subst e; rw [Hv.out, Hu2.out]
            · exact Hall.out j (by omega)
          go_wp2
          go_quiet (fail)
          clear hck hck' hx1 hx2
          go_wp2
          go_roundw
          case rel => exact ⟨k + 1, by omega, by go_num, Hall2.out, d + nq, by first | rfl | simp⟩
          case measure => simp [intOf]; omega
        · have HR : Hid (sameL xs ys = false) := decide_eq_false (fun e => he (by rw [← Hv.out, ← Hu2.out, e]))
          have d1 : (v != u) = true := by rw [bne_iff_ne]; exact he
          clear he
          go_wp2
          go_quiet (fail)
          clear hck hck' hx1 hx2
          go_wp2
          go_ret
          exact ⟨ret_bool HR.out.symm, d + nq, by first | rfl | simp⟩
      · obtain rfl : k = n := by omega
        have HR : Hid (sameL xs ys = true) := decide_eq_true (list_eq (by rw [Hs.out.1, Hu.out.1]) (fun j hj => Hall.out j (by rw [Hs.out.1] at hj; exact hj)))
        go_wp2
        go_ret
        exact ⟨ret_bool HR.out.symm, d, rfl⟩
  · have HR : Hid (sameL xs ys = false) := decide_eq_false (fun e => hnm (by rw [← Hs.out.1, ← Hu.out.1, e]))
    have h1 : ((n : Int) != (m : Int)) = true := by rw [bne_iff_ne]; omega
    go_enter Try.func18, Try.ntmps18
    go_wp2
    go_ret
    exact ⟨ret_bool HR.out.symm, 0, rfl⟩
set_option maxRecDepth 100000 in
set_option maxHeartbeats 4000000 in
theorem Same_any (own high own' high' : Int) (A A' : Option Addr) (n m c c' : Nat) (xs ys : List Int) (w : World) (hs : Ints w.heap.size w A n xs) (hu : Ints w.heap.size w A' m ys) (hn : n ≤ 1000000) (hm : m ≤ 1000000) :
    Calls Try.prog 10 #[.agg #[.int .i64 own, .int .i64 high, .slice A n c], .agg #[.int .i64 own', .int .i64 high', .slice A' m c']] w fun e w' => e = .returned (.bool (sameV own high xs own' high' ys)) ∧ Below w.heap.size w w' := by
  have hb : Below w.heap.size w ((w.alloc (.cells #[.int .i64 own, .int .i64 high, .slice A n c] 25)).alloc (.cells #[.int .i64 own', .int .i64 high', .slice A' m c'] 25)) := ((Below.refl _ _).alloc (Nat.le_refl _) _).alloc (by simp) _
  have Hs := Lib.hid (hs.later hb)
  have Hu := Lib.hid (hu.later hb)
  have Hb := Lib.hid hb
  clear hs hu hb
  have z0 : w.heap.size < w.heap.size + 1 := by omega
  have z1 : ¬ w.heap.size = w.heap.size + 1 := by omega
  by_cases ho : own = own'
  case neg =>
    have d : (own == own') = false := by rw [beq_eq_false_iff_ne]; exact ho
    have HR := Lib.hid (same_own (high := high) (high' := high') (xs := xs) (ys := ys) ho)
    clear ho
    go_enter Try.func10, Try.ntmps10
    go_wp2
    go_ret
    exact ⟨ret_bool HR.out.symm, Hb.out⟩
  by_cases hh : high = high'
  case neg =>
    have d : (own == own') = true := by rw [beq_iff_eq]; exact ho
    have d2 : (high == high') = false := by rw [beq_eq_false_iff_ne]; exact hh
    have HR := Lib.hid (same_high (own := own) (own' := own') (xs := xs) (ys := ys) hh)
    clear ho hh
    go_enter Try.func10, Try.ntmps10
    go_wp2
    go_ret
    exact ⟨ret_bool HR.out.symm, Hb.out⟩
  subst ho hh
  have HR : Hid (sameV own high xs own high ys = sameL xs ys) := by
    show _ = _; unfold sameV sameL; rw [decide_eq_decide]; exact ⟨fun e => e.2.2, fun e => ⟨rfl, rfl, e⟩⟩
  go_enter Try.func10, Try.ntmps10
  go_wp2_with fail
  refine (equal_any A A' n m c c' xs ys _ Hs.out Hu.out hn hm).mono ?_
  rintro e w2 ⟨rfl, d, hd⟩
  have Hb2 := Lib.hid (stepB Hb.out (belowD hd))
  clear hd
  generalize sameL xs ys = b at *
  go_wp2_with fail
  go_ret
  exact ⟨ret_bool HR.out.symm, Hb2.out⟩
end Go.Proofs.Ythicofdbcldpaaa
