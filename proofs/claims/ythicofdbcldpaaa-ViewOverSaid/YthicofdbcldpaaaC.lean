/- Whether two views are the same, and the least writer that one does not see: by the words, and by the program. -/
import Derived.Test.YthicofdbcldpaaaB
namespace Go.Proofs.Ythicofdbcldpaaa
open Go.ChangeShapes Go.WideShapes Go.ChangeAt Go.RowKit
set_option linter.unusedVariables false
def sameV (own high : Int) (xs : List Int) (own' high' : Int) (ys : List Int) : Bool := decide (own = own' ∧ high = high' ∧ xs = ys)
theorem same_own {own high own' high' : Int} {xs ys : List Int} (h : ¬ own = own') : sameV own high xs own' high' ys = false := decide_eq_false (fun e => h e.1)
theorem same_high {own high own' high' : Int} {xs ys : List Int} (h : ¬ high = high') : sameV own high xs own' high' ys = false := decide_eq_false (fun e => h e.2.1)
theorem same_list {own high own' high' : Int} {xs ys : List Int} (h : ¬ xs = ys) : sameV own high xs own' high' ys = false := decide_eq_false (fun e => h e.2.2)
theorem same_yes {own high : Int} {xs : List Int} : sameV own high xs own high xs = true := decide_eq_true ⟨rfl, rfl, rfl⟩
theorem list_eq {xs ys : List Int} (hl : xs.length = ys.length) (h : ∀ j, j < xs.length → xs.getD j 0 = ys.getD j 0) : xs = ys := by
  apply List.ext_getElem hl
  intro i h1 h2
  have := h i h1
  rwa [List.getD_eq_getElem?_getD, List.getD_eq_getElem?_getD, List.getElem?_eq_getElem h1, List.getElem?_eq_getElem h2] at this
/-- two boxed views -/
def two (w : World) (own high own' high' : Int) (A A' : Option Addr) (n m c c' : Nat) : World := (w.alloc (.cells #[.int .i64 own, .int .i64 high, .slice A n c] 31)).alloc (.cells #[.int .i64 own', .int .i64 high', .slice A' m c'] 31)
set_option maxRecDepth 100000 in
set_option maxHeartbeats 4000000 in
theorem rSame_any (own high own' high' : Int) (A A' : Option Addr) (n m c c' : Nat) (xs ys : List Int) (w : World) (hs : Ints w.heap.size w A n xs) (hu : Ints w.heap.size w A' m ys) (hn : n ≤ 1000000) (hm : m ≤ 1000000) :
    Calls Try.prog 14 #[.agg #[.int .i64 own, .int .i64 high, .slice A n c], .agg #[.int .i64 own', .int .i64 high', .slice A' m c']] w fun e w' => e = .returned (.bool (sameV own high xs own' high' ys)) ∧ Below w.heap.size w w' := by
  have hb : Below w.heap.size w (two w own high own' high' A A' n m c c') := ((Below.refl _ _).alloc (Nat.le_refl _) _).alloc (by simp) _
  have Hs := Lib.hid (hs.below hb)
  have Hu := Lib.hid (hu.below hb)
  unfold two at Hs Hu hb
  have Hb := Lib.hid hb
  clear hs hu hb
  by_cases ho : own = own'
  case neg =>
    have d : (own != own') = true := by rw [bne_iff_ne]; exact ho
    have HR := Lib.hid (same_own (high := high) (high' := high') (xs := xs) (ys := ys) ho)
    clear ho
    go_enter Try.func14, Try.ntmps14
    go_wp2
    go_ret
    exact ⟨ret_bool HR.out.symm, Hb.out⟩
  by_cases hh : high = high'
  case neg =>
    have d : (own != own') = false := by rw [bne_eq_false_iff_eq]; exact ho
    have d2 : (high != high') = true := by rw [bne_iff_ne]; exact hh
    have HR := Lib.hid (same_high (own := own) (own' := own') (xs := xs) (ys := ys) hh)
    clear ho hh
    go_enter Try.func14, Try.ntmps14
    go_wp2
    go_ret
    exact ⟨ret_bool HR.out.symm, Hb.out⟩
  subst ho hh
  by_cases hnm : n = m
  case neg =>
    have d3 : ((n : Int) != (m : Int)) = true := by rw [bne_iff_ne]; omega
    have HR := Lib.hid (same_list (own := own) (own' := own) (high := high) (high' := high) (xs := xs) (ys := ys) (fun e => hnm (by rw [← Hs.out.1, ← Hu.out.1, e])))
    clear hnm
    go_enter Try.func14, Try.ntmps14
    go_wp2
    go_ret
    exact ⟨ret_bool HR.out.symm, Hb.out⟩
  obtain rfl := hnm
  have z0 : w.heap.size < w.heap.size + 1 := by omega
  have z1 : ¬ w.heap.size = w.heap.size + 1 := by omega
  have z2 : ¬ w.heap.size + 1 = w.heap.size := by omega
  go_enter Try.func14, Try.ntmps14
  go_wp2
  go_loopw [5] (fun i wr => ∃ k : Nat, k ≤ n ∧ i = .int .i64 k ∧ (∀ j, j < k → xs.getD j 0 = ys.getD j 0) ∧ ∃ d, wr = ((w.alloc (.cells #[.int .i64 own, .int .i64 high, .slice A n c] 31)).alloc (.cells #[.int .i64 own, .int .i64 high, .slice A' n c'] 31)).drewN d) (fun i _ => n - (intOf i).toNat)
  case atStart => exact ⟨0, by omega, rfl, fun j hj => by omega, 0, rfl⟩
  case round =>
    obtain ⟨k, hk, rfl, hall, d, rfl⟩ := hrel
    have Hall := Lib.hid hall
    clear hall
    by_cases hlt : k < n
    · obtain ⟨g, off, rfl, hg, hc⟩ := Hs.out.2 (by omega)
      obtain ⟨g', off', rfl, hg', hc'⟩ := Hu.out.2 (by omega)
      have hck := hc k hlt
      have hck' := hc' k hlt
      obtain ⟨v, hv⟩ : ∃ v, xs.getD k 0 = v := ⟨_, rfl⟩
      obtain ⟨u, hu⟩ : ∃ u, ys.getD k 0 = u := ⟨_, rfl⟩
      rw [hv] at hck
      rw [hu] at hck'
      have Hv := Lib.hid hv
      have Hu2 := Lib.hid hu
      have hx1 := index_run g off n c k (k : Int) rfl hlt
      have hx2 := index_run g' off' n c' k (k : Int) rfl hlt
      clear hc hc' hv hu
      by_cases he : v = u
      · subst he
        have Hall2 : Hid (∀ j, j < k + 1 → xs.getD j 0 = ys.getD j 0) := fun j hj => by
          by_cases e : j = k
          · subst e; rw [Hv.out, Hu2.out]
          · exact Hall.out j (by omega)
        go_wp2
        go_quiet (fail)
        clear hck hck' hx1 hx2
        go_wp2
        go_roundw
        case rel => exact ⟨k + 1, by omega, by go_num, Hall2.out, d + nq, by first | rfl | simp⟩
        case measure => simp [intOf]; omega
      · have HR := Lib.hid (same_list (own := own) (own' := own) (high := high) (high' := high) (xs := xs) (ys := ys) (fun e => he (by rw [← Hv.out, ← Hu2.out, e])))
        have d1 : (v != u) = true := by rw [bne_iff_ne]; exact he
        clear he
        go_wp2
        go_quiet (fail)
        clear hck hck' hx1 hx2
        have Hb2 := Lib.hid (below_drewN Hb.out (d + nq))
        go_wp2
        go_ret
        exact ⟨ret_bool HR.out.symm, by first | exact Hb2.out | (simpa using Hb2.out)⟩
    · obtain rfl : k = n := by omega
      have HR : Hid (sameV own high xs own high ys = true) := by
        have : xs = ys := list_eq (by rw [Hs.out.1, Hu.out.1]) (fun j hj => Hall.out j (by rw [Hs.out.1] at hj; exact hj))
        rw [this]; exact same_yes
      have Hb2 := Lib.hid (below_drewN Hb.out d)
      go_wp2
      go_ret
      exact ⟨ret_bool HR.out.symm, Hb2.out⟩
end Go.Proofs.Ythicofdbcldpaaa
