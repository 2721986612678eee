/- Which lists may be; whether there is a clash. -/
import Derived.Test.YteelhldioaaffaaB
namespace Go.Proofs.Yteelhldioaaffaa
open Go.ChangeShapes Go.WideShapes Go.ChangeAt Go.RowKit
set_option linter.unusedVariables false
theorem boxed4 (w : World) (v : Ver) (T : TypeId) : VerAt (w.alloc (.cells #[.int .i64 v.w, .int .i64 v.ts, .bool v.tomb, .string v.val] T)) w.heap.size 0 v := by
  have h : ∀ j, (w.alloc (.cells #[.int .i64 v.w, .int .i64 v.ts, .bool v.tomb, .string v.val] T)).cell? ⟨w.heap.size, j, none⟩ = (#[.int .i64 v.w, .int .i64 v.ts, .bool v.tomb, .string v.val] : Array Value)[j]? := fun j => by
    unfold World.cell?
    rw [heap_alloc_new w _]
    rfl
  exact ⟨h 0, h 1, h 2, h 3⟩
set_option maxRecDepth 100000 in
set_option maxHeartbeats 2000000 in
theorem legal_any (A : Option Addr) (n c : Nat) (vs : List Ver) (w : World) (hs : Vers w.heap.size w A n vs) (hn : n ≤ 1000000) :
    Calls Try.prog 10 #[.slice A n c] w fun e w' => e = .returned (.bool (legalB vs)) ∧ Below w.heap.size w w' := by
  have Hs := Lib.hid hs
  clear hs
  go_enter Try.func10, Try.ntmps10
  go_wp2
  go_loopw [7] (fun i wr => ∃ k : Nat, k ≤ n ∧ i = .int .i64 k ∧ (∀ j, j < k → 1 ≤ (vs.getD j ver0).ts ∧ (0 < j → (vs.getD j ver0).ts < (vs.getD (j - 1) ver0).ts)) ∧ Below w.heap.size w wr) (fun i _ => n - (intOf i).toNat)
  case atStart => exact ⟨0, by omega, rfl, fun j hj => by omega, Below.refl _ _⟩
  case round =>
    obtain ⟨k, hk, rfl, hall, hb⟩ := hrel
    have Hall := Lib.hid hall
    have Hb := Lib.hid hb
    clear hall hb
    by_cases hlt : k < n
    · obtain ⟨g, off, rfl, hg, hc⟩ := (Hs.out.below Hb.out).2 (by omega)
      have hck := hc k hlt
      have Hl := Lib.hid Hs.out.1
      obtain ⟨v, hv⟩ : ∃ v, vs.getD k ver0 = v := ⟨_, rfl⟩
      rw [hv] at hck
      have Hv := Lib.hid hv
      obtain ⟨a0, a1, a2, a3⟩ := hck
      have hx1 := index_run g off n c k (k : Int) rfl hlt
      have bx := boxed4 wr v 27
      have bx1 := bx.c1
      clear bx
      by_cases h1 : v.ts < 1
      · have d1 : decide (v.ts < 1) = true := decide_eq_true h1
        have HR : Hid (legalB vs = false) := legal_no (fun h => by have := (h k (by have := Hl.out; omega)).1; rw [Hv.out] at this; omega)
        clear hc hv
        go_wp2
        go_quiet (fail)
        have Hb2 : Hid (Below w.heap.size w ((wr.alloc (.cells #[.int .i64 v.w, .int .i64 v.ts, .bool v.tomb, .string v.val] 27)).drewN nq)) := below_drewN (Hb.out.alloc Hb.out.size _) _
        go_wp2
        go_ret
        exact ⟨ret_bool HR.out.symm, Hb2.out⟩
      · have d1 : decide (v.ts < 1) = false := decide_eq_false h1
        by_cases hk0 : k = 0
        · have dk : decide ((0 : Int) < (k : Int)) = false := decide_eq_false (by omega)
          have dkn : decide (0 < k) = false := decide_eq_false (by omega)
          have Hk0 := Lib.hid hk0
          clear hk0
          have Hall2 : Hid (∀ j, j < k + 1 → 1 ≤ (vs.getD j ver0).ts ∧ (0 < j → (vs.getD j ver0).ts < (vs.getD (j - 1) ver0).ts)) := fun j hj => by
            have hj0 : j = 0 := by have := Hk0.out; omega
            have hjk : j = k := by rw [hj0, Hk0.out]
            exact ⟨by rw [hjk, Hv.out]; omega, fun h => by omega⟩
          clear hc hv h1
          go_wp2
          go_quiet (fail)
          have Hb2 : Hid (Below w.heap.size w ((wr.alloc (.cells #[.int .i64 v.w, .int .i64 v.ts, .bool v.tomb, .string v.val] 27)).drewN nq)) := below_drewN (Hb.out.alloc Hb.out.size _) _
          go_wp2
          go_roundw
          case rel => exact ⟨k + 1, by omega, by go_num, Hall2.out, Hb2.out⟩
          case measure => simp [intOf]; omega
        · obtain ⟨m, rfl⟩ : ∃ m, k = m + 1 := ⟨k - 1, by omega⟩
          have hcm := hc m (by omega)
          obtain ⟨u, hu⟩ : ∃ u, vs.getD m ver0 = u := ⟨_, rfl⟩
          rw [hu] at hcm
          have Hu := Lib.hid hu
          have u1 := (hcm.below ((Below.refl wr.heap.size wr).alloc (Nat.le_refl _) (.cells #[.int .i64 v.w, .int .i64 v.ts, .bool v.tomb, .string v.val] 27)) (Nat.lt_of_lt_of_le hg Hb.out.size)).c1
          have hw1 : IntKind.i64.wrap (((m + 1 : Nat) : Int) - 1) = (m : Int) := (IntWalk.i64_in _ (by omega)).trans (by omega)
          have hw2 : IntKind.i64.wrap ((m : Int) + 1 - 1) = (m : Int) := (IntWalk.i64_in _ (by omega)).trans (by omega)
          have hw3 : IntKind.i64.wrap (m : Int) = (m : Int) := IntWalk.i64_in _ (by omega)
          have hx2 := index_run g off n c m (m : Int) rfl (by omega)
          have dk : decide ((0 : Int) < ((m + 1 : Nat) : Int)) = true := decide_eq_true (by omega)
          have dk2 : decide ((0 : Int) < (m : Int) + 1) = true := decide_eq_true (by omega)
          by_cases h2 : v.ts < u.ts
          · have d2 : decide (u.ts ≤ v.ts) = false := decide_eq_false (by omega)
            have Hall2 : Hid (∀ j, j < m + 1 + 1 → 1 ≤ (vs.getD j ver0).ts ∧ (0 < j → (vs.getD j ver0).ts < (vs.getD (j - 1) ver0).ts)) := fun j hj => by
              by_cases e : j = m + 1
              · subst e; exact ⟨by rw [Hv.out]; omega, fun h => by rw [Hv.out, show m + 1 - 1 = m from rfl, Hu.out]; exact h2⟩
              · exact Hall.out j (by omega)
            clear hc hv hu hcm h1 h2
            go_wp2
            go_quiet (fail)
            have Hb2 : Hid (Below w.heap.size w ((wr.alloc (.cells #[.int .i64 v.w, .int .i64 v.ts, .bool v.tomb, .string v.val] 27)).drewN nq)) := below_drewN (Hb.out.alloc Hb.out.size _) _
            go_wp2
            go_roundw
            case rel => exact ⟨m + 1 + 1, by omega, by go_num, Hall2.out, Hb2.out⟩
            case measure => simp [intOf]; omega
          · have d2 : decide (u.ts ≤ v.ts) = true := decide_eq_true (by omega)
            have HR : Hid (legalB vs = false) := legal_no (fun h => by
              have := (h (m + 1) (by have := Hl.out; omega)).2 (by omega)
              rw [Hv.out, show m + 1 - 1 = m from rfl, Hu.out] at this; omega)
            clear hc hv hu hcm h1 h2
            go_wp2
            go_quiet (fail)
            have Hb2 : Hid (Below w.heap.size w ((wr.alloc (.cells #[.int .i64 v.w, .int .i64 v.ts, .bool v.tomb, .string v.val] 27)).drewN nq)) := below_drewN (Hb.out.alloc Hb.out.size _) _
            go_wp2
            go_ret
            exact ⟨ret_bool HR.out.symm, Hb2.out⟩
    · obtain rfl : k = n := by omega
      have HR : Hid (legalB vs = true) := legal_yes (fun j hj => Hall.out j (by have := Hs.out.1; omega))
      go_wp2
      go_ret
      exact ⟨ret_bool HR.out.symm, Hb.out⟩
set_option maxRecDepth 100000 in
set_option maxHeartbeats 2000000 in
theorem rlegal_any (A : Option Addr) (n c : Nat) (vs : List Ver) (w : World) (hs : Vers w.heap.size w A n vs) (hn : n ≤ 1000000) :
    Calls Try.prog 20 #[.slice A n c] w fun e w' => e = .returned (.bool (legalB vs)) ∧ Below w.heap.size w w' := by
  have Hs := Lib.hid hs
  clear hs
  go_enter Try.func20, Try.ntmps20
  go_wp2
  go_loopw [3] (fun i wr => ∃ k : Nat, k ≤ n ∧ i = .int .i64 k ∧ (∀ j, j < k → 1 ≤ (vs.getD j ver0).ts ∧ (0 < j → (vs.getD j ver0).ts < (vs.getD (j - 1) ver0).ts)) ∧ Below w.heap.size w wr) (fun i _ => n - (intOf i).toNat)
  case atStart => exact ⟨0, by omega, rfl, fun j hj => by omega, Below.refl _ _⟩
  case round =>
    obtain ⟨k, hk, rfl, hall, hb⟩ := hrel
    have Hall := Lib.hid hall
    have Hb := Lib.hid hb
    clear hall hb
    by_cases hlt : k < n
    · obtain ⟨g, off, rfl, hg, hc⟩ := (Hs.out.below Hb.out).2 (by omega)
      have hck := hc k hlt
      have Hl := Lib.hid Hs.out.1
      obtain ⟨v, hv⟩ : ∃ v, vs.getD k ver0 = v := ⟨_, rfl⟩
      rw [hv] at hck
      have Hv := Lib.hid hv
      obtain ⟨a0, a1, a2, a3⟩ := hck
      have hx1 := index_run g off n c k (k : Int) rfl hlt



      by_cases h1 : v.ts < 1
      · have d1 : decide (v.ts < 1) = true := decide_eq_true h1
        have HR : Hid (legalB vs = false) := legal_no (fun h => by have := (h k (by have := Hl.out; omega)).1; rw [Hv.out] at this; omega)
        clear hc hv
        go_wp2
        go_quiet (fail)
        have Hb2 : Hid (Below w.heap.size w ((wr).drewN nq)) := below_drewN Hb.out _
        go_wp2
        go_ret
        exact ⟨ret_bool HR.out.symm, Hb2.out⟩
      · have d1 : decide (v.ts < 1) = false := decide_eq_false h1
        by_cases hk0 : k = 0
        · have dk : decide ((0 : Int) < (k : Int)) = false := decide_eq_false (by omega)
          have dkn : decide (0 < k) = false := decide_eq_false (by omega)
          have Hk0 := Lib.hid hk0
          clear hk0
          have Hall2 : Hid (∀ j, j < k + 1 → 1 ≤ (vs.getD j ver0).ts ∧ (0 < j → (vs.getD j ver0).ts < (vs.getD (j - 1) ver0).ts)) := fun j hj => by
            have hj0 : j = 0 := by have := Hk0.out; omega
            have hjk : j = k := by rw [hj0, Hk0.out]
            exact ⟨by rw [hjk, Hv.out]; omega, fun h => by omega⟩
          clear hc hv h1
          go_wp2
          go_quiet (fail)
          have Hb2 : Hid (Below w.heap.size w ((wr).drewN nq)) := below_drewN Hb.out _
          go_wp2
          go_roundw
          case rel => exact ⟨k + 1, by omega, by go_num, Hall2.out, Hb2.out⟩
          case measure => simp [intOf]; omega
        · obtain ⟨m, rfl⟩ : ∃ m, k = m + 1 := ⟨k - 1, by omega⟩
          have hcm := hc m (by omega)
          obtain ⟨u, hu⟩ : ∃ u, vs.getD m ver0 = u := ⟨_, rfl⟩
          rw [hu] at hcm
          have Hu := Lib.hid hu
          have u1 := (hcm.below (Below.refl wr.heap.size wr) (Nat.lt_of_lt_of_le hg Hb.out.size)).c1
          have hw1 : IntKind.i64.wrap (((m + 1 : Nat) : Int) - 1) = (m : Int) := (IntWalk.i64_in _ (by omega)).trans (by omega)
          have hw2 : IntKind.i64.wrap ((m : Int) + 1 - 1) = (m : Int) := (IntWalk.i64_in _ (by omega)).trans (by omega)
          have hw3 : IntKind.i64.wrap (m : Int) = (m : Int) := IntWalk.i64_in _ (by omega)
          have hx2 := index_run g off n c m (m : Int) rfl (by omega)
          have dk : decide ((0 : Int) < ((m + 1 : Nat) : Int)) = true := decide_eq_true (by omega)
          have dk2 : decide ((0 : Int) < (m : Int) + 1) = true := decide_eq_true (by omega)
          by_cases h2 : v.ts < u.ts
          · have d2 : decide (u.ts ≤ v.ts) = false := decide_eq_false (by omega)
            have Hall2 : Hid (∀ j, j < m + 1 + 1 → 1 ≤ (vs.getD j ver0).ts ∧ (0 < j → (vs.getD j ver0).ts < (vs.getD (j - 1) ver0).ts)) := fun j hj => by
              by_cases e : j = m + 1
              · subst e; exact ⟨by rw [Hv.out]; omega, fun h => by rw [Hv.out, show m + 1 - 1 = m from rfl, Hu.out]; exact h2⟩
              · exact Hall.out j (by omega)
            clear hc hv hu hcm h1 h2
            go_wp2
            go_quiet (fail)
            have Hb2 : Hid (Below w.heap.size w ((wr).drewN nq)) := below_drewN Hb.out _
            go_wp2
            go_roundw
            case rel => exact ⟨m + 1 + 1, by omega, by go_num, Hall2.out, Hb2.out⟩
            case measure => simp [intOf]; omega
          · have d2 : decide (u.ts ≤ v.ts) = true := decide_eq_true (by omega)
            have HR : Hid (legalB vs = false) := legal_no (fun h => by
              have := (h (m + 1) (by have := Hl.out; omega)).2 (by omega)
              rw [Hv.out, show m + 1 - 1 = m from rfl, Hu.out] at this; omega)
            clear hc hv hu hcm h1 h2
            go_wp2
            go_quiet (fail)
            have Hb2 : Hid (Below w.heap.size w ((wr).drewN nq)) := below_drewN Hb.out _
            go_wp2
            go_ret
            exact ⟨ret_bool HR.out.symm, Hb2.out⟩
    · obtain rfl : k = n := by omega
      have HR : Hid (legalB vs = true) := legal_yes (fun j hj => Hall.out j (by have := Hs.out.1; omega))
      go_wp2
      go_ret
      exact ⟨ret_bool HR.out.symm, Hb.out⟩
set_option maxHeartbeats 1000000 in
theorem clash_any (A : Option Addr) (n c : Nat) (vs : List Ver) (s : Int) (w : World) (hs : Vers w.heap.size w A n vs) (hn : n ≤ 1000000) :
    Calls Try.prog 14 #[.slice A n c, .int .i64 s] w fun e w' => e = .returned (.bool (clashB vs s)) ∧ w = w' := by
  have Hs := Lib.hid hs
  clear hs
  by_cases h0 : 0 < n
  · obtain ⟨g, off, rfl, hg, hc⟩ := Hs.out.2 h0
    have c1 : w.cell? ⟨g, off + 1, none⟩ = some (.int .i64 (vs.getD 0 ver0).ts) := by have := (hc 0 h0).c1; rwa [Nat.zero_mul, Nat.add_zero] at this
    have dn : decide ((0 : Int) < (n : Int)) = true := decide_eq_true (by omega)
    have dnn : decide (0 < n) = true := decide_eq_true (by omega)
    have HE : Hid (clashB vs s = decide (s < (vs.getD 0 ver0).ts)) := by
      show _ = _; unfold clashB; rw [Hs.out.1, decide_eq_decide]; omega
    obtain ⟨t, ht⟩ : ∃ t, (vs.getD 0 ver0).ts = t := ⟨_, rfl⟩
    rw [ht] at c1 HE
    clear hc ht
    go_enter Try.func14, Try.ntmps14
    go_wp2
    trace_state
    go_ret
    exact ⟨by rw [HE.out]; rfl, rfl⟩
  · have dn : decide ((0 : Int) < (n : Int)) = false := decide_eq_false (by omega)
    have dnn : decide (0 < n) = false := decide_eq_false (by omega)
    have HE : Hid (clashB vs s = false) := by
      show _ = _; unfold clashB; rw [Hs.out.1]; exact decide_eq_false (fun h => h0 h.1)
    clear h0
    go_enter Try.func14, Try.ntmps14
    go_wp2
    go_ret
    exact ⟨ret_bool HE.out.symm, rfl⟩
set_option maxHeartbeats 1000000 in
theorem rclash_any (A : Option Addr) (n c : Nat) (vs : List Ver) (s : Int) (w : World) (hs : Vers w.heap.size w A n vs) (hn : n ≤ 1000000) :
    Calls Try.prog 21 #[.slice A n c, .int .i64 s] w fun e w' => e = .returned (.bool (clashB vs s)) ∧ w = w' := by
  have Hs := Lib.hid hs
  clear hs
  by_cases h0 : 0 < n
  · obtain ⟨g, off, rfl, hg, hc⟩ := Hs.out.2 h0
    have c1 : w.cell? ⟨g, off + 1, none⟩ = some (.int .i64 (vs.getD 0 ver0).ts) := by have := (hc 0 h0).c1; rwa [Nat.zero_mul, Nat.add_zero] at this
    have dn : decide ((0 : Int) < (n : Int)) = true := decide_eq_true (by omega)
    have dnn : decide (0 < n) = true := decide_eq_true (by omega)
    have HE : Hid (clashB vs s = decide (s < (vs.getD 0 ver0).ts)) := by
      show _ = _; unfold clashB; rw [Hs.out.1, decide_eq_decide]; omega
    obtain ⟨t, ht⟩ : ∃ t, (vs.getD 0 ver0).ts = t := ⟨_, rfl⟩
    rw [ht] at c1 HE
    clear hc ht
    go_enter Try.func21, Try.ntmps21
    go_wp2
    trace_state
    go_ret
    exact ⟨by rw [HE.out]; rfl, rfl⟩
  · have dn : decide ((0 : Int) < (n : Int)) = false := decide_eq_false (by omega)
    have dnn : decide (0 < n) = false := decide_eq_false (by omega)
    have HE : Hid (clashB vs s = false) := by
      show _ = _; unfold clashB; rw [Hs.out.1]; exact decide_eq_false (fun h => h0 h.1)
    clear h0
    go_enter Try.func21, Try.ntmps21
    go_wp2
    go_ret
    exact ⟨ret_bool HE.out.symm, rfl⟩
end Go.Proofs.Yteelhldioaaffaa
