/- How places stand. -/
import Derived.Test.YtgbcncfgpdlmiaaG
namespace Go.Proofs.Ytgbcncfgpdlmiaa
open Go.ChangeShapes Go.WideShapes Go.ChangeAt Go.RowKit Go.Maps
set_option linter.unusedVariables false
set_option linter.unusedSimpArgs false

def cmpI (a b : Int) : Int := if a < b then -1 else if b < a then 1 else 0
abbrev Pl := Int × Int
def cmpP (a b : Pl) : Int := if cmpI a.1 b.1 ≠ 0 then cmpI a.1 b.1 else cmpI a.2 b.2
def plc (p : Pl) : List Value := [.int .i64 p.1, .int .i64 p.2]
theorem plc_len (p : Pl) : (plc p).length = 2 := rfl
set_option maxRecDepth 100000 in
set_option maxHeartbeats 4000000 in
theorem nan_any (a : Int) (w : World) : Calls Try.prog 68 #[.int .i64 a] w fun e w' => e = .returned (.bool false) ∧ w = w' := by
  have d : (a != a) = false := by simp
  go_enter Try.func68, Try.ntmps68
  go_wp2
  go_ret
  exact ⟨rfl, rfl⟩
set_option maxRecDepth 100000 in
set_option maxHeartbeats 4000000 in
theorem cmp_any (a b : Int) (w : World) : Calls Try.prog 55 #[.int .i64 a, .int .i64 b] w fun e w' => e = .returned (.int .i64 (cmpI a b)) ∧ w = w' := by
  unfold cmpI
  by_cases h1 : a < b
  · rw [if_pos h1]
    have d1 : decide (a < b) = true := decide_eq_true h1
    clear h1
    go_enter Try.func55, Try.ntmps55
    go_wp2_with fail
    refine (nan_any a w).mono ?_
    rintro e w1 ⟨rfl, rfl⟩
    go_wp2_with fail
    refine (nan_any b w).mono ?_
    rintro e w1 ⟨rfl, rfl⟩
    go_wp2
    go_ret
    exact ⟨rfl, rfl⟩
  · rw [if_neg h1]
    have d1 : decide (a < b) = false := decide_eq_false h1
    by_cases h2 : b < a
    · rw [if_pos h2]
      have d2 : decide (b < a) = true := decide_eq_true h2
      clear h1 h2
      go_enter Try.func55, Try.ntmps55
      go_wp2_with fail
      refine (nan_any a w).mono ?_
      rintro e w1 ⟨rfl, rfl⟩
      go_wp2_with fail
      refine (nan_any b w).mono ?_
      rintro e w1 ⟨rfl, rfl⟩
      go_wp2
      go_ret
      exact ⟨rfl, rfl⟩
    · rw [if_neg h2]
      have d2 : decide (b < a) = false := decide_eq_false h2
      clear h1 h2
      go_enter Try.func55, Try.ntmps55
      go_wp2_with fail
      refine (nan_any a w).mono ?_
      rintro e w1 ⟨rfl, rfl⟩
      go_wp2_with fail
      refine (nan_any b w).mono ?_
      rintro e w1 ⟨rfl, rfl⟩
      go_wp2
      go_ret
      exact ⟨rfl, rfl⟩
theorem idx35 (g m c k : Nat) (i : Int) (hi : i = (k : Int)) (h : k < m) (W : World) : (Instr.indexAt 35 (.slice (some ⟨g, 0, none⟩) m c) (.int .i64 i)).run Try.prog W = .ok (.pointer (some ⟨g, k, none⟩)) W := by
  subst hi
  have h1 : (0 : Int) ≤ (k : Int) ∧ (k : Int) < (m : Int) := by omega
  go_simp
set_option maxRecDepth 100000 in
set_option maxHeartbeats 4000000 in
theorem or_any (g c : Nat) (x y : Int) (w : World) (h0 : w.cell? ⟨g, 0, none⟩ = some (.int .i64 x)) (h1 : w.cell? ⟨g, 1, none⟩ = some (.int .i64 y)) : Calls Try.prog 54 #[.slice (some ⟨g, 0, none⟩) 2 c] w fun e w' => e = .returned (.int .i64 (if x ≠ 0 then x else y)) ∧ w = w' := by
  have i0 := idx35 g 2 c 0 0 rfl (by decide)
  have i1 := idx35 g 2 c 1 1 rfl (by decide)
  have d0 : decide ((0 : Int) < 2) = true := rfl
  have d1 : decide ((1 : Int) < 2) = true := rfl
  have d2 : decide ((2 : Int) < 2) = false := rfl
  have HV : Hid (∀ k : Nat, k ≤ 2 → (k = 0 ∨ x = 0) → (k = 0 ∨ k = 1 ∨ y = 0) → True) := fun _ _ _ _ => trivial
  obtain ⟨r, hr⟩ : ∃ r, (if x ≠ 0 then x else y) = r := ⟨_, rfl⟩
  rw [hr]
  have HR := Lib.hid hr
  clear hr HV
  go_enter Try.func54, Try.ntmps54
  go_wp2
  go_loop [5, 8] (fun v i => ∃ k : Nat, k ≤ 2 ∧ i = .int .i64 k ∧ (0 < k → x = 0) ∧ (1 < k → y = 0)) (fun _ i => 2 - (intOf i).toNat)
  case atStart => exact ⟨0, by decide, rfl, fun h => absurd h (by decide), fun h => absurd h (by decide)⟩
  case round =>
    obtain ⟨k, hk, rfl, hx, hy⟩ := hrel
    have HX := Lib.hid hx
    have HY := Lib.hid hy
    clear hx hy
    have hc : k = 0 ∨ k = 1 ∨ k = 2 := by omega
    rcases hc with rfl | rfl | rfl
    · by_cases hz : x = 0
      · have q1 : (x != 0) = false := by simp [hz]
        have HZ := Lib.hid hz
        clear hz
        go_wp2
        go_round
        case rel => exact ⟨1, by decide, by go_num, fun _ => HZ.out, fun h => absurd h (by decide)⟩
        case measure => simp [intOf]
      · have q1 : (x != 0) = true := by simp [hz]
        have HZ := Lib.hid hz
        clear hz
        go_wp2
        go_ret
        exact ⟨by rw [← HR.out, if_pos HZ.out]; rfl, rfl⟩
    · by_cases hz : y = 0
      · have q1 : (y != 0) = false := by simp [hz]
        have HZ := Lib.hid hz
        clear hz
        go_wp2
        go_round
        case rel => exact ⟨2, by decide, by go_num, fun _ => HX.out (by decide), fun _ => HZ.out⟩
        case measure => simp [intOf]
      · have q1 : (y != 0) = true := by simp [hz]
        have HZ := Lib.hid hz
        clear hz
        go_wp2
        go_ret
        exact ⟨by rw [← HR.out, if_neg (by rw [HX.out (by decide)]; decide)]; rfl, rfl⟩
    · go_wp2
      go_ret
      exact ⟨by rw [← HR.out, if_neg (by rw [HX.out (by decide)]; decide), HY.out (by decide)]; rfl, rfl⟩
abbrev S4P (w2 : World) (g : Nat) (a1 a2 b1 b2 : Int) (W : World) : Prop := Below w2.heap.size w2 W ∧ W.cell? ⟨g, 0, none⟩ = some (.int .i64 a1) ∧ W.cell? ⟨g, 1, none⟩ = some (.int .i64 a2) ∧ W.cell? ⟨g + 1, 0, none⟩ = some (.int .i64 b1) ∧ W.cell? ⟨g + 1, 1, none⟩ = some (.int .i64 b2)
set_option maxRecDepth 100000 in
set_option maxHeartbeats 4000000 in
theorem compare_any (a b : Pl) (w : World) : Calls Try.prog 42 #[.agg #[.int .i64 a.1, .int .i64 a.2], .agg #[.int .i64 b.1, .int .i64 b.2]] w fun e w' => e = .returned (.int .i64 (cmpP a b)) ∧ Below w.heap.size w w' := by
  obtain ⟨a1, a2⟩ := a
  obtain ⟨b1, b2⟩ := b
  unfold cmpP
  simp only
  have HBA : Hid (Blk ((w.alloc (.cells #[.int .i64 a1, .int .i64 a2] 45)).alloc (.cells #[.int .i64 b1, .int .i64 b2] 45)) w.heap.size #[.int .i64 a1, .int .i64 a2] 45) := (Blk.new w _ 45).alloc _
  have HBB : Hid (Blk ((w.alloc (.cells #[.int .i64 a1, .int .i64 a2] 45)).alloc (.cells #[.int .i64 b1, .int .i64 b2] 45)) (w.heap.size + 1) #[.int .i64 b1, .int .i64 b2] 45) := Blk.new2 _ _ 45 (by simp)
  have HB : Hid (Below w.heap.size w ((w.alloc (.cells #[.int .i64 a1, .int .i64 a2] 45)).alloc (.cells #[.int .i64 b1, .int .i64 b2] 45))) := ((Below.refl _ _).alloc (Nat.le_refl _) _).alloc (by simp) _
  obtain ⟨x, hx⟩ : ∃ x, cmpI a1 b1 = x := ⟨_, rfl⟩
  obtain ⟨y, hy⟩ : ∃ y, cmpI a2 b2 = y := ⟨_, rfl⟩
  have HC1 : Hid (∀ W, Calls Try.prog 55 #[.int .i64 a1, .int .i64 b1] W fun e w' => e = .returned (.int .i64 x) ∧ W = w') := fun W => by rw [← hx]; exact cmp_any a1 b1 W
  have HC2 : Hid (∀ W, Calls Try.prog 55 #[.int .i64 a2, .int .i64 b2] W fun e w' => e = .returned (.int .i64 y) ∧ W = w') := fun W => by rw [← hy]; exact cmp_any a2 b2 W
  rw [hx, hy]
  obtain ⟨r, hr⟩ : ∃ r, (if x ≠ 0 then x else y) = r := ⟨_, rfl⟩
  have HOR : Hid (∀ (W W' : World), W'.heap = (W.alloc (.cells #[.int .i64 x, .int .i64 y] 3)).heap → Calls Try.prog 54 #[.slice (some ⟨W.heap.size, 0, none⟩) 2 2] W' fun e w' => e = .returned (.int .i64 r) ∧ W' = w') := fun W W' hw => by
    rw [← hr]
    refine or_any W.heap.size 2 x y W' ?_ ?_
    · have := Blk.cell (Blk.new W #[.int .i64 x, .int .i64 y] 3) 0
      unfold World.cell? at this ⊢; rw [hw]; exact this
    · have := Blk.cell (Blk.new W #[.int .i64 x, .int .i64 y] 3) 1
      unfold World.cell? at this ⊢; rw [hw]; exact this
  rw [hr]
  clear hx hy hr
  go_enter Try.func42, Try.ntmps42
  go_upto_region 1 with (fail)
  generalize ((w.alloc (.cells #[.int .i64 a1, .int .i64 a2] 45)).alloc (.cells #[.int .i64 b1, .int .i64 b2] 45)) = w2 at *
  have HE : Hid (∀ W, Below w2.heap.size w2 W → Below w.heap.size w W) := fun W hb => stepB HB.out hb
  obtain ⟨g, hgg⟩ : ∃ g, w.heap.size = g := ⟨_, rfl⟩
  rw [hgg] at HBA HBB
  rw [hgg]
  clear hgg
  have KSS : Hid (∀ W, Below w2.heap.size w2 W → S4P w2 g a1 a2 b1 b2 W) := fun W hb => ⟨hb, (HBA.out.later hb).cell 0, (HBA.out.later hb).cell 1, (HBB.out.later hb).cell 0, (HBB.out.later hb).cell 1⟩
  have K0 : Hid (S4P w2 g a1 a2 b1 b2 w2.drew) := KSS.out _ (Below.drew (Below.refl _ _))
  go_region_held3 (S4P w2 g a1 a2 b1 b2) (first | assumption | exact K0.out | exact KSS.out _ (stepB (And.left (by assumption)) (by assumption)) | exact KSS.out _ (stepB (And.left (by assumption)) ((Below.refl _ _).alloc (Nat.le_refl _) _)) | exact KSS.out _ (below_drewN (And.left (by assumption)) _)) (first
    | (go_at_call_of 55 (Value.int IntKind.i64 a1); refine (HC1.out _).mono ?_; rintro e wz ⟨rfl, rfl⟩)
    | (go_at_call_of 55 (Value.int IntKind.i64 a2); refine (HC2.out _).mono ?_; rintro e wz ⟨rfl, rfl⟩)
    | (go_at_call 54; refine (HOR.out w2 _ (by exact rfl)).mono ?_; rintro e wz ⟨rfl, rfl⟩))
  all_goals (
    rename S4P _ _ _ _ _ _ _ => hSO
    have HZ := Lib.hid hSO.1
    clear hSO
    go_wp2
    go_ret
    exact ⟨rfl, HE.out _ HZ.out⟩)
end Go.Proofs.Ytgbcncfgpdlmiaa
