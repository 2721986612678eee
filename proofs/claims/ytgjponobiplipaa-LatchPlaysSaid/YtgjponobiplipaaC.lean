/- How names stand: compare. -/
import Derived.Test.YtgjponobiplipaaB
import Derived.Shelf.SlSortFuncK.ComposeK
import Derived.Shelf.SlSortCmp.NoneTotal
namespace Go.Proofs.Ytgjponobiplipaa
open Go.ChangeShapes Go.WideShapes Go.ChangeAt Go.RowKit Go.Maps
set_option linter.unusedVariables false
set_option linter.unusedSimpArgs false

open Go.Sort Go.Lib Go.Shelf
set_option maxRecDepth 100000 in
set_option maxHeartbeats 4000000 in
theorem nan45 (x : Int) (w : World) : Calls Try.prog 45 #[.int .u8 x] w fun e w' => e = .returned (.bool false) ∧ w' = w := by
  have d : (x != x) = false := by simp
  go_enter Try.func45, Try.ntmps45
  go_wp2
  go_ret
  exact ⟨rfl, rfl⟩
set_option maxRecDepth 100000 in
set_option maxHeartbeats 4000000 in
theorem cmp32 (x y : Int) (w : World) : Calls Try.prog 32 #[.int .u8 x, .int .u8 y] w fun e w' => e = .returned (.int .i64 (Lib.compareInt x y)) ∧ w' = w := by
  have HC : Hid (Lib.compareInt x y = if x < y then -1 else if y < x then 1 else 0) := by show _ = _; unfold Lib.compareInt; rfl
  generalize Lib.compareInt x y = r at *
  by_cases h1 : x < y
  · have HR := Lib.hid (HC.out.trans (if_pos h1))
    have d1 : decide (x < y) = true := decide_eq_true h1
    clear HC h1
    go_enter Try.func32, Try.ntmps32
    go_wp2_with fail
    refine (nan45 x _).mono ?_
    rintro e _ ⟨rfl, rfl⟩
    go_wp2_with fail
    refine (nan45 y _).mono ?_
    rintro e _ ⟨rfl, rfl⟩
    go_wp2
    go_ret
    exact ⟨by rw [HR.out]; rfl, rfl⟩
  · have d1 : decide (x < y) = false := decide_eq_false h1
    by_cases h2 : y < x
    · have HR := Lib.hid ((HC.out.trans (if_neg h1)).trans (if_pos h2))
      have d2 : decide (y < x) = true := decide_eq_true h2
      clear HC h1 h2
      go_enter Try.func32, Try.ntmps32
      go_wp2_with fail
      refine (nan45 x _).mono ?_
      rintro e _ ⟨rfl, rfl⟩
      go_wp2_with fail
      refine (nan45 y _).mono ?_
      rintro e _ ⟨rfl, rfl⟩
      go_wp2
      go_ret
      exact ⟨by rw [HR.out]; rfl, rfl⟩
    · have HR := Lib.hid ((HC.out.trans (if_neg h1)).trans (if_neg h2))
      have d2 : decide (y < x) = false := decide_eq_false h2
      clear HC h1 h2
      go_enter Try.func32, Try.ntmps32
      go_wp2_with fail
      refine (nan45 x _).mono ?_
      rintro e _ ⟨rfl, rfl⟩
      go_wp2_with fail
      refine (nan45 y _).mono ?_
      rintro e _ ⟨rfl, rfl⟩
      go_wp2
      go_ret
      exact ⟨by rw [HR.out]; rfl, rfl⟩
set_option maxRecDepth 100000 in
set_option maxHeartbeats 4000000 in
theorem nan46 (x : Int) (w : World) : Calls Try.prog 46 #[.int .u64 x] w fun e w' => e = .returned (.bool false) ∧ w' = w := by
  have d : (x != x) = false := by simp
  go_enter Try.func46, Try.ntmps46
  go_wp2
  go_ret
  exact ⟨rfl, rfl⟩
set_option maxRecDepth 100000 in
set_option maxHeartbeats 4000000 in
theorem cmp33 (x y : Int) (w : World) : Calls Try.prog 33 #[.int .u64 x, .int .u64 y] w fun e w' => e = .returned (.int .i64 (Lib.compareInt x y)) ∧ w' = w := by
  have HC : Hid (Lib.compareInt x y = if x < y then -1 else if y < x then 1 else 0) := by show _ = _; unfold Lib.compareInt; rfl
  generalize Lib.compareInt x y = r at *
  by_cases h1 : x < y
  · have HR := Lib.hid (HC.out.trans (if_pos h1))
    have d1 : decide (x < y) = true := decide_eq_true h1
    clear HC h1
    go_enter Try.func33, Try.ntmps33
    go_wp2_with fail
    refine (nan46 x _).mono ?_
    rintro e _ ⟨rfl, rfl⟩
    go_wp2_with fail
    refine (nan46 y _).mono ?_
    rintro e _ ⟨rfl, rfl⟩
    go_wp2
    go_ret
    exact ⟨by rw [HR.out]; rfl, rfl⟩
  · have d1 : decide (x < y) = false := decide_eq_false h1
    by_cases h2 : y < x
    · have HR := Lib.hid ((HC.out.trans (if_neg h1)).trans (if_pos h2))
      have d2 : decide (y < x) = true := decide_eq_true h2
      clear HC h1 h2
      go_enter Try.func33, Try.ntmps33
      go_wp2_with fail
      refine (nan46 x _).mono ?_
      rintro e _ ⟨rfl, rfl⟩
      go_wp2_with fail
      refine (nan46 y _).mono ?_
      rintro e _ ⟨rfl, rfl⟩
      go_wp2
      go_ret
      exact ⟨by rw [HR.out]; rfl, rfl⟩
    · have HR := Lib.hid ((HC.out.trans (if_neg h1)).trans (if_neg h2))
      have d2 : decide (y < x) = false := decide_eq_false h2
      clear HC h1 h2
      go_enter Try.func33, Try.ntmps33
      go_wp2_with fail
      refine (nan46 x _).mono ?_
      rintro e _ ⟨rfl, rfl⟩
      go_wp2_with fail
      refine (nan46 y _).mono ?_
      rintro e _ ⟨rfl, rfl⟩
      go_wp2
      go_ret
      exact ⟨by rw [HR.out]; rfl, rfl⟩

theorem oindex (g m c k : Nat) (i : Int) (hi : i = (k : Int)) (h : k < m) (W : World) : (Instr.indexAt 80 (.slice (some ⟨g, 0, none⟩) m c) (.int .i64 i)).run Try.prog W = .ok (.pointer (some ⟨g, k, none⟩)) W := by
  subst hi
  have h1 : (0 : Int) ≤ (k : Int) ∧ (k : Int) < (m : Int) := by omega
  go_simp
set_option maxRecDepth 100000 in
set_option maxHeartbeats 4000000 in
theorem or_any (g : Nat) (a b r : Int) (hr : r = if a = 0 then b else a) (w : World) (h0 : w.cell? ⟨g, 0, none⟩ = some (.int .i64 a)) (h1 : w.cell? ⟨g, 1, none⟩ = some (.int .i64 b)) : Calls Try.prog 31 #[.slice (some ⟨g, 0, none⟩) 2 2] w fun e w' => e = .returned (.int .i64 r) ∧ w' = w := by
  have HRR := Lib.hid hr
  clear hr
  have H0 := Lib.hid h0
  have H1 := Lib.hid h1
  clear h0 h1
  go_enter Try.func31, Try.ntmps31
  go_wp2
  go_loopw [8] (fun i wr => ∃ k : Nat, k ≤ 2 ∧ i = .int .i64 k ∧ (1 ≤ k → a = 0) ∧ (2 ≤ k → b = 0) ∧ wr = w) (fun i _ => 2 - (intOf i).toNat)
  case atStart => exact ⟨0, by omega, rfl, fun h => by omega, fun h => by omega, rfl⟩
  case round =>
    obtain ⟨k, hk, rfl, ha, hb, rfl⟩ := hrel
    have HA := Lib.hid ha
    have HB := Lib.hid hb
    clear ha hb
    by_cases hlt : k < 2
    · have d1 : decide ((k : Int) < 2) = true := decide_eq_true (by omega)
      have wk : IntKind.i64.wrap ((k : Int) + 1) = (k : Int) + 1 := IntWalk.i64_in _ (by omega)
      have i1 := oindex g 2 2 k (k : Int) rfl hlt
      obtain ⟨x, hx, hxa⟩ : ∃ x, wr.cell? ⟨g, k, none⟩ = some (.int .i64 x) ∧ x = (if k = 0 then a else b) := by
        by_cases e : k = 0
        · subst e; exact ⟨a, H0.out, rfl⟩
        · obtain rfl : k = 1 := by omega
          exact ⟨b, H1.out, rfl⟩
      have HXA := Lib.hid hxa
      clear hxa
      by_cases e : x = 0
      · have dx : (x != 0) = false := ine_no e
        have HE := Lib.hid e
        clear e
        go_wp2
        go_roundw
        case rel =>
          refine ⟨k + 1, by omega, by go_num, fun _ => ?_, fun h => ?_, by first | rfl | trivial⟩
          · by_cases e : k = 0
            · subst e; have := HXA.out; simp at this; rw [← this]; exact HE.out
            · exact HA.out (by omega)
          · obtain rfl : k = 1 := by omega
            have := HXA.out; simp at this; rw [← this]; exact HE.out
        case measure => simp [intOf]; omega
      · have dx : (x != 0) = true := ine_yes e
        have HR : Hid (x = r) := by
          show _ = _
          rw [HRR.out]
          have h := HXA.out
          by_cases e0 : k = 0
          · subst e0; simp at h; subst h; rw [if_neg e]
          · have := HA.out (by omega); rw [if_pos this]; rw [if_neg e0] at h; exact h
        clear e
        go_wp2
        go_ret
        exact ⟨by rw [← HR.out]; rfl, rfl⟩
    · obtain rfl : k = 2 := by omega
      have d1 : decide ((2 : Int) < 2) = false := by decide
      have HR : Hid ((0 : Int) = r) := by
        show _ = _
        rw [HRR.out]
        rw [if_pos (HA.out (by omega)), HB.out (by omega)]
      go_wp2
      go_ret
      exact ⟨by rw [← HR.out]; rfl, rfl⟩
theorem pair_drew (W : World) (a b : Value) (t : TypeId) : (W.alloc (.cells #[a, b] t)).drew.cell? ⟨W.heap.size, 0, none⟩ = some a ∧ (W.alloc (.cells #[a, b] t)).drew.cell? ⟨W.heap.size, 1, none⟩ = some b :=
  ⟨by show (W.alloc (.cells #[a, b] t)).cell? ⟨W.heap.size, 0, none⟩ = some a; rw [Blk.cell (Blk.new _ _ _)]; rfl, by show (W.alloc (.cells #[a, b] t)).cell? ⟨W.heap.size, 1, none⟩ = some b; rw [Blk.cell (Blk.new _ _ _)]; rfl⟩
/-- the world that a sort's closure leaves -/
abbrev SG (w : World) (b0 b1 : Nat) (k1 i1 k2 i2 : Int) (W : World) : Prop := (∃ q os, W = Sort.grow (w.drewN q) os) ∧ W.cell? ⟨b0, 0, none⟩ = some (.int .u8 k1) ∧ W.cell? ⟨b0, 1, none⟩ = some (.int .u64 i1) ∧ W.cell? ⟨b1, 0, none⟩ = some (.int .u8 k2) ∧ W.cell? ⟨b1, 1, none⟩ = some (.int .u64 i2)
theorem grow_drewN (w : World) (q n : Nat) (os : Array Obj) : (Sort.grow (w.drewN q) os).drewN n = Sort.grow (w.drewN (q + n)) os := by
  rw [← World.drewN_drewN]; rfl
theorem SG.drewN {w W : World} {b0 b1 : Nat} {k1 i1 k2 i2 : Int} (h : SG w b0 b1 k1 i1 k2 i2 W) (n : Nat) : SG w b0 b1 k1 i1 k2 i2 (W.drewN n) := by
  obtain ⟨⟨q, os, rfl⟩, h⟩ := h
  exact ⟨⟨q + n, os, grow_drewN w q n os⟩, h⟩
theorem SG.alloc {w W : World} {b0 b1 : Nat} {k1 i1 k2 i2 : Int} (h : SG w b0 b1 k1 i1 k2 i2 W) (o : Obj) : SG w b0 b1 k1 i1 k2 i2 (W.alloc o) := by
  obtain ⟨⟨q, os, e⟩, h1, h2, h3, h4⟩ := h
  have hb : Below W.heap.size W (W.alloc o) := (Below.refl _ _).alloc (Nat.le_refl _) _
  exact ⟨⟨q, os ++ #[o], by rw [e, Sort.alloc_eq_grow, Sort.grow_grow]⟩, (hb.cell (p := ⟨b0, 0, none⟩) (lt_of_cell h1)).trans h1, (hb.cell (p := ⟨b0, 1, none⟩) (lt_of_cell h1)).trans h2, (hb.cell (p := ⟨b1, 0, none⟩) (lt_of_cell h3)).trans h3, (hb.cell (p := ⟨b1, 1, none⟩) (lt_of_cell h3)).trans h4⟩
theorem lex_eq (x y : Int) : (if Lib.compareInt (x / 18446744073709551616) (y / 18446744073709551616) = 0 then Lib.compareInt (x % 18446744073709551616) (y % 18446744073709551616) else Lib.compareInt (x / 18446744073709551616) (y / 18446744073709551616)) = Lib.compareInt x y := by
  unfold Lib.compareInt
  repeat' split
  all_goals first | rfl | omega
set_option maxRecDepth 100000 in
set_option maxHeartbeats 4000000 in
theorem compare26 (x y : Int) (w : World) : Calls Try.prog 26 #[nmv x, nmv y] w fun e w' => e = .returned (.int .i64 (Lib.compareInt x y)) ∧ ∃ q os', w' = Sort.grow (w.drewN q) os' := by
  rw [← lex_eq x y]
  unfold nmv
  generalize x / 18446744073709551616 = k1 at *
  generalize x % 18446744073709551616 = j1 at *
  generalize y / 18446744073709551616 = k2 at *
  generalize y % 18446744073709551616 = j2 at *
  have hb0 : Below w.heap.size w (w.alloc (.cells #[.int .u8 k1, .int .u64 j1] 27)) := (Below.refl _ _).alloc (Nat.le_refl _) _
  have X0 := Blk.new w #[.int .u8 k1, .int .u64 j1] 27
  have X1 := Blk.new (w.alloc (.cells #[.int .u8 k1, .int .u64 j1] 27)) #[.int .u8 k2, .int .u64 j2] 27
  have X0' := X0.alloc (.cells #[.int .u8 k2, .int .u64 j2] 27)
  have c0 := X0'.cell 0
  have c1 := X0'.cell 1
  have c2 := X1.cell 0
  have c3 := X1.cell 1
  simp only [List.getElem?_toArray, List.getElem?_cons_zero, List.getElem?_cons_succ] at c0 c1 c2 c3
  have hsz : (w.alloc (.cells #[.int .u8 k1, .int .u64 j1] 27)).heap.size = w.heap.size + 1 := by simp
  rw [hsz] at c2 c3
  have hS : SG w w.heap.size (w.heap.size + 1) k1 j1 k2 j2 ((w.alloc (.cells #[.int .u8 k1, .int .u64 j1] 27)).alloc (.cells #[.int .u8 k2, .int .u64 j2] 27)) :=
    ⟨⟨0, _, by rw [Sort.alloc_eq_grow, Sort.alloc_eq_grow, Sort.grow_grow]; rfl⟩, c0, c1, c2, c3⟩
  have HS := Lib.hid hS
  clear hb0 X0 X1 X0' c0 c1 c2 c3 hsz hS
  obtain ⟨ra, hra⟩ : ∃ r, Lib.compareInt k1 k2 = r := ⟨_, rfl⟩
  obtain ⟨rb, hrb⟩ : ∃ r, Lib.compareInt j1 j2 = r := ⟨_, rfl⟩
  rw [hra, hrb]
  obtain ⟨rr, hrr⟩ : ∃ r, (if ra = 0 then rb else ra) = r := ⟨_, rfl⟩
  rw [hrr]
  have HRR := Lib.hid hrr.symm
  clear hrr
  have C1 : Hid (∀ W, Calls Try.prog 32 #[.int .u8 k1, .int .u8 k2] W fun e w' => e = .returned (.int .i64 ra) ∧ w' = W) := fun W => by rw [← hra]; exact cmp32 k1 k2 W
  have C2 : Hid (∀ W, Calls Try.prog 33 #[.int .u64 j1, .int .u64 j2] W fun e w' => e = .returned (.int .i64 rb) ∧ w' = W) := fun W => by rw [← hrb]; exact cmp33 j1 j2 W
  clear hra hrb
  go_enter Try.func26, Try.ntmps26
  go_upto_region 1 with (fail)
  generalize hw2 : (w.alloc (.cells #[.int .u8 k1, .int .u64 j1] 27)).alloc (.cells #[.int .u8 k2, .int .u64 j2] 27) = w2 at *
  have HW2 := Lib.hid hw2
  clear hw2
  generalize w.heap.size + 1 = b1 at *
  generalize w.heap.size = b0 at *
  have K0 : Hid (SG w b0 b1 k1 j1 k2 j2 w2.drew) := HS.out.drewN 1
  go_region_held3 (SG w b0 b1 k1 j1 k2 j2) (first | assumption | exact K0.out | exact SG.drewN (by assumption) _ | exact SG.alloc (by assumption) _) (first
    | (go_at_call 32; refine (C1.out _).mono ?_; rintro e wz ⟨rfl, rfl⟩)
    | (go_at_call 33; refine (C2.out _).mono ?_; rintro e wz ⟨rfl, rfl⟩)
    | (go_at_call 31; refine (or_any _ ra rb rr HRR.out _ (by first | (rw [Blk.cell (Blk.new _ _ _)]; rfl) | exact (pair_drew _ _ _ _).1 | exact (pair_drew _ _ _ _).2) (by first | (rw [Blk.cell (Blk.new _ _ _)]; rfl) | exact (pair_drew _ _ _ _).1 | exact (pair_drew _ _ _ _).2)).mono ?_; rintro e wz ⟨rfl, rfl⟩))
  all_goals (
    rename SG _ _ _ _ _ _ _ _ => hSO
    have hz := Lib.hid hSO.1
    clear hSO
    go_wp2
    go_ret
    exact ⟨rfl, hz.out⟩)
end Go.Proofs.Ytgjponobiplipaa
