/-
The examples; numbers at the ends; views that nobody made.
-/
import Derived.Test.YthicofdbcldpaaaL
import Derived.Test.YthicofdbcldpaaaQ
namespace Go.Proofs.Ythicofdbcldpaaa.viewNames
open Go.ChangeShapes Go.WideShapes Go.ChangeAt Go.RowKit Go.Shelf Go.Sort Go.Lib
set_option linter.unusedVariables false
set_option linter.unusedSimpArgs false

theorem own : ownKnob Try.prog.godebug = none := by kernel_rfl
theorem laidOut : laidOutB Try.prog = true := by kernel_rfl

theorem ba {W : World} {B : Nat} {c : Array Value} {t : TypeId} (h : Blk W B c t) (o : Obj) : Blk (W.alloc o) B c t := h.later ((Below.refl _ _).alloc (Nat.le_refl _) _)
/-- the memory of the list of views -/
def litW (w : World) : World := ((((w.alloc (.cells #[.int .i64 6, .int .i64 4, .int .i64 3, .int .i64 9] 3)).alloc (.cells #[.int .i64 5] 3)).alloc (.cells #[.int .i64 0, .int .i64 (-3)] 3)).alloc (.cells #[.int .i64 0, .int .i64 0, .slice none 0 0, .int .i64 1, .int .i64 1, .int .i64 0, .slice none 0 0, .int .i64 2, .int .i64 1, .int .i64 (-9), .slice none 0 0, .int .i64 2, .int .i64 7, .int .i64 7, .slice none 0 0, .int .i64 8, .int .i64 7, .int .i64 8, .slice none 0 0, .int .i64 8, .int .i64 3, .int .i64 8, .slice (some ⟨w.heap.size, 0, none⟩) 4 4, .int .i64 4, .int .i64 0, .int .i64 9223372036854775807, .slice none 0 0, .int .i64 9223372036854775807, .int .i64 9223372036854775807, .int .i64 9223372036854775807, .slice none 0 0, .int .i64 9223372036854775807, .int .i64 9223372036854775807, .int .i64 9223372036854775807, .slice (some ⟨w.heap.size + 1, 0, none⟩) 1 1, .int .i64 5, .int .i64 2, .int .i64 1, .slice none 0 0, .int .i64 1, .int .i64 0, .int .i64 1, .slice (some ⟨w.heap.size + 1 + 1, 0, none⟩) 2 2, .int .i64 1] 26))
theorem litW_size (w : World) : (litW w).heap.size = w.heap.size + 4 := by simp [litW]
theorem litW_below (w : World) : Below w.heap.size w (litW w) := by
  unfold litW
  refine ((((Below.refl _ w).alloc (Nat.le_refl _) _).alloc ?_ _).alloc ?_ _).alloc ?_ _ <;> simp <;> omega
theorem litW_0 (w : World) : Blk (litW w) (w.heap.size) #[.int .i64 6, .int .i64 4, .int .i64 3, .int .i64 9] 3 := by
  have h := Blk.new w #[.int .i64 6, .int .i64 4, .int .i64 3, .int .i64 9] 3
  
  exact ba (ba (ba h _) _) _
theorem litW_1 (w : World) : Blk (litW w) (w.heap.size + 1) #[.int .i64 5] 3 := by
  have h := Blk.new (w.alloc (.cells #[.int .i64 6, .int .i64 4, .int .i64 3, .int .i64 9] 3)) #[.int .i64 5] 3
  simp only [World.size_alloc] at h
  exact ba (ba h _) _
theorem litW_2 (w : World) : Blk (litW w) (w.heap.size + 1 + 1) #[.int .i64 0, .int .i64 (-3)] 3 := by
  have h := Blk.new ((w.alloc (.cells #[.int .i64 6, .int .i64 4, .int .i64 3, .int .i64 9] 3)).alloc (.cells #[.int .i64 5] 3)) #[.int .i64 0, .int .i64 (-3)] 3
  simp only [World.size_alloc] at h
  exact ba h _
theorem litW_3 (w : World) : Blk (litW w) (w.heap.size + 1 + 1 + 1) #[.int .i64 0, .int .i64 0, .slice none 0 0, .int .i64 1, .int .i64 1, .int .i64 0, .slice none 0 0, .int .i64 2, .int .i64 1, .int .i64 (-9), .slice none 0 0, .int .i64 2, .int .i64 7, .int .i64 7, .slice none 0 0, .int .i64 8, .int .i64 7, .int .i64 8, .slice none 0 0, .int .i64 8, .int .i64 3, .int .i64 8, .slice (some ⟨w.heap.size, 0, none⟩) 4 4, .int .i64 4, .int .i64 0, .int .i64 9223372036854775807, .slice none 0 0, .int .i64 9223372036854775807, .int .i64 9223372036854775807, .int .i64 9223372036854775807, .slice none 0 0, .int .i64 9223372036854775807, .int .i64 9223372036854775807, .int .i64 9223372036854775807, .slice (some ⟨w.heap.size + 1, 0, none⟩) 1 1, .int .i64 5, .int .i64 2, .int .i64 1, .slice none 0 0, .int .i64 1, .int .i64 0, .int .i64 1, .slice (some ⟨w.heap.size + 1 + 1, 0, none⟩) 2 2, .int .i64 1] 26 := by
  have h := Blk.new (((w.alloc (.cells #[.int .i64 6, .int .i64 4, .int .i64 3, .int .i64 9] 3)).alloc (.cells #[.int .i64 5] 3)).alloc (.cells #[.int .i64 0, .int .i64 (-3)] 3)) #[.int .i64 0, .int .i64 0, .slice none 0 0, .int .i64 1, .int .i64 1, .int .i64 0, .slice none 0 0, .int .i64 2, .int .i64 1, .int .i64 (-9), .slice none 0 0, .int .i64 2, .int .i64 7, .int .i64 7, .slice none 0 0, .int .i64 8, .int .i64 7, .int .i64 8, .slice none 0 0, .int .i64 8, .int .i64 3, .int .i64 8, .slice (some ⟨w.heap.size, 0, none⟩) 4 4, .int .i64 4, .int .i64 0, .int .i64 9223372036854775807, .slice none 0 0, .int .i64 9223372036854775807, .int .i64 9223372036854775807, .int .i64 9223372036854775807, .slice none 0 0, .int .i64 9223372036854775807, .int .i64 9223372036854775807, .int .i64 9223372036854775807, .slice (some ⟨w.heap.size + 1, 0, none⟩) 1 1, .int .i64 5, .int .i64 2, .int .i64 1, .slice none 0 0, .int .i64 1, .int .i64 0, .int .i64 1, .slice (some ⟨w.heap.size + 1 + 1, 0, none⟩) 2 2, .int .i64 1] 26
  simp only [World.size_alloc] at h
  exact h
def NamesAt (W : World) (B k : Nat) : Prop := ∃ own high A n c xs least, W.cell? ⟨B, k * 4, none⟩ = some (.int .i64 own) ∧ W.cell? ⟨B, k * 4 + 1, none⟩ = some (.int .i64 high) ∧ W.cell? ⟨B, k * 4 + 1 + 1, none⟩ = some (.slice A n c) ∧ W.cell? ⟨B, k * 4 + 1 + 1 + 1, none⟩ = some (.int .i64 least) ∧
  Ints W.heap.size W A n xs ∧ n ≤ 4 ∧ leastOf own high xs = least ∧ high ≤ 9223372036854775807
theorem names_at (w W : World) (hb : Below (litW w).heap.size (litW w) W) (k : Nat) (hk : k < 11) : NamesAt W (w.heap.size + 1 + 1 + 1) k := by
  have hD := ((litW_3 w).later hb).cell
  have h0 := (litW_0 w).later hb
  have h1 := (litW_1 w).later hb
  have h2 := (litW_2 w).later hb
  rcases k with _ | _ | _ | _ | _ | _ | _ | _ | _ | _ | _ | k
  · exact ⟨0, 0, none, 0, 0, [], 1, hD 0, hD 1, hD 2, hD 3, ⟨rfl, fun h => by omega⟩, by omega, by decide, by omega⟩
  · exact ⟨1, 0, none, 0, 0, [], 2, hD 4, hD 5, hD 6, hD 7, ⟨rfl, fun h => by omega⟩, by omega, by decide, by omega⟩
  · exact ⟨1, (-9), none, 0, 0, [], 2, hD 8, hD 9, hD 10, hD 11, ⟨rfl, fun h => by omega⟩, by omega, by decide, by omega⟩
  · exact ⟨7, 7, none, 0, 0, [], 8, hD 12, hD 13, hD 14, hD 15, ⟨rfl, fun h => by omega⟩, by omega, by decide, by omega⟩
  · exact ⟨7, 8, none, 0, 0, [], 8, hD 16, hD 17, hD 18, hD 19, ⟨rfl, fun h => by omega⟩, by omega, by decide, by omega⟩
  · exact ⟨3, 8, (some ⟨w.heap.size, 0, none⟩), 4, 4, [6, 4, 3, 9], 4, hD 20, hD 21, hD 22, hD 23, ints_blk (xs := [6, 4, 3, 9]) h0, by omega, by decide, by omega⟩
  · exact ⟨0, 9223372036854775807, none, 0, 0, [], 9223372036854775807, hD 24, hD 25, hD 26, hD 27, ⟨rfl, fun h => by omega⟩, by omega, by decide, by omega⟩
  · exact ⟨9223372036854775807, 9223372036854775807, none, 0, 0, [], 9223372036854775807, hD 28, hD 29, hD 30, hD 31, ⟨rfl, fun h => by omega⟩, by omega, by decide, by omega⟩
  · exact ⟨9223372036854775807, 9223372036854775807, (some ⟨w.heap.size + 1, 0, none⟩), 1, 1, [5], 5, hD 32, hD 33, hD 34, hD 35, ints_blk (xs := [5]) h1, by omega, by decide, by omega⟩
  · exact ⟨2, 1, none, 0, 0, [], 1, hD 36, hD 37, hD 38, hD 39, ⟨rfl, fun h => by omega⟩, by omega, by decide, by omega⟩
  · exact ⟨0, 1, (some ⟨w.heap.size + 1 + 1, 0, none⟩), 2, 2, [0, -3], 1, hD 40, hD 41, hD 42, hD 43, ints_blk (xs := [0, -3]) h2, by omega, by decide, by omega⟩
  · omega
abbrev SN (w0 : World) (B : Nat) (own high : Int) (A : Option Addr) (n c : Nat) (least : Int) (W : World) : Prop := Below w0.heap.size w0 W ∧
  W.cell? ⟨B, 0, none⟩ = some (.int .i64 own) ∧ W.cell? ⟨B, 1, none⟩ = some (.int .i64 high) ∧ W.cell? ⟨B, 2, none⟩ = some (.slice A n c) ∧ W.cell? ⟨B, 3, none⟩ = some (.int .i64 least)
theorem sn_later {w0 W : World} {B : Nat} {own high : Int} {A : Option Addr} {n c : Nat} {least : Int} (hB : Blk w0 B #[.int .i64 own, .int .i64 high, .slice A n c, .int .i64 least] 26) (h : Below w0.heap.size w0 W) : SN w0 B own high A n c least W :=
  ⟨h, (hB.later h).cell 0, (hB.later h).cell 1, (hB.later h).cell 2, (hB.later h).cell 3⟩
set_option maxRecDepth 100000 in
set_option maxHeartbeats 8000000 in
theorem walk_in (w : World) : Calls Try.prog 3 #[] w fun e w' => e = .returned (.bool true) ∧ Below w.heap.size w w' := by
  go_enter Try.func3, Try.ntmps3
  go_wp2_with fail
  refine (awake_any _).mono ?_
  rintro e w1 ⟨rfl, hb⟩
  have H1 : Hid (Below w.heap.size w w1) := hb
  clear hb
  go_wp2
  go_loopw [34] (fun i wr => ∃ k : Nat, k ≤ 11 ∧ i = .int .i64 k ∧ Below (litW w1).heap.size (litW w1) wr) (fun i _ => 11 - (intOf i).toNat)
  case atStart => exact ⟨0, by omega, rfl, Below.refl _ _⟩
  case round =>
    obtain ⟨k, hk, rfl, hb⟩ := hrel
    obtain ⟨wo, rfl⟩ : ∃ wo : World, wo = wr := ⟨_, rfl⟩
    have Hb := Lib.hid hb
    clear hb
    by_cases hlt : k < 11
    case pos =>
      obtain ⟨own, high, A, n, c, xs, least, hc0, hc1, hc2, hc3, hxs, hn, hle, hh⟩ := names_at w1 wo Hb.out k hlt
      have hi1 : (k : Int) < 11 := by omega
      have hx : ∀ W, (Instr.indexAt 27 (.slice (some ⟨w1.heap.size + 1 + 1 + 1, 0, none⟩) 11 11) (.int .i64 (k : Int))).run Try.prog W = .ok (.pointer (some ⟨w1.heap.size + 1 + 1 + 1, k * 4, none⟩)) W := fun W => by
        have h1 : (0 : Int) ≤ (k : Int) ∧ (k : Int) < 11 := by omega
        go_simp
      have HX := Lib.hid hxs
      have HE := Lib.hid hle
      clear hxs hle
      have CL : Hid (∀ W, SN (wo.alloc (.cells #[.int .i64 own, .int .i64 high, .slice A n c, .int .i64 least] 26)) wo.heap.size own high A n c least W → Calls Try.prog 8 #[.agg #[.int .i64 own, .int .i64 high, .slice A n c]] W fun e w' => e = .returned (.int .i64 least) ∧ Below W.heap.size W w') := fun W h => by
        have := Least_any own high A n c xs W ((HX.out.later ((Below.refl _ _).alloc (Nat.le_refl _) _)).later h.1) (by omega) hh
        rw [HE.out] at this; exact this
      have CS : Hid (∀ x W, x < 1 → SN (wo.alloc (.cells #[.int .i64 own, .int .i64 high, .slice A n c, .int .i64 least] 26)) wo.heap.size own high A n c least W → Calls Try.prog 9 #[.agg #[.int .i64 own, .int .i64 high, .slice A n c], .int .i64 x] W fun e w' => e = .returned (.bool false) ∧ Below W.heap.size W w') := fun x W hx h => by
        have := Sees_any own high A n c xs x W ((HX.out.later ((Below.refl _ _).alloc (Nat.le_refl _) _)).later h.1) (by omega)
        rw [sees_low hx] at this; exact this
      have KS : Hid (∀ W W2, Below W.heap.size W W2 → SN (wo.alloc (.cells #[.int .i64 own, .int .i64 high, .slice A n c, .int .i64 least] 26)) wo.heap.size own high A n c least W → SN (wo.alloc (.cells #[.int .i64 own, .int .i64 high, .slice A n c, .int .i64 least] 26)) wo.heap.size own high A n c least W2) := fun W W2 h2 h1 => sn_later (Blk.new wo _ 26) (stepB h1.1 h2)
      have K0 : Hid (SN (wo.alloc (.cells #[.int .i64 own, .int .i64 high, .slice A n c, .int .i64 least] 26)) wo.heap.size own high A n c least (wo.alloc (.cells #[.int .i64 own, .int .i64 high, .slice A n c, .int .i64 least] 26)).drew) := sn_later (Blk.new wo _ 26) (Below.drew (Below.refl _ _))
      have HB1 : Hid (Below (litW w1).heap.size (litW w1) (wo.alloc (.cells #[.int .i64 own, .int .i64 high, .slice A n c, .int .i64 least] 26))) := Hb.out.alloc Hb.out.size _
      have dl : (least != least) = false := by simp
      go_wp2
      clear hc0 hc1 hc2 hc3 hx
      generalize wo.alloc (.cells #[.int .i64 own, .int .i64 high, .slice A n c, .int .i64 least] 26) = w2 at *
      generalize wo.heap.size = B at *
      go_region_held3 (SN w2 B own high A n c least) (first | assumption | exact K0.out | exact KS.out _ _ (by assumption) (by assumption) | exact KS.out _ _ (below_drewN (Below.refl _ _) _) (by assumption)) (first
        | (go_at_call 8; refine (CL.out _ (by assumption)).mono ?_; rintro e w2 ⟨rfl, hb⟩)
        | (go_at_call 9; refine (CS.out _ _ (by decide) (by assumption)).mono ?_; rintro e w2 ⟨rfl, hb⟩))
      all_goals (
        rename SN _ _ _ _ _ _ _ _ _ => hSO
        have hz := Lib.hid (HB1.out.trans (hSO.1.mono HB1.out.size))
        clear hSO
        go_wp2
        go_roundw
        case rel => exact ⟨k + 1, by omega, by go_num, hz.out⟩
        case measure => simp [intOf]; omega)
    case neg =>
      have hk11 : ¬ (k : Int) < 11 := by omega
      have H2 : Hid (Below w.heap.size w wo) := stepB H1.out ((litW_below w1).trans (Hb.out.mono (litW_below w1).size))
      clear H1 Hb
      have hb : Below wo.heap.size wo (wo.alloc (.cells #[.int .i64 1] 3)) := (Below.refl _ _).alloc (Nat.le_refl _) _
      have H4 : Hid (Below w.heap.size w (wo.alloc (.cells #[.int .i64 1] 3))) := stepB H2.out hb
      clear hb H2
      have Va : Hid (Ints (wo.alloc (.cells #[.int .i64 1] 3)).heap.size (wo.alloc (.cells #[.int .i64 1] 3)) (some ⟨wo.heap.size, 0, none⟩) 1 [1]) := ints_lit wo [1]
      have hb : Below (wo.alloc (.cells #[.int .i64 1] 3)).heap.size (wo.alloc (.cells #[.int .i64 1] 3)) ((wo.alloc (.cells #[.int .i64 1] 3)).alloc (.cells #[.int .i64 1, .int .i64 2, .slice (some ⟨wo.heap.size, 0, none⟩) 1 1] 25)) := (Below.refl _ _).alloc (Nat.le_refl _) _
      replace Va := Lib.hid (Va.out.later hb)
      have H5 : Hid (Below w.heap.size w ((wo.alloc (.cells #[.int .i64 1] 3)).alloc (.cells #[.int .i64 1, .int .i64 2, .slice (some ⟨wo.heap.size, 0, none⟩) 1 1] 25))) := stepB H4.out hb
      clear hb H4
      have Ka : Hid (Blk ((wo.alloc (.cells #[.int .i64 1] 3)).alloc (.cells #[.int .i64 1, .int .i64 2, .slice (some ⟨wo.heap.size, 0, none⟩) 1 1] 25)) (wo.heap.size + 1) #[.int .i64 1, .int .i64 2, .slice (some ⟨wo.heap.size, 0, none⟩) 1 1] 25) := by have := Blk.new (wo.alloc (.cells #[.int .i64 1] 3)) #[.int .i64 1, .int .i64 2, .slice (some ⟨wo.heap.size, 0, none⟩) 1 1] 25; simp only [World.size_alloc] at this; exact this
      have hb : Below ((wo.alloc (.cells #[.int .i64 1] 3)).alloc (.cells #[.int .i64 1, .int .i64 2, .slice (some ⟨wo.heap.size, 0, none⟩) 1 1] 25)).heap.size ((wo.alloc (.cells #[.int .i64 1] 3)).alloc (.cells #[.int .i64 1, .int .i64 2, .slice (some ⟨wo.heap.size, 0, none⟩) 1 1] 25)) (((wo.alloc (.cells #[.int .i64 1] 3)).alloc (.cells #[.int .i64 1, .int .i64 2, .slice (some ⟨wo.heap.size, 0, none⟩) 1 1] 25)).alloc (.cells #[.int .i64 1] 3)) := (Below.refl _ _).alloc (Nat.le_refl _) _
      replace Va := Lib.hid (Va.out.later hb)
      replace Ka := Lib.hid (Ka.out.later hb)
      have H6 : Hid (Below w.heap.size w (((wo.alloc (.cells #[.int .i64 1] 3)).alloc (.cells #[.int .i64 1, .int .i64 2, .slice (some ⟨wo.heap.size, 0, none⟩) 1 1] 25)).alloc (.cells #[.int .i64 1] 3))) := stepB H5.out hb
      clear hb H5
      have Vb : Hid (Ints (((wo.alloc (.cells #[.int .i64 1] 3)).alloc (.cells #[.int .i64 1, .int .i64 2, .slice (some ⟨wo.heap.size, 0, none⟩) 1 1] 25)).alloc (.cells #[.int .i64 1] 3)).heap.size (((wo.alloc (.cells #[.int .i64 1] 3)).alloc (.cells #[.int .i64 1, .int .i64 2, .slice (some ⟨wo.heap.size, 0, none⟩) 1 1] 25)).alloc (.cells #[.int .i64 1] 3)) (some ⟨wo.heap.size + 1 + 1, 0, none⟩) 1 [1]) := ints_lit2 ((wo.alloc (.cells #[.int .i64 1] 3)).alloc (.cells #[.int .i64 1, .int .i64 2, .slice (some ⟨wo.heap.size, 0, none⟩) 1 1] 25)) [1] (by simp)
      have hb : Below (((wo.alloc (.cells #[.int .i64 1] 3)).alloc (.cells #[.int .i64 1, .int .i64 2, .slice (some ⟨wo.heap.size, 0, none⟩) 1 1] 25)).alloc (.cells #[.int .i64 1] 3)).heap.size (((wo.alloc (.cells #[.int .i64 1] 3)).alloc (.cells #[.int .i64 1, .int .i64 2, .slice (some ⟨wo.heap.size, 0, none⟩) 1 1] 25)).alloc (.cells #[.int .i64 1] 3)) ((((wo.alloc (.cells #[.int .i64 1] 3)).alloc (.cells #[.int .i64 1, .int .i64 2, .slice (some ⟨wo.heap.size, 0, none⟩) 1 1] 25)).alloc (.cells #[.int .i64 1] 3)).alloc (.cells #[.int .i64 1, .int .i64 2, .slice (some ⟨wo.heap.size + 1 + 1, 0, none⟩) 1 1] 25)) := (Below.refl _ _).alloc (Nat.le_refl _) _
      replace Va := Lib.hid (Va.out.later hb)
      replace Ka := Lib.hid (Ka.out.later hb)
      replace Vb := Lib.hid (Vb.out.later hb)
      have H7 : Hid (Below w.heap.size w ((((wo.alloc (.cells #[.int .i64 1] 3)).alloc (.cells #[.int .i64 1, .int .i64 2, .slice (some ⟨wo.heap.size, 0, none⟩) 1 1] 25)).alloc (.cells #[.int .i64 1] 3)).alloc (.cells #[.int .i64 1, .int .i64 2, .slice (some ⟨wo.heap.size + 1 + 1, 0, none⟩) 1 1] 25))) := stepB H6.out hb
      clear hb H6
      have Kb : Hid (Blk ((((wo.alloc (.cells #[.int .i64 1] 3)).alloc (.cells #[.int .i64 1, .int .i64 2, .slice (some ⟨wo.heap.size, 0, none⟩) 1 1] 25)).alloc (.cells #[.int .i64 1] 3)).alloc (.cells #[.int .i64 1, .int .i64 2, .slice (some ⟨wo.heap.size + 1 + 1, 0, none⟩) 1 1] 25)) (wo.heap.size + 1 + 1 + 1) #[.int .i64 1, .int .i64 2, .slice (some ⟨wo.heap.size + 1 + 1, 0, none⟩) 1 1] 25) := by have := Blk.new (((wo.alloc (.cells #[.int .i64 1] 3)).alloc (.cells #[.int .i64 1, .int .i64 2, .slice (some ⟨wo.heap.size, 0, none⟩) 1 1] 25)).alloc (.cells #[.int .i64 1] 3)) #[.int .i64 1, .int .i64 2, .slice (some ⟨wo.heap.size + 1 + 1, 0, none⟩) 1 1] 25; simp only [World.size_alloc] at this; exact this
      go_wp2_with fail
      refine (Same_any 1 2 1 2 (some ⟨wo.heap.size, 0, none⟩) (some ⟨wo.heap.size + 1 + 1, 0, none⟩) 1 1 1 1 [1] [1] _ Va.out Vb.out (by omega) (by omega)).mono ?_
      rintro e w8 ⟨rfl, hb⟩
      rw [show sameV 1 2 [1] 1 2 [1] = true from by decide]
      replace Va := Lib.hid (Va.out.later hb)
      replace Ka := Lib.hid (Ka.out.later hb)
      replace Ka_0 : _ = some (Value.int .i64 1) := Ka.out.cell 0
      replace Ka_1 : _ = some (Value.int .i64 2) := Ka.out.cell 1
      replace Ka_2 : _ = some (Value.slice (some ⟨wo.heap.size, 0, none⟩) 1 1) := Ka.out.cell 2
      replace Vb := Lib.hid (Vb.out.later hb)
      replace Kb := Lib.hid (Kb.out.later hb)
      replace Kb_0 : _ = some (Value.int .i64 1) := Kb.out.cell 0
      replace Kb_1 : _ = some (Value.int .i64 2) := Kb.out.cell 1
      replace Kb_2 : _ = some (Value.slice (some ⟨wo.heap.size + 1 + 1, 0, none⟩) 1 1) := Kb.out.cell 2
      have H8 : Hid (Below w.heap.size w w8) := stepB H7.out hb
      clear hb H7
      clear Kb Kb_0 Kb_1 Kb_2
      clear Vb 
      have NIL : ∀ W : World, Ints W.heap.size W none 0 [] := fun W => ⟨rfl, fun h => by omega⟩
      go_wp2_with fail
      refine (Same_any 1 2 1 2 (some ⟨wo.heap.size, 0, none⟩) none 1 0 1 0 [1] [] _ Va.out (NIL _) (by omega) (by omega)).mono ?_
      rintro e w9 ⟨rfl, hb⟩
      rw [show sameV 1 2 [1] 1 2 [] = false from by decide]
      replace Va := Lib.hid (Va.out.later hb)
      replace Ka := Lib.hid (Ka.out.later hb)
      replace Ka_0 : _ = some (Value.int .i64 1) := Ka.out.cell 0
      replace Ka_1 : _ = some (Value.int .i64 2) := Ka.out.cell 1
      replace Ka_2 : _ = some (Value.slice (some ⟨wo.heap.size, 0, none⟩) 1 1) := Ka.out.cell 2
      have H9 : Hid (Below w.heap.size w w9) := stepB H8.out hb
      clear hb H8
      go_wp2_with fail
      have hb : Below w9.heap.size w9 (w9.alloc (.cells #[.int .i64 1] 3)) := (Below.refl _ _).alloc (Nat.le_refl _) _
      replace Va := Lib.hid (Va.out.later hb)
      replace Ka := Lib.hid (Ka.out.later hb)
      replace Ka_0 : _ = some (Value.int .i64 1) := Ka.out.cell 0
      replace Ka_1 : _ = some (Value.int .i64 2) := Ka.out.cell 1
      replace Ka_2 : _ = some (Value.slice (some ⟨wo.heap.size, 0, none⟩) 1 1) := Ka.out.cell 2
      have H10 : Hid (Below w.heap.size w (w9.alloc (.cells #[.int .i64 1] 3))) := stepB H9.out hb
      clear hb H9
      have Vc := Lib.hid (ints_lit w9 [1])
      refine (Same_any 1 2 2 2 (some ⟨wo.heap.size, 0, none⟩) (some ⟨w9.heap.size, 0, none⟩) 1 1 1 1 [1] [1] _ Va.out Vc.out (by omega) (by omega)).mono ?_
      rintro e w11 ⟨rfl, hb⟩
      rw [show sameV 1 2 [1] 2 2 [1] = false from by decide]
      clear Vc
      replace Va := Lib.hid (Va.out.later hb)
      replace Ka := Lib.hid (Ka.out.later hb)
      replace Ka_0 : _ = some (Value.int .i64 1) := Ka.out.cell 0
      replace Ka_1 : _ = some (Value.int .i64 2) := Ka.out.cell 1
      replace Ka_2 : _ = some (Value.slice (some ⟨wo.heap.size, 0, none⟩) 1 1) := Ka.out.cell 2
      have H11 : Hid (Below w.heap.size w w11) := stepB H10.out hb
      clear hb H10
      go_wp2_with fail
      have hb : Below w11.heap.size w11 (w11.alloc (.cells #[.int .i64 1] 3)) := (Below.refl _ _).alloc (Nat.le_refl _) _
      replace Va := Lib.hid (Va.out.later hb)
      replace Ka := Lib.hid (Ka.out.later hb)
      replace Ka_0 : _ = some (Value.int .i64 1) := Ka.out.cell 0
      replace Ka_1 : _ = some (Value.int .i64 2) := Ka.out.cell 1
      replace Ka_2 : _ = some (Value.slice (some ⟨wo.heap.size, 0, none⟩) 1 1) := Ka.out.cell 2
      have H12 : Hid (Below w.heap.size w (w11.alloc (.cells #[.int .i64 1] 3))) := stepB H11.out hb
      clear hb H11
      have Vc := Lib.hid (ints_lit w11 [1])
      refine (Same_any 1 2 1 3 (some ⟨wo.heap.size, 0, none⟩) (some ⟨w11.heap.size, 0, none⟩) 1 1 1 1 [1] [1] _ Va.out Vc.out (by omega) (by omega)).mono ?_
      rintro e w13 ⟨rfl, hb⟩
      rw [show sameV 1 2 [1] 1 3 [1] = false from by decide]
      clear Vc
      replace Va := Lib.hid (Va.out.later hb)
      replace Ka := Lib.hid (Ka.out.later hb)
      replace Ka_0 : _ = some (Value.int .i64 1) := Ka.out.cell 0
      replace Ka_1 : _ = some (Value.int .i64 2) := Ka.out.cell 1
      replace Ka_2 : _ = some (Value.slice (some ⟨wo.heap.size, 0, none⟩) 1 1) := Ka.out.cell 2
      have H13 : Hid (Below w.heap.size w w13) := stepB H12.out hb
      clear hb H12
      go_wp2_with fail
      have hb : Below w13.heap.size w13 (w13.alloc (.cells #[.int .i64 2] 3)) := (Below.refl _ _).alloc (Nat.le_refl _) _
      replace Va := Lib.hid (Va.out.later hb)
      replace Ka := Lib.hid (Ka.out.later hb)
      replace Ka_0 : _ = some (Value.int .i64 1) := Ka.out.cell 0
      replace Ka_1 : _ = some (Value.int .i64 2) := Ka.out.cell 1
      replace Ka_2 : _ = some (Value.slice (some ⟨wo.heap.size, 0, none⟩) 1 1) := Ka.out.cell 2
      have H14 : Hid (Below w.heap.size w (w13.alloc (.cells #[.int .i64 2] 3))) := stepB H13.out hb
      clear hb H13
      have Vc := Lib.hid (ints_lit w13 [2])
      refine (Same_any 1 2 1 2 (some ⟨wo.heap.size, 0, none⟩) (some ⟨w13.heap.size, 0, none⟩) 1 1 1 1 [1] [2] _ Va.out Vc.out (by omega) (by omega)).mono ?_
      rintro e w15 ⟨rfl, hb⟩
      rw [show sameV 1 2 [1] 1 2 [2] = false from by decide]
      clear Vc
      replace Va := Lib.hid (Va.out.later hb)
      replace Ka := Lib.hid (Ka.out.later hb)
      replace Ka_0 : _ = some (Value.int .i64 1) := Ka.out.cell 0
      replace Ka_1 : _ = some (Value.int .i64 2) := Ka.out.cell 1
      replace Ka_2 : _ = some (Value.slice (some ⟨wo.heap.size, 0, none⟩) 1 1) := Ka.out.cell 2
      have H15 : Hid (Below w.heap.size w w15) := stepB H14.out hb
      clear hb H14
      go_wp2_with fail
      have hb : Below w15.heap.size w15 (w15.alloc (.cells #[] 3)) := (Below.refl _ _).alloc (Nat.le_refl _) _
      replace Va := Lib.hid (Va.out.later hb)
      replace Ka := Lib.hid (Ka.out.later hb)
      replace Ka_0 : _ = some (Value.int .i64 1) := Ka.out.cell 0
      replace Ka_1 : _ = some (Value.int .i64 2) := Ka.out.cell 1
      replace Ka_2 : _ = some (Value.slice (some ⟨wo.heap.size, 0, none⟩) 1 1) := Ka.out.cell 2
      have H16 : Hid (Below w.heap.size w (w15.alloc (.cells #[] 3))) := stepB H15.out hb
      clear hb H15
      have Vc := Lib.hid (ints_lit w15 [])
      refine (Same_any 0 0 0 0 (some ⟨w15.heap.size, 0, none⟩) none 0 0 0 0 [] [] _ Vc.out (NIL _) (by omega) (by omega)).mono ?_
      rintro e w17 ⟨rfl, hb⟩
      rw [show sameV 0 0 [] 0 0 [] = true from by decide]
      clear Vc
      replace Va := Lib.hid (Va.out.later hb)
      replace Ka := Lib.hid (Ka.out.later hb)
      replace Ka_0 : _ = some (Value.int .i64 1) := Ka.out.cell 0
      replace Ka_1 : _ = some (Value.int .i64 2) := Ka.out.cell 1
      replace Ka_2 : _ = some (Value.slice (some ⟨wo.heap.size, 0, none⟩) 1 1) := Ka.out.cell 2
      have H17 : Hid (Below w.heap.size w w17) := stepB H16.out hb
      clear hb H16
      go_wp2_with fail
      refine (Sees_any 1 2 (some ⟨wo.heap.size, 0, none⟩) 1 1 [1] 1 _ Va.out (by omega)).mono ?_
      rintro e w18 ⟨rfl, hb⟩
      rw [show sees 1 2 [1] 1 = true from by decide]
      replace Va := Lib.hid (Va.out.later hb)
      replace Ka := Lib.hid (Ka.out.later hb)
      replace Ka_0 : _ = some (Value.int .i64 1) := Ka.out.cell 0
      replace Ka_1 : _ = some (Value.int .i64 2) := Ka.out.cell 1
      replace Ka_2 : _ = some (Value.slice (some ⟨wo.heap.size, 0, none⟩) 1 1) := Ka.out.cell 2
      have H18 : Hid (Below w.heap.size w w18) := stepB H17.out hb
      clear hb H17
      go_wp2_with fail
      go_ret
      exact ⟨rfl, H18.out⟩

theorem walk (w : World) : Calls Try.prog 3 #[] w fun e w' => e = .returned (.bool true) ∧ Below w.heap.size w w' := walk_in w


set_option maxRecDepth 100000 in
theorem lifted (os : Os) (started : os.Started) (H : Type) (enc : TypeId × Value → H) :
    ReturnsInHanded {} Try.checked os 3 .any (Rows.viewNamesSpec.pre6 enc Try.prog Try.f3 Rows.viewNamesRow.domain false) (Rows.viewNamesSpec.post enc Try.prog Try.f3 false true false false) := by
  refine returnsInHanded_of_change_sized (C := Try.checked) own started (by kernel_rfl) Try.func3
    (ChangeSpec.witness6 (enc := enc) (C := Try.checked) false ⟨#[], #[], []⟩ 8 (by kernel_rfl) (by kernel_rfl) (by kernel_rfl) (by kernel_rfl)) ?_
  intro W base args ds gs before hval0 hW _ hsz _
  have hval : ∀ (j : Nat) t v, Try.f3.params[j]? = some t → args[j]? = some v → Value.okWide Try.prog W .any base t v := hval0
  have hW' := hW
  obtain ⟨p, q, hA0, hV, hbef, _, _⟩ := hW
  have hA : DataW.TrodAll enc Try.prog W 0 (fun _ => true) true Try.f3.params.toList args.toList ds p := hA0
  rw [Try.params3] at hA hval
  obtain ⟨h1, rfl, rfl⟩ := trodAll_nil hA
  obtain rfl : args = #[] := by cases args; simp_all
  obtain ⟨rfl, rfl⟩ := trodVars_none hV

  refine (walk W).mono fun e W' ⟨he, hb⟩ => ?_
  subst he
  exact ⟨_, rfl, law_post laidOut (of_decide_eq_true (by kernel_rfl)) rfl Try.underlying4 rfl rfl hW' hb⟩

theorem over : Rows.viewNamesRow.holds Try.pinned (OpenSpec.ofChange Rows.viewNamesSpec) :=
  OpenClaim.holds_of_wide 3 Try.f3 rfl rfl rfl rfl rfl rfl rfl ⟨rfl, rfl, rfl, rfl, rfl⟩ rfl rfl rfl rfl rfl (by kernel_rfl) Try.func3 (by kernel_rfl)
    (of_decide_eq_true (by kernel_rfl)) (by unfold Func.isWrapper; first | (rw [if_pos (by decide +kernel)]; kernel_rfl) | (rw [if_neg (by decide +kernel)]; exact ⟨rfl, rfl⟩))
    (fun os started H enc _ => lifted os started H enc)

end Go.Proofs.Ythicofdbcldpaaa.viewNames
namespace Go.Proofs.Ythicofdbcldpaaa
theorem viewNames_holds : Rows.ViewNamesSaid := viewNames.over
end Go.Proofs.Ythicofdbcldpaaa
