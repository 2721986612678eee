/- Package view's Copy. -/
import Derived.Test.YthicofdbcldpaaaI
namespace Go.Proofs.Ythicofdbcldpaaa
open Go.ChangeShapes Go.WideShapes Go.ChangeAt Go.RowKit Go.Shelf Go.Sort Go.Lib
set_option linter.unusedVariables false
set_option linter.unusedSimpArgs false
theorem Blk.alloc {W : World} {B : Nat} {c : Array Value} {t : TypeId} (h : Blk W B c t) (o : Obj) : Blk (W.alloc o) B c t := h.later ((Below.refl _ _).alloc (Nat.le_refl _) _)
def CloneEnd (n : Nat) (xs : List Int) (w : World) (e : Ending) (w' : World) : Prop := ∃ A c, e = .returned (.slice A n c) ∧ OwnL w' w.heap.size (.slice A n c) n xs ∧ Below w.heap.size w w'
theorem clone_any (A : Option Addr) (n c : Nat) (xs : List Int) (w : World) (hs : Sl w.heap.size w A n c xs) (hn : n ≤ 1000000) :
    Calls Try.prog 24 #[.slice A n c] w (CloneEnd n xs w) := by
  cases A with
  | none =>
    obtain ⟨rfl, rfl⟩ := hs.nil rfl
    refine (Try.slices_Clone_int_nil 0 0 w).mono ?_
    rintro e w' ⟨rfl, rfl⟩
    have hx : xs = [] := List.eq_nil_of_length_eq_zero hs.ints.1
    exact ⟨none, 0, rfl, by rw [hx]; exact World.ownsRow_nil _ _ _ _, Below.refl _ _⟩
  | some a =>
    by_cases h0 : 0 < n
    · obtain ⟨g, off, hA, hg, hc⟩ := hs.ints.2 h0
      cases hA
      refine (Try.slices_Clone_int g off n c xs w (by rw [hs.ints.1]; exact Nat.le_refl _) (by omega) (fun j hj => hc j (by rw [hs.ints.1] at hj; exact hj))).mono ?_
      rintro e w' ⟨v', rfl, hown, _, hb⟩
      rw [List.take_of_length_le (by rw [hs.ints.1]; exact Nat.le_refl _)] at hown
      obtain ⟨A2, c2, rfl, hS⟩ := own_sl hown
      exact ⟨A2, c2, rfl, hown, hb⟩
    · obtain rfl : n = 0 := by omega
      have hx : xs = [] := List.eq_nil_of_length_eq_zero hs.ints.1
      refine (Try.slices_Clone_int_zero a c w).mono ?_
      rintro e w' ⟨v', rfl, hown, _, hb⟩
      have hown' : w'.ownsRow w.heap.size 3 1 v' 0 (xs.map (Value.int .i64)) := by rw [hx]; exact hown
      obtain ⟨A2, c2, rfl, hS⟩ := own_sl hown'
      exact ⟨A2, c2, rfl, hown', hb⟩
def CopyEnd (own high : Int) (n : Nat) (xs : List Int) (w : World) (e : Ending) (w' : World) : Prop :=
  ∃ A c, e = .returned (.agg #[.int .i64 own, .int .i64 high, .slice A n c]) ∧ OwnL w' w.heap.size (.slice A n c) n xs ∧ Below w.heap.size w w'
set_option maxRecDepth 100000 in
set_option maxHeartbeats 2000000 in
theorem Copy_any (own high : Int) (A : Option Addr) (n c : Nat) (xs : List Int) (w : World) (hs : Sl w.heap.size w A n c xs) (hn : n ≤ 1000000) :
    Calls Try.prog 13 #[.agg #[.int .i64 own, .int .i64 high, .slice A n c]] w (CopyEnd own high n xs w) := by
  have b0 : Below w.heap.size w ((w.alloc (.cells #[.int .i64 own, .int .i64 high, .slice A n c] 25)).alloc (.cells #[.int .i64 0, .int .i64 0, .slice none 0 0] 25)) := ((Below.refl _ _).alloc (Nat.le_refl _) _).alloc (by simp) _
  have S1 := Lib.hid (⟨hs.ints.later b0, hs.le, hs.nil⟩ : Sl _ _ A n c xs)
  have K := Lib.hid ((Blk.new w #[.int .i64 own, .int .i64 high, .slice A n c] 25).alloc (.cells #[.int .i64 0, .int .i64 0, .slice none 0 0] 25))
  have R : Hid (Blk ((w.alloc (.cells #[.int .i64 own, .int .i64 high, .slice A n c] 25)).alloc (.cells #[.int .i64 0, .int .i64 0, .slice none 0 0] 25)) (w.heap.size + 1) #[.int .i64 0, .int .i64 0, .slice none 0 0] 25) := by
    have := Blk.new (w.alloc (.cells #[.int .i64 own, .int .i64 high, .slice A n c] 25)) #[.int .i64 0, .int .i64 0, .slice none 0 0] 25
    rw [World.size_alloc] at this; exact this
  have B0 := Lib.hid b0
  clear b0 hs
  have z0 : w.heap.size < w.heap.size + 1 := by omega
  go_enter Try.func13, Try.ntmps13
  go_wp2_with fail
  refine (clone_any A n c xs _ S1.out hn).mono ?_
  rintro e w2 ⟨A2, c2, rfl, hown, hb⟩
  have hsz := hb.size
  simp only [World.size_alloc] at hsz
  have K2 := Lib.hid (K.out.later hb)
  have R2 := Lib.hid (R.out.later hb)
  have k0 : w2.cell? ⟨w.heap.size, 0, none⟩ = some (.int .i64 own) := K2.out.cell 0
  have k1 : w2.cell? ⟨w.heap.size, 1, none⟩ = some (.int .i64 high) := K2.out.cell 1
  have k2 : w2.cell? ⟨w.heap.size, 2, none⟩ = some (.slice A n c) := K2.out.cell 2
  have f2 : w2.frozen? ⟨w.heap.size, 2, none⟩ = false := K2.out.frozen 2
  have r0 : w2.cell? ⟨w.heap.size + 1, 0, none⟩ = some (.int .i64 0) := R2.out.cell 0
  have r1 : w2.cell? ⟨w.heap.size + 1, 1, none⟩ = some (.int .i64 0) := R2.out.cell 1
  have r2 : w2.cell? ⟨w.heap.size + 1, 2, none⟩ = some (.slice none 0 0) := R2.out.cell 2
  have g0 : w2.frozen? ⟨w.heap.size + 1, 0, none⟩ = false := R2.out.frozen 0
  have g1 : w2.frozen? ⟨w.heap.size + 1, 1, none⟩ = false := R2.out.frozen 1
  have g2 : w2.frozen? ⟨w.heap.size + 1, 2, none⟩ = false := R2.out.frozen 2
  have HO : Hid (OwnL w2 (w.heap.size + 2) (.slice A2 n c2) n xs) := World.ownsRow.base_mono hown (by simp)
  have HB := Lib.hid (B0.out.trans (hb.mono (by simp; omega)))
  clear hb hown K R B0 S1
  have HO2 : Hid (OwnL ((((w2.setCell ⟨w.heap.size, 2, none⟩ (.slice A2 n c2)).setCell ⟨w.heap.size + 1, 0, none⟩ (.int .i64 own)).setCell ⟨w.heap.size + 1, 1, none⟩ (.int .i64 high)).setCell ⟨w.heap.size + 1, 2, none⟩ (.slice A2 n c2)) w.heap.size (.slice A2 n c2) n xs) :=
    World.ownsRow.base_mono (own_setv (own_setv (own_setv (own_setv HO.out (by omega) _ _) (by omega) _ _) (by omega) _ _) (by omega) _ _) (by omega)
  have HB2 := Lib.hid ((((HB.out.setCell (p := ⟨w.heap.size, 2, none⟩) (by simp) (.slice A2 n c2)).setCell (p := ⟨w.heap.size + 1, 0, none⟩) (by simp) (.int .i64 own)).setCell (p := ⟨w.heap.size + 1, 1, none⟩) (by simp) (.int .i64 high)).setCell (p := ⟨w.heap.size + 1, 2, none⟩) (by simp) (.slice A2 n c2))
  go_wp2
  refine bodyPost_ret (v := .agg #[.int .i64 own, .int .i64 high, .slice A2 n c2]) (by simp [results, Try.results13, go_sem, k0, k1, k2, r0, r1, r2]) rfl ?_
  exact ⟨A2, c2, rfl, HO2.out, HB2.out⟩
end Go.Proofs.Ythicofdbcldpaaa
