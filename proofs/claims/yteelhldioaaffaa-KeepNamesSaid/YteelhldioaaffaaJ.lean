/- The laws' own lists. -/
import Derived.Test.YteelhldioaaffaaI
import Derived.Laws.AppendOwnNone
import Derived.Laws.MakeOwn
namespace Go.Proofs.Yteelhldioaaffaa
open Go.ChangeShapes Go.WideShapes Go.ChangeAt Go.RowKit
set_option linter.unusedVariables false
set_option linter.unusedSimpArgs false
def exs : List Ver := [⟨4, 9, false, ⟨#[98]⟩⟩, ⟨3, 6, true, ⟨#[]⟩⟩, ⟨2, 4, false, ⟨#[97]⟩⟩, ⟨1, 2, false, ⟨#[99]⟩⟩]
def SomeEnd (w : World) (e : Ending) (w' : World) : Prop := ∃ g, e = .returned (.slice (some ⟨g, 0, none⟩) 4 4) ∧ w.heap.size ≤ g ∧ Blk w' g (vsv exs).toArray 27 ∧ Below w.heap.size w w'
set_option maxRecDepth 100000 in
theorem some_any (w : World) : Calls Try.prog 11 #[] w (SomeEnd w) := by
  go_enter Try.func11, Try.ntmps11
  go_wp2
  go_ret
  exact ⟨w.heap.size, rfl, Nat.le_refl _, Blk.new w (vsv exs).toArray 27, (Below.refl _ w).alloc (Nat.le_refl _) _⟩
theorem below_of_grownN {w w' : World} (h : w.grownBy w' none) : Below w.heap.size w w' := (Below.refl _ w).grown h (Nat.le_refl _) (fun j e => by cases e)
set_option maxRecDepth 100000 in
set_option maxHeartbeats 2000000 in
theorem own_any (A : Option Addr) (n c : Nat) (vs : List Ver) (w : World) (hn : n ≤ 100000) (hs : Vers w.heap.size w A n vs) (h0 : A = none → n = 0 ∧ c = 0) :
    Calls Try.prog 17 #[.slice A n c] w (CloneEnd vs n w) := by
  have Hs := Lib.hid hs
  obtain ⟨i0, hi, hz0, hz1, hz2⟩ := info_parts v27info
  have wr1 : IntKind.i64.wrap ((n : Int) + 3) = (n : Int) + 3 := IntWalk.i64_in _ (by omega)
  obtain ⟨w1, hrun, hown, hgrow⟩ := run_make_own (P := Try.prog) w w.heap.size 24 27 i0 _ 4 Try.underlying24 hi hz0 hz1 .i64 .i64 (n + 3) (by rw [hz2]; omega) (by unfold maxLen; omega) (Nat.le_refl _)
  rw [show ((n + 3 : Nat) : Int) = (n : Int) + 3 from by omega] at hrun
  have hb1 : Below w.heap.size w w1 := below_of_grownN hgrow
  have Hv := Lib.hid (hs.below hb1)
  clear hs hgrow
  have hbs := hb1.size
  have Hb1 := Lib.hid hb1
  clear hb1
  go_enter Try.func17, Try.ntmps17
  cases A with
  | none =>
    obtain ⟨rfl, rfl⟩ := h0 rfl
    rw [show (((0 : Nat) : Int) + 3) = 3 from rfl, show 0 + 3 = 3 from rfl] at hrun
    clear wr1
    have hv : Hid (vs = []) := List.eq_nil_of_length_eq_zero Hs.out.1
    go_wp2_with (at_builtin; refine wpList_append_own_none rfl _ _ 24 rfl w.heap.size 27 i0 4 Try.underlying24 hi _ 0 [] rfl hown rfl ?_)
    have hst : VRow w1 w.heap.size (some ⟨w.heap.size, 0, none⟩) 0 [] := by
      obtain ⟨A', c', e, hc, h⟩ := own_vrow (vs := []) hown
      cases e; exact h
    go_wp2
    go_ret
    exact ⟨_, 3, rfl, Nat.zero_le _, by rw [hv.out]; exact hst, Hb1.out⟩
  | some a =>
    have Hc : Hid (∀ i u, (vsv vs)[i]? = some u → w1.cell? (a.add i) = some u) := by
      by_cases h0 : 0 < n
      · obtain ⟨g, off, e, hg, hc⟩ := Hv.out.2 h0
        cases e
        exact vers_cells Hs.out.1 hc
      · have hv : vs = [] := List.eq_nil_of_length_eq_zero (by have := Hs.out.1; omega)
        intro i u hu
        rw [hv] at hu; simp [vsv] at hu
    have Hl : Hid ((vsv vs).length = n * 4) := by show _ = _; rw [vsv_len, Hs.out.1]
    go_wp2_with (at_builtin; refine wpList_append_own _ rfl _ _ 24 rfl w.heap.size 27 i0 _ 4 40 Try.underlying24 hi hz0 hz1 hz2 rfl (by decide) _ 0 [] rfl hown a n c (vsv vs) rfl Hl.out Hc.out (vsv_one vs) (by unfold maxLen; omega) (by omega) (by omega) ?_; intro v' w3 hown' hgrow3 hnil3)
    simp only [Nat.zero_add, List.nil_append] at hown'
    obtain ⟨A', c', rfl, hc', hrow⟩ := own_vrow hown'
    have hb : Below w.heap.size w w3 := Hb1.out.grown hgrow3 (by omega) (fun j e => (World.ownsRow.lt hown j e).1)
    clear hown' hgrow3 hnil3
    go_wp2
    go_ret
    exact ⟨A', c', rfl, hc', hrow, hb⟩
end Go.Proofs.Yteelhldioaaffaa
