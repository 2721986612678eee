/- The examples. -/
import Derived.Test.YteelhldioaaffaaJ
namespace Go.Proofs.Yteelhldioaaffaa
open Go.ChangeShapes Go.WideShapes Go.ChangeAt Go.RowKit
set_option linter.unusedVariables false
set_option linter.unusedSimpArgs false
theorem exs_vers {W W' : World} {g : Nat} (h : Blk W g (vsv exs).toArray 27) (hb : Below W.heap.size W W') (k : Nat) (hk : k ≤ 4) : Vers W'.heap.size W' (some ⟨g, 0, none⟩) k (exs.take k) := by
  have hv : Vers W.heap.size W (some ⟨g, 0, none⟩) 4 exs := ⟨rfl, fun _ => ⟨g, 0, rfl, h.lt, fun j hj => by
    have hc := h.cell
    rcases j with _ | _ | _ | _ | j
    · exact ⟨hc 0, hc 1, hc 2, hc 3⟩
    · exact ⟨hc 4, hc 5, hc 6, hc 7⟩
    · exact ⟨hc 8, hc 9, hc 10, hc 11⟩
    · exact ⟨hc 12, hc 13, hc 14, hc 15⟩
    · omega⟩⟩
  exact ((hv.below hb).mono hb.size).take hk
/-- what the examples' region keeps: the list's third, and the one that was seen -/
abbrev SA (w0 : World) (g B : Nat) (W : World) : Prop := Below w0.heap.size w0 W ∧
  W.cell? ⟨g, 8, none⟩ = some (.int .i64 2) ∧ W.cell? ⟨g, 9, none⟩ = some (.int .i64 4) ∧ W.cell? ⟨g, 10, none⟩ = some (.bool false) ∧ W.cell? ⟨g, 11, none⟩ = some (.string ⟨#[97]⟩) ∧
  W.cell? ⟨B, 0, none⟩ = some (.int .i64 2) ∧ W.cell? ⟨B, 1, none⟩ = some (.int .i64 4) ∧ W.cell? ⟨B, 2, none⟩ = some (.bool false) ∧ W.cell? ⟨B, 3, none⟩ = some (.string ⟨#[97]⟩)
theorem sa_of {w0 W : World} {g B : Nat} (hg : Blk w0 g (vsv exs).toArray 27) (hB : Blk w0 B (vcells ⟨2, 4, false, ⟨#[97]⟩⟩) 27) (h : Below w0.heap.size w0 W) : SA w0 g B W :=
  have a := (hg.below h hg.lt).cell
  have b := (hB.below h hB.lt).cell
  ⟨h, a 8, a 9, a 10, a 11, b 0, b 1, b 2, b 3⟩
theorem belowD {W W' : World} {d : Nat} (h : W' = W.drewN d) : Below W.heap.size W W' := by rw [h]; exact below_drewN (Below.refl _ _) d
set_option maxRecDepth 100000 in
set_option maxHeartbeats 4000000 in
theorem awake_any (w : World) : Calls Try.prog 9 #[] w fun e w' => e = .returned (.bool true) ∧ Below w.heap.size w w' := by
  have CS := Lib.hid (some_any w)
  go_enter Try.func9, Try.ntmps9
  go_wp2_with fail
  refine CS.out.mono ?_
  rintro e w1 ⟨g, rfl, hg, hblk, hb1⟩
  have Hg := Lib.hid hblk
  have Hb1 := Lib.hid hb1
  have Hg0 := Lib.hid hg
  clear hg hblk hb1 CS
  have C1 : Hid (∀ (s : Int) (v : Ver) (b : Bool) (W : World), seen exs s = v → seenB exs s = b → Below w1.heap.size w1 W → Calls Try.prog 12 #[.slice (some ⟨g, 0, none⟩) 4 4, .int .i64 s] W fun e w' => e = .returned (.tuple #[v.agg, .bool b]) ∧ Below W.heap.size W w') := fun s v b W h1 h2 h3 => by
    have := Seen_any (some ⟨g, 0, none⟩) 4 4 s exs W (by omega) (exs_vers Hg.out h3 4 (by omega))
    rw [h1, h2] at this; exact this
  go_wp2_with fail
  refine (C1.out 8 ver0 false _ rfl rfl (Below.refl _ _)).mono ?_
  rintro e w2 ⟨rfl, hb2⟩
  simp only [Ver.agg, ver0]
  have Hb2 := Lib.hid hb2
  clear hb2
  go_wp2_with fail
  refine (C1.out 5 ⟨2, 4, false, ⟨#[97]⟩⟩ true _ rfl rfl (Hb2.out.alloc Hb2.out.size _)).mono ?_
  rintro e w3 ⟨rfl, hb3⟩
  have hb3' : Below w1.heap.size w1 w3 := (Hb2.out.alloc Hb2.out.size _).trans (hb3.mono (by have := Hb2.out.size; simp; omega))
  have Hb3 := Lib.hid hb3'
  simp only [Ver.agg, ver0]
  clear hb3 hb3'
  go_wp2_with fail
  have hb3a := Hb3.out.alloc Hb3.out.size (.cells #[Value.int IntKind.i64 2, Value.int IntKind.i64 4, Value.bool false, Value.string ⟨#[97]⟩] 27)
  refine (C1.out 1 ver0 false _ rfl rfl hb3a).mono ?_
  rintro e w4 ⟨rfl, hb4⟩
  have hb4' : Below w1.heap.size w1 w4 := hb3a.trans (hb4.mono hb3a.size)
  have hB4 : Blk w4 w3.heap.size (vcells ⟨2, 4, false, ⟨#[97]⟩⟩) 27 := (Blk.new w3 _ 27).below hb4 (by simp)
  simp only [Ver.agg, ver0]
  clear hb4 hb3a C1
  have hg0 := Hg.out.lt
  have hB5 := hB4.alloc (.cells #[Value.int IntKind.i64 0, Value.int IntKind.i64 0, Value.bool false, Value.string ⟨#[]⟩] 27)
  have hG5 := ((Hg.out.below hb4' hg0).alloc (.cells #[Value.int IntKind.i64 0, Value.int IntKind.i64 0, Value.bool false, Value.string ⟨#[]⟩] 27))
  have hb5 := (hb4'.alloc hb4'.size (.cells #[Value.int IntKind.i64 0, Value.int IntKind.i64 0, Value.bool false, Value.string ⟨#[]⟩] 27))
  have hG := Lib.hid hG5
  have hBB := Lib.hid hB5
  have hbw := Lib.hid (Hb1.out.trans (hb5.mono Hb1.out.size))
  clear hb4' hB4 hB5 hG5 hb5 Hb2 Hb3 Hg Hb1
  go_wp2_with fail
  generalize w4.alloc (.cells #[Value.int IntKind.i64 0, Value.int IntKind.i64 0, Value.bool false, Value.string ⟨#[]⟩] 27) = W0 at *
  generalize w3.heap.size = B at *
  clear hg0
  have CK : Hid (∀ (f : Int) (k : Nat) (W : World), nkept exs f = k → SA W0 g B W → Calls Try.prog 13 #[.slice (some ⟨g, 0, none⟩) 4 4, .int .i64 f] W (KeptEnd (exs.take k) k W)) := fun f k W h1 h2 => by
    have := Kept_any (some ⟨g, 0, none⟩) 4 4 f exs W (by omega) (by omega) (exs_vers hG.out h2.1 4 (by omega))
    unfold kept at this
    rw [h1] at this; exact this
  have CE : Hid (∀ (k : Nat) (A' : Option Addr) (c c' : Nat) (W : World), k ≤ 4 → Vers W.heap.size W A' k (exs.take k) → SA W0 g B W → Calls Try.prog 15 #[.slice A' k c, .slice (some ⟨g, 0, none⟩) k c'] W fun e w' => e = .returned (.bool true) ∧ ∃ d, w' = W.drewN d) := fun k A' c c' W h1 h2 h3 => by
    have := rsame_any A' (some ⟨g, 0, none⟩) k k c c' (exs.take k) (exs.take k) W h2 (exs_vers hG.out h3.1 k h1) (by omega) (by omega)
    rw [sameB_yes.2 rfl] at this; exact this
  have CC : Hid (∀ (s : Int) (b : Bool) (W : World), clashB exs s = b → SA W0 g B W → Calls Try.prog 14 #[.slice (some ⟨g, 0, none⟩) 4 4, .int .i64 s] W fun e w' => e = .returned (.bool b) ∧ W = w') := fun s b W h1 h2 => by
    have := clash_any (some ⟨g, 0, none⟩) 4 4 exs s W (exs_vers hG.out h2.1 4 (by omega)) (by omega)
    rw [h1] at this; exact this
  have CL : Hid (∀ W, SA W0 g B W → Calls Try.prog 13 #[.slice (some ⟨g, 4, none⟩) 1 3, .int .i64 6] W (KeptEnd [] 0 W)) := fun W h => by
    have hv := (exs_vers hG.out h.1 4 (by omega)).2 (by omega)
    obtain ⟨g', off, e, hg', hc⟩ := hv
    cases e
    have h1 := hc 1 (by omega)
    have := Kept_any (some ⟨g, 4, none⟩) 1 3 6 [⟨3, 6, true, ⟨#[]⟩⟩] W (by omega) (by omega) ⟨rfl, fun _ => ⟨g, 4, rfl, hg', fun j hj => by
      obtain rfl : j = 0 := by omega
      exact h1⟩⟩
    exact this
  have KS : Hid (∀ W W2, Below W.heap.size W W2 → SA W0 g B W → SA W0 g B W2) := fun W W2 h2 h1 => sa_of hG.out hBB.out (stepB h1.1 h2)
  have KZ : Hid (∀ W, SA W0 g B W → Below w.heap.size w W) := fun W h => hbw.out.trans (h.1.mono hbw.out.size)
  have K0 : Hid (SA W0 g B W0.drew) := sa_of hG.out hBB.out (Below.drew (Below.refl _ _))
  go_region_held3 (SA W0 g B) (first | assumption | exact K0.out | exact KS.out _ _ (by assumption) (by assumption) | exact KS.out _ _ (below_drewN (Below.refl _ _) _) (by assumption)) (first
    | (go_at_call_of 13 (Value.int .i64 7); refine (CK.out 7 1 _ rfl (by assumption)).mono ?_; rintro e w2 ⟨A', rfl, hrow, hb⟩; have hv := vrow_vers hrow)
    | (go_at_call_of 13 (Value.int .i64 5); refine (CK.out 5 3 _ rfl (by assumption)).mono ?_; rintro e w2 ⟨A', rfl, hrow, hb⟩; have hv := vrow_vers hrow)
    | (go_at_call_of 13 (Value.int .i64 1); refine (CK.out 1 4 _ rfl (by assumption)).mono ?_; rintro e w2 ⟨A', rfl, hrow, hb⟩; have hv := vrow_vers hrow)
    | (go_at_call_of 13 (Value.int .i64 9); refine (CK.out 9 1 _ rfl (by assumption)).mono ?_; rintro e w2 ⟨A', rfl, hrow, hb⟩; have hv := vrow_vers hrow)
    | (go_at_call_of 13 (Value.int .i64 6); refine (CL.out _ (by assumption)).mono ?_; rintro e w2 ⟨A', rfl, hrow, hb⟩)
    | (go_at_call_of 14 (Value.int .i64 8); refine (CC.out 8 true _ rfl (by assumption)).mono ?_; rintro e _ ⟨rfl, rfl⟩)
    | (go_at_call_of 14 (Value.int .i64 9); refine (CC.out 9 false _ rfl (by assumption)).mono ?_; rintro e _ ⟨rfl, rfl⟩)
    | (go_at_call_of 15 (Value.slice (some ⟨g, 0, none⟩) 1 4); refine (CE.out 1 _ _ _ _ (by decide) (by assumption) (by assumption)).mono ?_; rintro e w2 ⟨rfl, d, hd⟩; have hd := belowD hd)
    | (go_at_call_of 15 (Value.slice (some ⟨g, 0, none⟩) 3 4); refine (CE.out 3 _ _ _ _ (by decide) (by assumption) (by assumption)).mono ?_; rintro e w2 ⟨rfl, d, hd⟩; have hd := belowD hd)
    | (go_at_call_of 15 (Value.slice (some ⟨g, 0, none⟩) 4 4); refine (CE.out 4 _ _ _ _ (by decide) (by assumption) (by assumption)).mono ?_; rintro e w2 ⟨rfl, d, hd⟩; have hd := belowD hd))
  all_goals (
    have hz := KZ.out _ (by assumption)
    have Hz := Lib.hid hz
    clear hz
    go_wp2
    go_ret
    exact ⟨rfl, Hz.out⟩)
end Go.Proofs.Yteelhldioaaffaa
