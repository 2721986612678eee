/-
The examples; lists that may not be; lists of nothing; numbers at the ends.
-/
import Derived.Test.YteelhldioaaffaaT
namespace Go.Proofs.Yteelhldioaaffaa.keepNames
open Go.ChangeShapes Go.WideShapes Go.ChangeAt Go.RowKit
set_option linter.unusedVariables false

theorem own : ownKnob Try.prog.godebug = none := by kernel_rfl
theorem laidOut : laidOutB Try.prog = true := by kernel_rfl

theorem blk_new2 {B : Nat} (W : World) (c : Array Value) (t : TypeId) (hB : W.heap.size = B) : Blk (W.alloc (.cells c t)) B c t := by subst hB; exact Blk.new W c t
theorem blk_drew {W : World} {B : Nat} {c : Array Value} {t : TypeId} (h : Blk W B c t) : Blk W.drew B c t := h
theorem blk_drewN {W : World} {B n : Nat} {c : Array Value} {t : TypeId} (h : Blk W B c t) : Blk (W.drewN n) B c t := h
abbrev C4 (W : World) (g : Nat) (a b : Int) (s : ByteArray) : Prop := W.cell? ⟨g, 0, none⟩ = some (.int .i64 a) ∧ W.cell? ⟨g, 1, none⟩ = some (.int .i64 b) ∧ W.cell? ⟨g, 2, none⟩ = some (.bool false) ∧ W.cell? ⟨g, 3, none⟩ = some (.string s)
abbrev SN (W0 : World) (g B1 Bo Bd : Nat) (W : World) : Prop := Below W0.heap.size W0 W ∧ C4 W g 4 9 ⟨#[98]⟩ ∧ C4 W B1 4 9 ⟨#[98]⟩ ∧ C4 W Bo 0 3 ⟨#[120]⟩ ∧ C4 W Bd 0 3 ⟨#[120]⟩
theorem sn_of {W0 W : World} {g B1 Bo Bd : Nat} (hG : Blk W0 g (vsv exs).toArray 27) (h1 : Blk W0 B1 #[.int .i64 4, .int .i64 9, .bool false, .string ⟨#[98]⟩] 27) (hO : Blk W0 Bo (vsv odd).toArray 27) (hD : Blk W0 Bd #[.int .i64 0, .int .i64 3, .bool false, .string ⟨#[120]⟩] 27) (h : Below W0.heap.size W0 W) : SN W0 g B1 Bo Bd W :=
  have a := (hG.below h hG.lt).cell
  have b := (h1.below h h1.lt).cell
  have c := (hO.below h hO.lt).cell
  have d := (hD.below h hD.lt).cell
  ⟨h, ⟨a 0, a 1, a 2, a 3⟩, ⟨b 0, b 1, b 2, b 3⟩, ⟨c 0, c 1, c 2, c 3⟩, ⟨d 0, d 1, d 2, d 3⟩⟩
theorem belowD {W W' : World} {d : Nat} (h : W' = W.drewN d) : Below W.heap.size W W' := by rw [h]; exact below_drewN (Below.refl _ _) d
set_option maxRecDepth 100000 in
set_option maxHeartbeats 8000000 in
theorem walk_in (w : World) : Calls Try.prog 3 #[] w fun e w' => e = .returned (.bool true) ∧ Below w.heap.size w w' := by
  go_enter Try.func3, Try.ntmps3
  go_wp2_with fail
  refine (awake_any _).mono ?_
  rintro e w1 ⟨rfl, hb1⟩
  have H1 := Lib.hid hb1
  clear hb1
  go_wp2_with fail
  refine (some_any _).mono ?_
  rintro e w2 ⟨g0, rfl, hg0, hk0, hb2⟩
  have H2 := Lib.hid (stepB H1.out hb2)
  have V0 := Lib.hid (exs_vers hk0 (Below.refl _ _) 4 (by omega))
  clear hk0 hb2 H1 hg0
  go_wp2_with fail
  refine (legal_any (some ⟨g0, 0, none⟩) 4 4 (exs.take 4) _ V0.out (by omega)).mono ?_
  rintro e w3 ⟨rfl, hb3⟩
  rw [show legalB (exs.take 4) = true from rfl]
  have H3 := Lib.hid (stepB H2.out hb3)
  clear hb3 H2 V0
  go_wp2_with fail
  refine (legal_any none 0 0 [] _ ⟨rfl, fun h => by omega⟩ (by omega)).mono ?_
  rintro e w5 ⟨rfl, hb4⟩
  rw [show legalB [] = true from rfl]
  have H5 := Lib.hid (stepB H3.out hb4)
  clear hb4 H3
  go_wp2
  go_loopw [38] (fun i wr => ∃ (k : Nat), k ≤ 5 ∧ i = .int .i64 k ∧ Below (litW w5).heap.size (litW w5) wr) (fun i _ => 5 - (intOf i).toNat)
  case atStart => exact ⟨0, by omega, rfl, Below.refl _ _⟩
  case round =>
    obtain ⟨k, hk, rfl, hb⟩ := hrel
    have Hb := Lib.hid hb
    clear hb
    by_cases hlt : k < 5
    · obtain ⟨g, n, vs, hcell, hn, hv, hl⟩ := lit_at w5 wr Hb.out k hlt
      have C1 := Lib.hid (legal_any (some ⟨g, 0, none⟩) n n vs wr hv hn)
      have HL := Lib.hid hl
      have hi1 : (k : Int) < 5 := by omega
      have hx : ∀ W, (Instr.indexAt 28 (.slice (some ⟨w5.heap.size + 1 + 1 + 1 + 1 + 1, 0, none⟩) 5 5) (.int .i64 (k : Int))).run Try.prog W = .ok (.pointer (some ⟨w5.heap.size + 1 + 1 + 1 + 1 + 1, k, none⟩)) W := fun W => by
        have h1 : (0 : Int) ≤ (k : Int) ∧ (k : Int) < 5 := by omega
        go_simp
      clear hv hl
      go_wp2_with fail
      refine (C1.out).mono ?_
      rintro e w6 ⟨rfl, hb6⟩
      rw [HL.out]
      have Hb6 := Lib.hid (stepB Hb.out hb6)
      clear hb6 C1 HL hcell Hb
      go_wp2
      go_roundw
      case rel => exact ⟨k + 1, by omega, by go_num, Hb6.out⟩
      case measure => simp [intOf]; omega
    · have hk5 : ¬ (k : Int) < 5 := by omega
      have hb5 : Below w5.heap.size w5 wr := (litW_below w5).trans (Hb.out.mono (litW_below w5).size)
      have H6 := Lib.hid (stepB H5.out hb5)
      clear hb5 Hb H5
      go_wp2_with fail
      refine (Seen_any none 0 0 9223372036854775807 [] _ (by omega) ⟨rfl, fun h => by omega⟩).mono ?_
      rintro e w7 ⟨rfl, hb7⟩
      rw [show seen [] 9223372036854775807 = ver0 from rfl, show seenB [] 9223372036854775807 = false from rfl]
      simp only [Ver.agg, ver0]
      have hb7b := stepB H6.out hb7
      have H7 := Lib.hid (hb7b.alloc hb7b.size (.cells #[Value.int .i64 0, Value.int .i64 0, Value.bool false, Value.string ⟨#[]⟩] 27))
      clear hb7 hb7b H6
      go_wp2_with fail
      refine (some_any _).mono ?_
      rintro e w8 ⟨g1, rfl, hg1, hk1, hb8⟩
      have H8 := Lib.hid (stepB H7.out hb8)
      have C2 := Lib.hid (Seen_any (some ⟨g1, 0, none⟩) 4 4 9223372036854775807 (exs.take 4) _ (by omega) (exs_vers hk1 (Below.refl _ _) 4 (by omega)))
      clear hb8 H7 hg1 hk1
      go_wp2_with fail
      refine (C2.out).mono ?_
      rintro e w9 ⟨rfl, hb9⟩
      rw [show seen (exs.take 4) 9223372036854775807 = ⟨4, 9, false, ⟨#[98]⟩⟩ from rfl, show seenB (exs.take 4) 9223372036854775807 = true from rfl]
      simp only [Ver.agg]
      have hb9b := stepB H8.out hb9
      have H9 := Lib.hid (hb9b.alloc hb9b.size (.cells #[Value.int .i64 4, Value.int .i64 9, Value.bool false, Value.string ⟨#[98]⟩] 27))
      have B1 := Lib.hid (Blk.new w9 (vcells ⟨4, 9, false, ⟨#[98]⟩⟩) 27)
      clear hb9 hb9b H8 C2
      go_wp2_with fail
      refine (some_any _).mono ?_
      rintro e w10 ⟨g, rfl, hg, hkg, hb10⟩
      have H10 := Lib.hid (stepB H9.out hb10)
      have B1' : Hid (Blk w10 w9.heap.size (vcells ⟨4, 9, false, ⟨#[98]⟩⟩) 27) := B1.out.below hb10 B1.out.lt
      have hG := Lib.hid (hkg.alloc (.cells (vsv odd).toArray 27))
      have hBB := Lib.hid (B1'.out.alloc (.cells (vsv odd).toArray 27))
      have H11 := Lib.hid (H10.out.alloc H10.out.size (.cells (vsv odd).toArray 27))
      have hO := Lib.hid (Blk.new w10 (vsv odd).toArray 27)
      have C3 := Lib.hid (Seen_any (some ⟨w10.heap.size, 0, none⟩) 2 2 5 odd _ (by omega) (blk_vers hO.out rfl))
      clear hb10 hg hkg B1 B1' H9 H10
      go_wp2_with fail
      refine (C3.out).mono ?_
      rintro e w11 ⟨rfl, hb11⟩
      rw [show seen odd 5 = ⟨0, 3, false, ⟨#[120]⟩⟩ from rfl, show seenB odd 5 = true from rfl]
      simp only [Ver.agg]
      have H12 := Lib.hid (stepB H11.out hb11)
      have hG2 := Lib.hid ((hG.out.below hb11 hG.out.lt).alloc (.cells (vcells ⟨0, 3, false, ⟨#[120]⟩⟩) 27))
      have hBB2 := Lib.hid ((hBB.out.below hb11 hBB.out.lt).alloc (.cells (vcells ⟨0, 3, false, ⟨#[120]⟩⟩) 27))
      have hO2 := Lib.hid ((hO.out.below hb11 hO.out.lt).alloc (.cells (vcells ⟨0, 3, false, ⟨#[120]⟩⟩) 27))
      have hD := Lib.hid (Blk.new w11 (vcells ⟨0, 3, false, ⟨#[120]⟩⟩) 27)
      have H13 := Lib.hid (H12.out.alloc H12.out.size (.cells (vcells ⟨0, 3, false, ⟨#[120]⟩⟩) 27))
      clear hb11 hG hBB hO H11 H12 C3
      simp only [vcells] at hG2 hBB2 hO2 hD H13
      go_wp2_with fail
      generalize w11.alloc (.cells #[Value.int .i64 0, Value.int .i64 3, Value.bool false, Value.string ⟨#[120]⟩] 27) = W0 at *
      generalize w9.heap.size = B1 at *
      generalize w10.heap.size = Bo at *
      generalize w11.heap.size = Bd at *
      have KS : Hid (∀ W W2, Below W.heap.size W W2 → SN W0 g B1 Bo Bd W → SN W0 g B1 Bo Bd W2) := fun W W2 h2 h1 => sn_of hG2.out hBB2.out hO2.out hD.out (stepB h1.1 h2)
      have KD : Hid (∀ (W : World) (a b : Nat), SN W0 g B1 Bo Bd (W.drewN a) → SN W0 g B1 Bo Bd (W.drewN (a + b))) := fun W a b h => KS.out (W.drewN a) _ ⟨rfl, rfl, rfl, Nat.le_refl _, fun _ _ => rfl⟩ h
      have K0 : Hid (SN W0 g B1 Bo Bd W0.drew) := sn_of hG2.out hBB2.out hO2.out hD.out (Below.drew (Below.refl _ _))
      have KZ : Hid (∀ W, SN W0 g B1 Bo Bd W → Below w.heap.size w W) := fun W h => H13.out.trans (h.1.mono H13.out.size)
      have VG : Hid (∀ (k : Nat) (W : World), k ≤ 4 → SN W0 g B1 Bo Bd W → Vers W.heap.size W (some ⟨g, 0, none⟩) k (exs.take k)) := fun k W hk h => exs_vers hG2.out h.1 k hk
      have VO : Hid (∀ (k : Nat) (W : World), k ≤ 2 → SN W0 g B1 Bo Bd W → Vers W.heap.size W (some ⟨Bo, 0, none⟩) k (odd.take k)) := fun k W hk h => (((blk_vers (n := 2) hO2.out rfl).below h.1).mono h.1.size).take hk
      have KN : Hid (∀ W, SN W0 g B1 Bo Bd W → Calls Try.prog 13 #[.slice none 0 0, .int .i64 5] W (KeptEnd [] 0 W)) := fun W h => Kept_any none 0 0 5 [] W (by omega) (by omega) ⟨rfl, fun h => by omega⟩
      have KO : Hid (∀ (f : Int) (k : Nat) (W : World), nkept odd f = k → SN W0 g B1 Bo Bd W → Calls Try.prog 13 #[.slice (some ⟨Bo, 0, none⟩) 2 2, .int .i64 f] W (KeptEnd (odd.take k) k W)) := fun f k W h1 h2 => by
        have := Kept_any (some ⟨Bo, 0, none⟩) 2 2 f odd W (by omega) (by omega) (VO.out 2 W (by omega) h2)
        unfold kept at this
        rw [h1] at this; exact this
      have KL : Hid (∀ W, SN W0 g B1 Bo Bd W → Calls Try.prog 13 #[.slice (some ⟨g, 0, none⟩) 4 4, .int .i64 (-9223372036854775808)] W (KeptEnd (exs.take 4) 4 W)) := fun W h => by
        have := Kept_any (some ⟨g, 0, none⟩) 4 4 (-9223372036854775808) exs W (by omega) (by omega) (VG.out 4 W (by omega) h)
        exact this
      have CN : Hid (∀ W, SN W0 g B1 Bo Bd W → Calls Try.prog 14 #[.slice none 0 0, .int .i64 (-5)] W fun e w' => e = .returned (.bool false) ∧ W = w') := fun W h => clash_any none 0 0 [] (-5) W ⟨rfl, fun h => by omega⟩ (by omega)
      have CC : Hid (∀ (s : Int) (b : Bool) (W : World), clashB exs s = b → SN W0 g B1 Bo Bd W → Calls Try.prog 14 #[.slice (some ⟨g, 0, none⟩) 4 4, .int .i64 s] W fun e w' => e = .returned (.bool b) ∧ W = w') := fun s b W h1 h2 => by
        have := clash_any (some ⟨g, 0, none⟩) 4 4 exs s W (VG.out 4 W (by omega) h2) (by omega)
        rw [h1] at this; exact this
      have EO : Hid (∀ (k : Nat) (A' : Option Addr) (c c' : Nat) (W : World), k ≤ 2 → Vers W.heap.size W A' k (odd.take k) → SN W0 g B1 Bo Bd W → Calls Try.prog 15 #[.slice A' k c, .slice (some ⟨Bo, 0, none⟩) k c'] W fun e w' => e = .returned (.bool true) ∧ ∃ d, w' = W.drewN d) := fun k A' c c' W h1 h2 h3 => by
        have := rsame_any A' (some ⟨Bo, 0, none⟩) k k c c' (odd.take k) (odd.take k) W h2 (VO.out k W h1 h3) (by omega) (by omega)
        rw [sameB_yes.2 rfl] at this; exact this
      have EL : Hid (∀ (A' : Option Addr) (c c' : Nat) (W : World), Vers W.heap.size W A' 4 (exs.take 4) → SN W0 g B1 Bo Bd W → Calls Try.prog 15 #[.slice A' 4 c, .slice (some ⟨g, 0, none⟩) 4 c'] W fun e w' => e = .returned (.bool true) ∧ ∃ d, w' = W.drewN d) := fun A' c c' W h2 h3 => by
        have := rsame_any A' (some ⟨g, 0, none⟩) 4 4 c c' (exs.take 4) (exs.take 4) W h2 (VG.out 4 W (by omega) h3) (by omega) (by omega)
        rw [sameB_yes.2 rfl] at this; exact this
      have F3 : Hid (∀ W, SN W0 g B1 Bo Bd W → Calls Try.prog 16 #[.slice (some ⟨g, 0, none⟩) 4 4, .slice (some ⟨g, 0, none⟩) 3 4] W fun e w' => e = .returned (.bool false) ∧ ∃ d, w' = W.drewN d) := fun W h => same_any (some ⟨g, 0, none⟩) (some ⟨g, 0, none⟩) 4 3 4 4 (exs.take 4) (exs.take 3) W (VG.out 4 W (by omega) h) (VG.out 3 W (by omega) h) (by omega) (by omega)
      have F1 : Hid (∀ (a : Int) (s : ByteArray) (W : World) (b : Nat), SN W0 g B1 Bo Bd W → Blk W b #[.int .i64 a, .int .i64 9, .bool false, .string s] 27 → sameB (exs.take 1) [⟨a, 9, false, s⟩] = false → Calls Try.prog 16 #[.slice (some ⟨g, 0, none⟩) 1 4, .slice (some ⟨b, 0, none⟩) 1 1] W fun e w' => e = .returned (.bool false) ∧ ∃ d, w' = W.drewN d) := fun a s W b h hb0 hs => by
        have hb : Blk W b (vsv [⟨a, 9, false, s⟩]).toArray 27 := hb0
        have := same_any (some ⟨g, 0, none⟩) (some ⟨b, 0, none⟩) 1 1 4 1 (exs.take 1) [⟨a, 9, false, s⟩] _ (VG.out 1 _ (by omega) h) (blk_vers hb rfl) (by omega) (by omega)
        rw [hs] at this; exact this
      clear hG2 hBB2 hO2 hD VG VO H13
      have N1 : Hid (sameB (exs.take 1) [⟨4, 9, false, ⟨#[99]⟩⟩] = false) := rfl
      have N2 : Hid (sameB (exs.take 1) [⟨5, 9, false, ⟨#[98]⟩⟩] = false) := rfl
      simp only [List.append]
      go_region_held3 (SN W0 g B1 Bo Bd) (first | with_reducible assumption | assumption | exact K0.out | exact KS.out _ _ (by assumption) (by assumption) | exact KS.out _ _ (below_drewN (Below.refl _ _) _) (by assumption) | exact KS.out _ _ ((Below.refl _ _).alloc (Nat.le_refl _) _) (by assumption) | exact KD.out _ _ _ (by assumption)) (first
        | (go_at_call_of 13 (Value.slice none 0 0); refine (KN.out _ (by assumption)).mono ?_; rintro e w2 ⟨A', rfl, hrow, hb⟩)
        | (go_at_call_of 13 (Value.int .i64 5); refine (KO.out 5 1 _ rfl (by assumption)).mono ?_; rintro e w2 ⟨A', rfl, hrow, hb⟩; have hv := vrow_vers hrow)
        | (go_at_call_of 13 (Value.int .i64 2); refine (KO.out 2 2 _ rfl (by assumption)).mono ?_; rintro e w2 ⟨A', rfl, hrow, hb⟩; have hv := vrow_vers hrow)
        | (go_at_call 13; refine (KL.out _ (by assumption)).mono ?_; rintro e w2 ⟨A', rfl, hrow, hb⟩; have hv := vrow_vers hrow)
        | (go_at_call_of 14 (Value.slice none 0 0); refine (CN.out _ (by assumption)).mono ?_; rintro e _ ⟨rfl, rfl⟩)
        | (go_at_call_of 14 (Value.int .i64 9223372036854775807); refine (CC.out 9223372036854775807 false _ rfl (by assumption)).mono ?_; rintro e _ ⟨rfl, rfl⟩)
        | (go_at_call 14; refine (CC.out (-9223372036854775807) true _ rfl (by assumption)).mono ?_; rintro e _ ⟨rfl, rfl⟩)
        | (go_at_call_of 15 (Value.slice (some ⟨Bo, 0, none⟩) 1 2); refine (EO.out 1 _ _ _ _ (by decide) (by assumption) (by assumption)).mono ?_; rintro e w2 ⟨rfl, d, hd⟩; have hd := belowD hd)
        | (go_at_call_of 15 (Value.slice (some ⟨Bo, 0, none⟩) 2 2); refine (EO.out 2 _ _ _ _ (by decide) (by assumption) (by assumption)).mono ?_; rintro e w2 ⟨rfl, d, hd⟩; have hd := belowD hd)
        | (go_at_call_of 15 (Value.slice (some ⟨g, 0, none⟩) 4 4); refine (EL.out _ _ _ _ (by assumption) (by assumption)).mono ?_; rintro e w2 ⟨rfl, d, hd⟩; have hd := belowD hd)
        | (go_at_call_of 16 (Value.slice (some ⟨g, 0, none⟩) 1 4); refine (F1.out _ _ _ _ (by first | with_reducible assumption | assumption) (by first | exact Blk.new _ _ _ | exact blk_new2 _ _ _ (by simp [World.size_alloc]) | exact blk_drew (Blk.new _ _ _) | exact blk_drewN (Blk.new _ _ _)) (by first | with_reducible exact N1.out | with_reducible exact N2.out | exact N1.out | exact N2.out)).mono ?_; rintro e w2 ⟨rfl, d, hd⟩; have hd := belowD hd)
        | (go_at_call_of 16 (Value.slice (some ⟨g, 0, none⟩) 3 4); refine (F3.out _ (by assumption)).mono ?_; rintro e w2 ⟨rfl, d, hd⟩; have hd := belowD hd))
      all_goals (
        have hz := KZ.out _ (by assumption)
        have Hz := Lib.hid hz
        clear hz
        go_wp2
        go_ret
        exact ⟨rfl, Hz.out⟩)

theorem walk (w : World) : Calls Try.prog 3 #[] w fun e w' => e = .returned (.bool true) ∧ Below w.heap.size w w' := walk_in w


set_option maxRecDepth 100000 in
theorem lifted (os : Os) (started : os.Started) (H : Type) (enc : TypeId × Value → H) :
    ReturnsInHanded {} Try.checked os 3 .any (Rows.keepNamesSpec.pre6 enc Try.prog Try.f3 Rows.keepNamesRow.domain false) (Rows.keepNamesSpec.post enc Try.prog Try.f3 false true false false) := by
  refine returnsInHanded_of_change_sized (C := Try.checked) own started (by kernel_rfl) Try.func3
    (ChangeSpec.witness6 (enc := enc) (C := Try.checked) false ⟨#[], #[], []⟩ 8 (by kernel_rfl) (by kernel_rfl) (by kernel_rfl) (by kernel_rfl)) ?_
  intro W base args ds gs before hval0 hW _ hsz _
  have hval : ∀ (j : Nat) t v, Try.f3.params[j]? = some t → args[j]? = some v → Value.okWide Try.prog W .any base t v := hval0
  have hW' := hW
  obtain ⟨p, q, hA0, hV, hbef, _, _⟩ := hW
  have hA : DataW.TrodAll enc Try.prog W 0 (fun _ => true) true Try.f3.params.toList args.toList ds p := hA0
  rw [Try.params3] at hA hval
  obtain ⟨h1, rfl, rfl⟩ := trodAll_nil hA
  obtain rfl : args = #[] := by cases args; simp_all
  obtain ⟨rfl, rfl⟩ := trodVars_none hV

  refine (walk W).mono fun e W' ⟨he, hb⟩ => ?_
  subst he
  exact ⟨_, rfl, law_post laidOut (of_decide_eq_true (by kernel_rfl)) rfl Try.underlying4 rfl rfl hW' hb⟩

theorem over : Rows.keepNamesRow.holds Try.pinned (OpenSpec.ofChange Rows.keepNamesSpec) :=
  OpenClaim.holds_of_wide 3 Try.f3 rfl rfl rfl rfl rfl rfl rfl ⟨rfl, rfl, rfl, rfl, rfl⟩ rfl rfl rfl rfl rfl (by kernel_rfl) Try.func3 (by kernel_rfl)
    (of_decide_eq_true (by kernel_rfl)) (by unfold Func.isWrapper; first | (rw [if_pos (by decide +kernel)]; kernel_rfl) | (rw [if_neg (by decide +kernel)]; exact ⟨rfl, rfl⟩))
    (fun os started H enc _ => lifted os started H enc)

end Go.Proofs.Yteelhldioaaffaa.keepNames
namespace Go.Proofs.Yteelhldioaaffaa
theorem keepNames_holds : Rows.KeepNamesSaid := keepNames.over
end Go.Proofs.Yteelhldioaaffaa
