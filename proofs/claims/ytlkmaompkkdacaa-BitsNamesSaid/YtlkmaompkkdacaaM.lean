/-
The examples of the first stage, places that are none, and lists that are too short; a closed statement.
-/
import Derived.Test.YtlkmaompkkdacaaF
namespace Go.Proofs.Ytlkmaompkkdacaa.bitsNames
open Go.ChangeShapes Go.WideShapes Go.ChangeAt Go.RowKit
set_option linter.unusedVariables false

theorem own : ownKnob Try.prog.godebug = none := by kernel_rfl
theorem laidOut : laidOutB Try.prog = true := by kernel_rfl

def ats (k : Nat) : Int := match k with | 0 => -1 | 1 => 1 | 2 => 8 | 3 => -9223372036854775808 | _ => 9223372036854775807
theorem ats_no (k : Nat) : inB 8 (ats k) 8 = false := by
  unfold inB ats
  exact decide_eq_false (by split <;> omega)
def atRow : Array Value := #[.int .i64 (-1), .int .i64 1, .int .i64 8, .int .i64 (-9223372036854775808), .int .i64 9223372036854775807]
theorem atRow_get (k : Nat) (h : k < 5) : atRow[k]? = some (.int .i64 (ats k)) := by
  match k, h with
  | 0, _ => rfl
  | 1, _ => rfl
  | 2, _ => rfl
  | 3, _ => rfl
  | 4, _ => rfl
theorem row8 (w : World) : Row (w.alloc (.cells #[.int .u8 1, .int .u8 2, .int .u8 3, .int .u8 4, .int .u8 5, .int .u8 6, .int .u8 7, .int .u8 8] 5)) w.heap.size 8 8 [1, 2, 3, 4, 5, 6, 7, 8] :=
  World.ownsRow_lit w #[.int .u8 1, .int .u8 2, .int .u8 3, .int .u8 4, .int .u8 5, .int .u8 6, .int .u8 7, .int .u8 8] 8 (Nat.zero_le _) (by unfold maxLen; omega) rfl
theorem row3 (w : World) : Row (w.alloc (.cells #[.int .u8 1, .int .u8 2, .int .u8 3] 5)) w.heap.size 3 3 [1, 2, 3] :=
  World.ownsRow_lit w #[.int .u8 1, .int .u8 2, .int .u8 3] 3 (Nat.zero_le _) (by unfold maxLen; omega) rfl
theorem row3b (w : World) : Row (w.alloc (.cells #[.int .u8 9, .int .u8 255, .int .u8 254] 5)) w.heap.size 3 3 [9, 255, 254] :=
  World.ownsRow_lit w #[.int .u8 9, .int .u8 255, .int .u8 254] 3 (Nat.zero_le _) (by unfold maxLen; omega) rfl
theorem row8' (w : World) (g : Nat) (hg : g = w.heap.size) : Row (w.alloc (.cells #[.int .u8 1, .int .u8 2, .int .u8 3, .int .u8 4, .int .u8 5, .int .u8 6, .int .u8 7, .int .u8 8] 5)) g 8 8 [1, 2, 3, 4, 5, 6, 7, 8] := by subst hg; exact row8 w
theorem row3b' (w : World) (g : Nat) (hg : g = w.heap.size) : Row (w.alloc (.cells #[.int .u8 9, .int .u8 255, .int .u8 254] 5)) g 3 3 [9, 255, 254] := by subst hg; exact row3b w
theorem one2eight : isBytes [1, 2, 3, 4, 5, 6, 7, 8] := isBytes_of (by decide)
def Ats (w : World) (g : Nat) : Prop := w.heap[g]? = some (.cells atRow 3 (0, 0))
theorem Ats.lt {w : World} {g : Nat} (h : Ats w g) : g < w.heap.size := by
  rcases Nat.lt_or_ge g w.heap.size with h' | h'
  · exact h'
  · unfold Ats at h; rw [Array.getElem?_eq_none h'] at h; cases h
theorem Ats.cell {w : World} {g : Nat} (h : Ats w g) (k : Nat) (hk : k < 5) : w.cell? ⟨g, k, none⟩ = some (.int .i64 (ats k)) := by
  rw [cell_of_row w g k atRow 3 (0, 0) h, atRow_get k hk]
theorem Ats.below {w w' : World} {g B : Nat} (h : Ats w g) (hb : Below B w w') (hg : g < B) : Ats w' g := (hb.block g hg).trans h

set_option maxRecDepth 100000 in
set_option maxHeartbeats 4000000 in
theorem walk (w : World) : Calls Try.prog 3 #[] w fun e w' => e = .returned (.bool true) ∧ Below w.heap.size w w' := by
  go_enter Try.func3, Try.ntmps3
  go_wp2_with fail
  refine (awake_any _).mono ?_
  rintro e w1 ⟨rfl, hb1⟩
  have ha : Ats (w1.alloc (.cells atRow 3)) w1.heap.size := heap_alloc_new w1 _
  have hb2 := hb1.alloc hb1.size (.cells atRow 3)
  have Ha := Lib.hid ha
  have Hb2 := Lib.hid hb2
  have hle := hb1.size
  unfold atRow at Ha Hb2
  clear ha hb2 hb1
  go_wp2_with fail
  go_loopw [24] (fun i wr => ∃ k : Nat, k ≤ 5 ∧ i = .int .i64 k ∧ Ats wr w1.heap.size ∧ Below w.heap.size w wr) (fun i _ => 5 - (intOf i).toNat)
  case atStart => exact ⟨0, by omega, rfl, Ha.out, Hb2.out⟩
  case round =>
    obtain ⟨k, hk, rfl, hat, hb⟩ := hrel
    clear Ha Hb2
    have Hat := Lib.hid hat
    have Hb := Lib.hid hb
    clear hat hb
    by_cases hlt : k < 5
    · have hc : wr.cell? ⟨w1.heap.size, k, none⟩ = some (.int .i64 (ats k)) := Hat.out.cell k hlt
      go_wp2_with fail
      refine (Get64_any _ _ _ _ _ [1, 2, 3, 4, 5, 6, 7, 8] (row8 wr).reads one2eight (by omega)).mono ?_
      rintro e w2 ⟨rfl, rfl⟩
      rw [ats_no k, show getAt [1, 2, 3, 4, 5, 6, 7, 8] (ats k) 8 = 0 from getAt_no64 rfl (ats_no k)]
      go_wp2_with fail
      refine (Put64_any _ _ _ _ _ _ [1, 2, 3, 4, 5, 6, 7, 8] (row8 wr) (by omega) (by omega)).mono ?_
      rintro e w3 ⟨rfl, r, hg⟩
      rw [ats_no k]
      have hp : putAt [1, 2, 3, 4, 5, 6, 7, 8] (ats k) 8 5 = [1, 2, 3, 4, 5, 6, 7, 8] := by
        unfold putAt; exact if_neg (by have := ats_no k; intro h; rw [show inB 8 (ats k) 8 = true from h] at this; cases this)
      rw [hp] at r
      have R := Lib.hid r
      have hbb : Below wr.heap.size wr w3 := below_grown ((Below.refl _ _).alloc (Nat.le_refl _) _) hg (by simp) (Nat.le_refl _)
      clear r hg hp
      go_wp2_with fail
      refine (bytes_eq _ _ _ _ _ _ _ _ _ (R.out.below ((Below.refl _ _).alloc (Nat.le_refl _) _) R.out.lt).reads (row8 w3).reads (by omega) (by omega) true (eqB_yes rfl)).mono ?_
      rintro e w4 ⟨rfl, hs⟩
      have hb4 : Below wr.heap.size wr w4 := hs.below (hbb.alloc hbb.size _)
      clear hs hbb R
      go_wp2_with fail
      go_roundw
      case rel => exact ⟨k + 1, by omega, by go_num, Hat.out.below hb4 Hat.out.lt, Hb.out.trans (hb4.mono Hb.out.size)⟩
      case measure => simp [intOf]; omega
    · obtain rfl : k = 5 := by omega
      have hb := Hb.out
      clear Hat Hb hle
      go_wp2_with fail
      refine (Get16_any none 0 _ 0 _ [] ⟨rfl, fun h => by omega⟩ (isBytes_of (by decide)) (by omega)).mono ?_
      rintro e w2 ⟨rfl, rfl⟩
      rw [show inB 0 0 2 = false from by decide]
      go_wp2_with fail
      refine (Get32_any _ _ _ _ _ [1, 2, 3] (row3 wr).reads (isBytes_of (by decide)) (by omega)).mono ?_
      rintro e w2 ⟨rfl, rfl⟩
      rw [show inB 3 0 4 = false from by decide]
      go_wp2_with fail
      refine (Get64_any _ _ _ _ _ [1, 2, 3, 4, 5, 6, 7, 8] (row8' _ _ (by simp)).reads one2eight (by omega)).mono ?_
      rintro e w2 ⟨rfl, rfl⟩
      rw [show inB 8 0 8 = true from by decide, show getAt [1, 2, 3, 4, 5, 6, 7, 8] 0 8 = 72623859790382856 from by decide]
      go_wp2_with fail
      refine (Get16_any _ _ _ _ _ [9, 255, 254] (row3b' _ _ (by simp)).reads (isBytes_of (by decide)) (by omega)).mono ?_
      rintro e w2 ⟨rfl, rfl⟩
      rw [show inB 3 1 2 = true from by decide, show getAt [9, 255, 254] 1 2 = 65534 from by decide]
      go_wp2_with fail
      refine (parts_x _ _ (by omega) (by omega)).mono ?_
      rintro e w2 ⟨rfl, rfl⟩
      go_wp2_with fail
      refine (parts_x _ _ (by omega) (by omega)).mono ?_
      rintro e w2 ⟨rfl, rfl⟩
      go_wp2_with fail
      refine (Put16_nil _ _ _).mono ?_
      rintro e w2 ⟨rfl, rfl⟩
      go_wp2_with fail
      refine (handle_x _ _ _ _ (by omega) (by omega) (by omega) (by omega) (by omega) (by omega)).mono ?_
      rintro e w2 ⟨rfl, rfl⟩
      go_wp2_with fail
      go_ret
      refine ⟨ret_bool (by decide), ?_⟩
      exact (((hb.alloc hb.size _).alloc (by simp; have := hb.size; omega) _).alloc (by simp; have := hb.size; omega) _)


set_option maxRecDepth 100000 in
theorem lifted (os : Os) (started : os.Started) (H : Type) (enc : TypeId × Value → H) :
    ReturnsInHanded {} Try.checked os 3 .any (Rows.bitsNamesSpec.pre6 enc Try.prog Try.f3 Rows.bitsNamesRow.domain false) (Rows.bitsNamesSpec.post enc Try.prog Try.f3 false true false false) := by
  refine returnsInHanded_of_change_sized (C := Try.checked) own started (by kernel_rfl) Try.func3
    (ChangeSpec.witness6 (enc := enc) (C := Try.checked) false ⟨#[], #[], []⟩ 8 (by kernel_rfl) (by kernel_rfl) (by kernel_rfl) (by kernel_rfl)) ?_
  intro W base args ds gs before hval0 hW _ hsz _
  have hval : ∀ (j : Nat) t v, Try.f3.params[j]? = some t → args[j]? = some v → Value.okWide Try.prog W .any base t v := hval0
  have hW' := hW
  obtain ⟨p, q, hA0, hV, hbef, _, _⟩ := hW
  have hA : DataW.TrodAll enc Try.prog W 0 (fun _ => true) true Try.f3.params.toList args.toList ds p := hA0
  rw [Try.params3] at hA hval
  obtain ⟨h1, rfl, rfl⟩ := trodAll_nil hA
  obtain rfl : args = #[] := by cases args; simp_all
  obtain ⟨rfl, rfl⟩ := trodVars_none hV

  refine (walk W).mono fun e W' ⟨he, hb⟩ => ?_
  subst he
  exact ⟨_, rfl, law_post laidOut (of_decide_eq_true (by kernel_rfl)) rfl Try.underlying4 rfl rfl hW' hb⟩

theorem over : Rows.bitsNamesRow.holds Try.pinned (OpenSpec.ofChange Rows.bitsNamesSpec) :=
  OpenClaim.holds_of_wide 3 Try.f3 rfl rfl rfl rfl rfl rfl rfl ⟨rfl, rfl, rfl, rfl, rfl⟩ rfl rfl rfl rfl rfl (by kernel_rfl) Try.func3 (by kernel_rfl)
    (of_decide_eq_true (by kernel_rfl)) (by unfold Func.isWrapper; first | (rw [if_pos (by decide +kernel)]; kernel_rfl) | (rw [if_neg (by decide +kernel)]; exact ⟨rfl, rfl⟩))
    (fun os started H enc _ => lifted os started H enc)

end Go.Proofs.Ytlkmaompkkdacaa.bitsNames
namespace Go.Proofs.Ytlkmaompkkdacaa
theorem bitsNames_holds : Rows.BitsNamesSaid := bitsNames.over
end Go.Proofs.Ytlkmaompkkdacaa
