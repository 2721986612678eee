/-
The examples, the bounds of a slot, all pages used, and what is asked of nil. Closed.
-/
import Derived.Test.YtbnbhhmgfogjeaaGY
import Derived.Test.YtbnbhhmgfogjeaaGZ1
import Derived.Test.YtbnbhhmgfogjeaaGZ2
import Derived.Test.YtbnbhhmgfogjeaaLF
import Derived.Test.YtbnbhhmgfogjeaaRows
namespace Go.Proofs.Ytbnbhhmgfogjeaa.arenaNames
open Go.ChangeShapes Go.WideShapes Go.ChangeAt Go.RowKit Go.Maps
set_option linter.unusedVariables false
set_option linter.unusedSimpArgs false

theorem own : ownKnob Try.prog.godebug = none := by kernel_rfl
theorem laidOut : laidOutB Try.prog = true := by kernel_rfl

def bad : List Int := [1, 0, -1, 4097, 1099511627776]
theorem bad_no (k : Nat) (h : k < 5) : bad.getD k 0 < 2 ∨ 4096 < bad.getD k 0 := by
  have : ∀ k, k < 5 → bad.getD k 0 < 2 ∨ 4096 < bad.getD k 0 := by decide
  exact this k h
theorem bad_at {W : World} {g : Nat} (h : Blk W g #[.int .i64 1, .int .i64 0, .int .i64 (-1), .int .i64 4097, .int .i64 1099511627776] 3) (k : Nat) (hk : k < 5) : W.cell? ⟨g, k, none⟩ = some (.int .i64 (bad.getD k 0)) := by
  have hc := h.cell k
  rw [hc]
  match k, hk with
  | 0, _ => rfl
  | 1, _ => rfl
  | 2, _ => rfl
  | 3, _ => rfl
  | 4, _ => rfl
set_option maxRecDepth 100000 in
set_option maxHeartbeats 16000000 in
theorem walk (w : World) : Calls Try.prog 3 #[] w (fun e w' => e = .returned (.bool true) ∧ Below w.heap.size w w') := by
  go_enter Try.func3, Try.ntmps3
  go_wp2_with fail
  refine (nil_alloc _).mono ?_
  rintro x wz ⟨rfl, rfl⟩
  go_wp2_with fail
  refine (nil_read _).mono ?_
  rintro x wz ⟨rfl, rfl⟩
  go_wp2_with fail
  refine (works_any _).mono ?_
  rintro x w9 ⟨rfl, hb⟩
  have HB := Lib.hid hb
  clear hb
  go_wp2_with fail
  refine (nil_free _).mono ?_
  rintro x wz ⟨rfl, rfl⟩
  go_wp2_with fail
  refine (nil_write _).mono ?_
  rintro x wz ⟨rfl, rfl⟩
  go_wp2_with fail
  refine (nil_is _).mono ?_
  rintro x wz ⟨rfl, rfl⟩
  go_wp2_with fail
  refine (nil_used _).mono ?_
  rintro x wz ⟨rfl, rfl⟩
  go_wp2_with fail
  refine (nil_pages _).mono ?_
  rintro x wz ⟨rfl, rfl⟩
  go_wp2_with fail
  refine (nil_slot _).mono ?_
  rintro x wz ⟨rfl, rfl⟩
  go_wp2_with fail
  refine (nil_copy _).mono ?_
  rintro x wz ⟨rfl, rfl⟩
  have hbl : Below w9.heap.size w9 (w9.alloc (.cells #[.int .i64 1, .int .i64 0, .int .i64 (-1), .int .i64 4097, .int .i64 1099511627776] 3)) := (Below.refl _ _).alloc (Nat.le_refl _) _
  have BD : Hid (Blk (w9.alloc (.cells #[.int .i64 1, .int .i64 0, .int .i64 (-1), .int .i64 4097, .int .i64 1099511627776] 3)) w9.heap.size #[.int .i64 1, .int .i64 0, .int .i64 (-1), .int .i64 4097, .int .i64 1099511627776] 3) := Blk.new _ _ _
  have HB0 := Lib.hid (stepB HB.out hbl)
  clear hbl HB
  go_upto_block 0 with (fail)
  generalize w9.alloc (.cells #[.int .i64 1, .int .i64 0, .int .i64 (-1), .int .i64 4097, .int .i64 1099511627776] 3) = w20 at *
  generalize w9.heap.size = g at *
  go_cut [] (fun wx => Below w.heap.size w wx)
  case first =>
    go_wp2
    go_loopw [77] (fun i wr => ∃ k : Nat, k ≤ 5 ∧ i = .int .i64 k ∧ Below w20.heap.size w20 wr) (fun i _ => 5 - (intOf i).toNat)
    case atStart => exact ⟨0, by omega, rfl, Below.refl _ _⟩
    case round =>
      obtain ⟨k, hk, rfl, hb⟩ := hrel
      have HR := Lib.hid hb
      have BR := Lib.hid (BD.out.later hb)
      clear hb
      by_cases hlt : k < 5
      · have d1 : decide ((k : Int) < 5) = true := decide_eq_true (by omega)
        have wk : IntKind.i64.wrap ((k : Int) + 1) = (k : Int) + 1 := IntWalk.i64_in _ (by omega)
        have i1 := idx36 g 5 5 k (k : Int) rfl hlt
        have hc := bad_at BR.out k hlt
        have HNO := Lib.hid (bad_no k hlt)
        generalize bad.getD k 0 = y at *
        go_wp2_with fail
        refine (arnew_no y _ HNO.out).mono ?_
        rintro x w21 ⟨rfl, rfl⟩
        clear hc HNO
        go_wp2
        go_roundw
        case rel => exact ⟨k + 1, by omega, by go_num, HR.out⟩
        case measure => simp [intOf]; omega
      · obtain rfl : k = 5 := by omega
        go_wp2
        go_meet
        exact stepB HB0.out HR.out
  case rest =>
    obtain ⟨w30, rfl⟩ : ∃ w30 : World, w30 = wc := ⟨_, rfl⟩
    have HB : Hid (Below w.heap.size w w30) := hcut
    clear hcut BD HB0
    go_wp2_with fail
    refine (arnew_any 2 w30 (by decide) (by decide)).mono ?_
    rintro x w31 ⟨a, S31, rfl, h, hb⟩
    have HA : Hid (AR w31 w.heap.size a 2 tw0 S31) := Lib.hid (h.base HB.out.size)
    replace HB := Lib.hid (stepB HB.out hb)
    clear h hb
    have HC := Lib.hid (arpages_any w.heap.size a 2 tw0 S31 w31 HA.out)
    rw [t0.2.1] at HC
    go_wp2_with fail
    refine HC.out.mono ?_
    rintro x wz ⟨rfl, rfl⟩
    clear HC
    have HC := Lib.hid (aris_any w.heap.size a 2 tw0 S31 w31 HA.out 0 (by decide) (by decide))
    rw [t0.2.2.1] at HC
    go_wp2_with fail
    refine HC.out.mono ?_
    rintro x w32 ⟨rfl, hb⟩
    replace HA := Lib.hid (HA.out.later hb)
    replace HB := Lib.hid (stepB HB.out hb)
    clear hb HC
    obtain ⟨S32, hSx⟩ : ∃ S', S' = S31 := ⟨_, rfl⟩
    subst hSx
    have HC := Lib.hid (arfree_any w.heap.size a 2 tw0 S32 w32 HA.out 0 (by decide) (by decide) (by decide))
    rw [t0.2.2.2.1, t0.2.2.2.2] at HC
    go_wp2_with fail
    refine HC.out.mono ?_
    rintro x w33 ⟨rfl, S33, hA, _, hf⟩
    replace HB := Lib.hid (HA.out.frBelow hf HB.out (Nat.le_refl _) HB.out.size)
    replace HA : Hid (AR w33 w.heap.size a 2 tw0 S33) := hA
    clear hA hf HC
    have HC := Lib.hid (alloc_any w.heap.size a 2 tw0 S33 w33 HA.out (by decide) (by decide) t0.1)
    rw [t1] at HC
    go_wp2_with fail
    refine HC.out.mono ?_
    rintro x w34 ⟨rfl, S34, hA, _, hf⟩
    replace HB := Lib.hid (HA.out.frBelow hf HB.out (Nat.le_refl _) HB.out.size)
    replace HA : Hid (AR w34 w.heap.size a 2 tw1 S34) := hA
    clear hA hf HC
    have HC := Lib.hid (reads_yes w.heap.size a 2 tw1 S34 w34 HA.out 1 ⟨#[]⟩ (by decide) (by decide) t2 t3' (by decide) (by decide))
    go_wp2_with fail
    refine HC.out.mono ?_
    rintro x w35 ⟨rfl, hb⟩
    replace HA := Lib.hid (HA.out.later hb)
    replace HB := Lib.hid (stepB HB.out hb)
    clear hb HC
    obtain ⟨S35, hSx⟩ : ∃ S', S' = S34 := ⟨_, rfl⟩
    subst hSx
    have HC := Lib.hid (arwrite_any w.heap.size a 2 tw1 S35 w35 HA.out 1 (by decide) (by decide) ⟨#[97, 98, 99]⟩ (by decide))
    rw [t4] at HC
    go_wp2_with fail
    refine HC.out.mono ?_
    rintro x w36 ⟨rfl, S36, hA, _, hf⟩
    replace HB := Lib.hid (HA.out.frBelow hf HB.out (Nat.le_refl _) HB.out.size)
    replace HA : Hid (AR w36 w.heap.size a 2 tw2 S36) := hA
    clear hA hf HC
    have HC := Lib.hid (arwrite_any w.heap.size a 2 tw2 S36 w36 HA.out 1 (by decide) (by decide) ⟨#[97, 98]⟩ (by decide))
    rw [t5] at HC
    go_wp2_with fail
    refine HC.out.mono ?_
    rintro x w37 ⟨rfl, S37, hA, _, hf⟩
    replace HB := Lib.hid (HA.out.frBelow hf HB.out (Nat.le_refl _) HB.out.size)
    replace HA : Hid (AR w37 w.heap.size a 2 tw3 S37) := hA
    clear hA hf HC
    have HC := Lib.hid (arfree_any w.heap.size a 2 tw3 S37 w37 HA.out 2 (by decide) (by decide) (by decide))
    rw [t6] at HC
    go_wp2_with fail
    refine HC.out.mono ?_
    rintro x w38 ⟨rfl, S38, hA, _, hf⟩
    replace HB := Lib.hid (HA.out.frBelow hf HB.out (Nat.le_refl _) HB.out.size)
    replace HA : Hid (AR w38 w.heap.size a 2 tw4 S38) := hA
    clear hA hf HC
    have HC := Lib.hid (arfree_any w.heap.size a 2 tw4 S38 w38 HA.out 1 (by decide) (by decide) (by decide))
    rw [t7] at HC
    go_wp2_with fail
    refine HC.out.mono ?_
    rintro x w39 ⟨rfl, S39, hA, _, hf⟩
    replace HB := Lib.hid (HA.out.frBelow hf HB.out (Nat.le_refl _) HB.out.size)
    replace HA : Hid (AR w39 w.heap.size a 2 tw5 S39) := hA
    clear hA hf HC
    have HC := Lib.hid (arfree_any w.heap.size a 2 tw5 S39 w39 HA.out 1 (by decide) (by decide) (by decide))
    rw [t8] at HC
    go_wp2_with fail
    refine HC.out.mono ?_
    rintro x w40 ⟨rfl, S40, hA, _, hf⟩
    replace HB := Lib.hid (HA.out.frBelow hf HB.out (Nat.le_refl _) HB.out.size)
    replace HA : Hid (AR w40 w.heap.size a 2 tw6 S40) := hA
    clear hA hf HC
    have HC := Lib.hid (arwrite_any w.heap.size a 2 tw6 S40 w40 HA.out 1 (by decide) (by decide) ⟨#[]⟩ (by decide))
    rw [t9] at HC
    go_wp2_with fail
    refine HC.out.mono ?_
    rintro x w41 ⟨rfl, S41, hA, _, hf⟩
    replace HB := Lib.hid (HA.out.frBelow hf HB.out (Nat.le_refl _) HB.out.size)
    replace HA : Hid (AR w41 w.heap.size a 2 tw7 S41) := hA
    clear hA hf HC
    go_wp2_with fail
    refine (handle_x 0 0 0 _ (by decide) (by decide) (by decide) (by decide) (by decide) (by decide)).mono ?_
    rintro e w' ⟨rfl, rfl⟩
    have HC := Lib.hid (aris_any w.heap.size a 2 tw7 S41 w41 HA.out 0 (by decide) (by decide))
    rw [t10] at HC
    go_wp2_with fail
    refine HC.out.mono ?_
    rintro x w42 ⟨rfl, hb⟩
    replace HA := Lib.hid (HA.out.later hb)
    replace HB := Lib.hid (stepB HB.out hb)
    clear hb HC
    obtain ⟨S42, hSx⟩ : ∃ S', S' = S41 := ⟨_, rfl⟩
    subst hSx
    have HC := Lib.hid (arpages_any w.heap.size a 2 tw7 S42 w42 HA.out)
    rw [t11] at HC
    go_wp2_with fail
    refine HC.out.mono ?_
    rintro x wz ⟨rfl, rfl⟩
    clear HC
    have HC := Lib.hid (arused_any w.heap.size a 2 tw7 S42 w42 HA.out)
    rw [t12] at HC
    go_wp2_with fail
    refine HC.out.mono ?_
    rintro x wz ⟨rfl, rfl⟩
    clear HC
    clear HA
    go_wp2_with fail
    refine (arnew_any 4096 w42 (by decide) (by decide)).mono ?_
    rintro x w60 ⟨b, S60, rfl, h, hb⟩
    have HA : Hid (AR w60 w.heap.size b 4096 (0, [], []) S60) := Lib.hid (h.base HB.out.size)
    replace HB := Lib.hid (stepB HB.out hb)
    clear h hb
    go_wp2
    go_loopw [15, 16] (fun v15 v16 wr => ∃ (k : Nat) (st : AS) (S' : Nat → Prop) (hl : Int), k ≤ 4096 ∧ v16 = .int .i64 k ∧ v15 = .int .u64 hl ∧ AR wr w.heap.size b 4096 st S' ∧ FI k st ∧ (0 < k → hl = zOf (k - 1) 0 * 4294967296 + 1) ∧ Below w.heap.size w wr) (fun _ i _ => 4096 - (intOf i).toNat)
    case atStart => exact ⟨0, _, S60, 0, by decide, rfl, rfl, HA.out, FI.new, (fun h => absurd h (Nat.lt_irrefl 0)), HB.out⟩
    case round =>
      obtain ⟨k, st, S', hl, hk, rfl, rfl, hA, hF, h15, hb⟩ := hrel
      obtain ⟨w61, rfl⟩ : ∃ w61 : World, w61 = wr := ⟨_, rfl⟩
      replace HA := Lib.hid hA
      replace HB := Lib.hid hb
      have HF := Lib.hid hF
      have H15 := Lib.hid h15
      clear hA hF h15 hb
      by_cases hlt : k < 4096
      · have d1 : decide ((k : Int) < 4096) = true := decide_eq_true (by omega)
        have wk : IntKind.i64.wrap ((k : Int) + 1) = (k : Int) + 1 := IntWalk.i64_in _ (by omega)
        have HS := Lib.hid (HF.out.step HA.out.pure hlt)
        have HC := Lib.hid (alloc_any w.heap.size b 4096 st S' w61 HA.out (by decide) (by decide) (by have := HF.out.glen; omega))
        rw [HS.out.1] at HC
        obtain ⟨hx, hhx⟩ : ∃ hx, zOf k 0 * 4294967296 + 1 = hx := ⟨_, rfl⟩
        rw [hhx] at HC
        have HHX := Lib.hid hhx
        clear hhx
        go_wp2_with fail
        refine HC.out.mono ?_
        rintro x w62 ⟨rfl, S62, hA, _, hf⟩
        replace HB := Lib.hid (HA.out.frBelow hf HB.out (Nat.le_refl _) HB.out.size)
        have HA2 := Lib.hid hA
        clear hA hf HC HA
        go_wp2
        go_roundw
        case rel => exact ⟨k + 1, _, S62, hx, by omega, by go_num, rfl, HA2.out, HS.out.2, (fun _ => by rw [Nat.add_sub_cancel]; exact HHX.out.symm), HB.out⟩
        case measure => simp [intOf]; omega
      · obtain rfl : k = 4096 := by omega
        obtain rfl : hl = 1152640029630136321 := (H15.out (by decide)).trans (by decide)
        have HL := Lib.hid (HF.out.last HA.out.pure)
        have HG := Lib.hid (HF.out.again HA.out.pure)
        have HC := Lib.hid (alloc_any w.heap.size b 4096 st S' w61 HA.out (by decide) (by decide) (by have := HF.out.glen; omega))
        rw [HL.out.1, HL.out.2.1] at HC
        go_wp2_with fail
        refine HC.out.mono ?_
        rintro x w62 ⟨rfl, S62, hA, _, hf⟩
        replace HB := Lib.hid (HA.out.frBelow hf HB.out (Nat.le_refl _) HB.out.size)
        have HA2 := Lib.hid hA
        clear hA hf HC HA
        have HC := Lib.hid (arused_any w.heap.size b 4096 _ S62 w62 HA2.out)
        rw [show usA (4096, st.2.1, st.2.2) = 4096 from HL.out.2.2] at HC
        go_wp2_with fail
        refine HC.out.mono ?_
        rintro x wz ⟨rfl, rfl⟩
        clear HC
        go_wp2_with fail
        refine (handle_x 4095 0 1 _ (by decide) (by decide) (by decide) (by decide) (by decide) (by decide)).mono ?_
        rintro e w' ⟨rfl, rfl⟩
        go_wp2_with fail
        refine (handle_x 7 0 1 _ (by decide) (by decide) (by decide) (by decide) (by decide) (by decide)).mono ?_
        rintro e w' ⟨rfl, rfl⟩
        have HC := Lib.hid (arfree_any w.heap.size b 4096 _ S62 w62 HA2.out 1970324836974593 (by decide) (by decide) (by decide))
        rw [HG.out.1] at HC
        go_wp2_with fail
        refine HC.out.mono ?_
        rintro x w63 ⟨rfl, S63, hA, _, hf⟩
        replace HB := Lib.hid (HA2.out.frBelow hf HB.out (Nat.le_refl _) HB.out.size)
        have HG2 := Lib.hid (HG.out.2 HA2.out.pure)
        have HA3 := Lib.hid hA
        clear hA hf HC HA2
        have HC := Lib.hid (alloc_any w.heap.size b 4096 _ S63 w63 HA3.out (by decide) (by decide) (by rw [frA_G]; have := HF.out.glen; show st.2.2.length < _; omega))
        rw [HG2.out.1] at HC
        go_wp2_with fail
        refine HC.out.mono ?_
        rintro x w64 ⟨rfl, S64, hA, _, hf⟩
        replace HB := Lib.hid (HA3.out.frBelow hf HB.out (Nat.le_refl _) HB.out.size)
        have HA4 := Lib.hid hA
        clear hA hf HC HA3
        go_wp2_with fail
        refine (handle_x 7 0 2 _ (by decide) (by decide) (by decide) (by decide) (by decide) (by decide)).mono ?_
        rintro e w' ⟨rfl, rfl⟩
        have HC := Lib.hid (arpages_any w.heap.size b 4096 _ S64 w64 HA4.out)
        rw [HG2.out.2] at HC
        go_wp2_with fail
        refine HC.out.mono ?_
        rintro x wz ⟨rfl, rfl⟩
        clear HC
        go_wp2
        go_ret
        exact ⟨rfl, HB.out⟩


set_option maxRecDepth 100000 in
theorem lifted (os : Os) (started : os.Started) (H : Type) (enc : TypeId × Value → H) :
    ReturnsInHanded {} Try.checked os 3 .any (Rows.arenaNamesSpec.pre6 enc Try.prog Try.f3 Rows.arenaNamesRow.domain false) (Rows.arenaNamesSpec.post enc Try.prog Try.f3 false true false false) := by
  refine returnsInHanded_of_change_sized (C := Try.checked) own started (by kernel_rfl) Try.func3
    (ChangeSpec.witness6 (enc := enc) (C := Try.checked) false ⟨#[], #[], []⟩ 8 (by kernel_rfl) (by kernel_rfl) (by kernel_rfl) (by kernel_rfl)) ?_
  intro W base args ds gs before hval0 hW _ hsz _
  have hval : ∀ (j : Nat) t v, Try.f3.params[j]? = some t → args[j]? = some v → Value.okWide Try.prog W .any base t v := hval0
  have hW' := hW
  obtain ⟨p, q, hA0, hV, hbef, _, _⟩ := hW
  have hA : DataW.TrodAll enc Try.prog W 0 (fun _ => true) true Try.f3.params.toList args.toList ds p := hA0
  rw [Try.params3] at hA hval
  obtain ⟨h1, rfl, rfl⟩ := trodAll_nil hA
  obtain rfl : args = #[] := by cases args; simp_all
  obtain ⟨rfl, rfl⟩ := trodVars_none hV
  refine (walk W).mono fun e W' ⟨he, hb⟩ => ?_
  subst he
  exact ⟨_, rfl, law_post laidOut (of_decide_eq_true (by kernel_rfl)) rfl Try.underlying4 rfl rfl hW' hb⟩

theorem over : Rows.arenaNamesRow.holds Try.pinned (OpenSpec.ofChange Rows.arenaNamesSpec) :=
  OpenClaim.holds_of_wide 3 Try.f3 rfl rfl rfl rfl rfl rfl rfl ⟨rfl, rfl, rfl, rfl, rfl⟩ rfl rfl rfl rfl rfl (by kernel_rfl) Try.func3 (by kernel_rfl)
    (of_decide_eq_true (by kernel_rfl)) (by unfold Func.isWrapper; first | (rw [if_pos (by decide +kernel)]; kernel_rfl) | (rw [if_neg (by decide +kernel)]; exact ⟨rfl, rfl⟩))
    (fun os started H enc _ => lifted os started H enc)

end Go.Proofs.Ytbnbhhmgfogjeaa.arenaNames
namespace Go.Proofs.Ytbnbhhmgfogjeaa
theorem arenaNames_holds : Rows.ArenaNamesSaid := arenaNames.over
end Go.Proofs.Ytbnbhhmgfogjeaa
