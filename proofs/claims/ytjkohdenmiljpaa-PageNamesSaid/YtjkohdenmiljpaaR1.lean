/-
The examples; lengths that may not be; what is refused; nobody's page. Closed.
-/
import Derived.Test.YtjkohdenmiljpaaO
import Derived.Test.YtjkohdenmiljpaaLF
import Derived.Test.YtjkohdenmiljpaaRows
namespace Go.Proofs.Ytjkohdenmiljpaa.pageNames
open Go.ChangeShapes Go.WideShapes Go.ChangeAt Go.RowKit Go.Maps
set_option linter.unusedVariables false
set_option linter.unusedSimpArgs false

theorem own : ownKnob Try.prog.godebug = none := by kernel_rfl
theorem laidOut : laidOutB Try.prog = true := by kernel_rfl

set_option maxRecDepth 100000 in
set_option maxHeartbeats 16000000 in
theorem walk (w : World) : Calls Try.prog 3 #[] w (fun e w' => e = .returned (.bool true) ∧ Below w.heap.size w w') := by
  have HB : Hid (Below w.heap.size w w) := Below.refl _ _
  go_enter Try.func3, Try.ntmps3
  go_wp2_with fail
  refine (alloc_nil w).mono ?_
  rintro x w1 ⟨rfl, hb⟩
  replace HB := Lib.hid (stepB HB.out hb)
  clear hb
  go_wp2_with fail
  refine (read_nil w1).mono ?_
  rintro x w2 ⟨rfl, hb⟩
  replace HB := Lib.hid (stepB HB.out hb)
  clear hb
  go_wp2_with fail
  refine (awake_any w2).mono ?_
  rintro x w3 ⟨rfl, hb⟩
  replace HB := Lib.hid (stepB HB.out hb)
  clear hb
  go_wp2_with fail
  refine (free_nil w3).mono ?_
  rintro x w4 ⟨rfl, hb⟩
  replace HB := Lib.hid (stepB HB.out hb)
  clear hb
  go_wp2_with fail
  refine (write_nil w4).mono ?_
  rintro x w5 ⟨rfl, hb⟩
  replace HB := Lib.hid (stepB HB.out hb)
  clear hb
  go_wp2_with fail
  refine (is_nil w5).mono ?_
  rintro x w6 ⟨rfl, hb⟩
  replace HB := Lib.hid (stepB HB.out hb)
  clear hb
  go_wp2_with fail
  refine (used_nil w6).mono ?_
  rintro x w7 ⟨rfl, hb⟩
  replace HB := Lib.hid (stepB HB.out hb)
  clear hb
  go_wp2_with fail
  refine (room_nil w7).mono ?_
  rintro x w8 ⟨rfl, hb⟩
  replace HB := Lib.hid (stepB HB.out hb)
  clear hb
  go_wp2_with fail
  refine (copy_nil w8).mono ?_
  rintro x w9 ⟨rfl, hb⟩
  replace HB := Lib.hid (stepB HB.out hb)
  clear hb
  have hbl : Below w9.heap.size w9 (w9.alloc (.cells #[.int .i64 1, .int .i64 0, .int .i64 (-1), .int .i64 4097, .int .i64 9223372036854775807, .int .i64 (-9223372036854775808)] 3)) := (Below.refl _ _).alloc (Nat.le_refl _) _
  have BD : Hid (Blk (w9.alloc (.cells #[.int .i64 1, .int .i64 0, .int .i64 (-1), .int .i64 4097, .int .i64 9223372036854775807, .int .i64 (-9223372036854775808)] 3)) w9.heap.size #[.int .i64 1, .int .i64 0, .int .i64 (-1), .int .i64 4097, .int .i64 9223372036854775807, .int .i64 (-9223372036854775808)] 3) := Blk.new _ _ _
  have HB0 := Lib.hid (stepB HB.out hbl)
  clear hbl HB
  go_upto_block 0 with (fail)
  generalize w9.alloc (.cells #[.int .i64 1, .int .i64 0, .int .i64 (-1), .int .i64 4097, .int .i64 9223372036854775807, .int .i64 (-9223372036854775808)] 3) = w20 at *
  generalize w9.heap.size = g at *
  go_cut [] (fun wx => Below w.heap.size w wx)
  case first =>
    go_wp2
    go_loopw [72] (fun i wr => ∃ k : Nat, k ≤ 6 ∧ i = .int .i64 k ∧ Below w20.heap.size w20 wr) (fun i _ => 6 - (intOf i).toNat)
    case atStart => exact ⟨0, by omega, rfl, Below.refl _ _⟩
    case round =>
      obtain ⟨k, hk, rfl, hb⟩ := hrel
      have HR := Lib.hid hb
      have BR := Lib.hid (BD.out.later hb)
      clear hb
      by_cases hlt : k < 6
      · have d1 : decide ((k : Int) < 6) = true := decide_eq_true (by omega)
        have wk : IntKind.i64.wrap ((k : Int) + 1) = (k : Int) + 1 := IntWalk.i64_in _ (by omega)
        have i1 := index35 g 6 6 k (k : Int) rfl hlt
        have hc := bad_at BR.out k hlt
        have HNO := Lib.hid (bad_no k hlt)
        generalize bad.getD k 0 = y at *
        go_wp2_with fail
        refine (new_no y _ HNO.out).mono ?_
        rintro x w21 ⟨rfl, rfl⟩
        clear hc HNO
        go_wp2
        go_roundw
        case rel => exact ⟨k + 1, by omega, by go_num, HR.out⟩
        case measure => simp [intOf]; omega
      · obtain rfl : k = 6 := by omega
        go_wp2
        go_meet
        exact stepB HB0.out HR.out
  case rest =>
    obtain ⟨w30, rfl⟩ : ∃ w30 : World, w30 = wc := ⟨_, rfl⟩
    have HB : Hid (Below w.heap.size w w30) := hcut
    clear hcut BD HB0
    go_wp2_with fail
    refine (new_any 4096 w30 (by omega) (by omega)).mono ?_
    rintro x w31 ⟨rfl, h, hb⟩
    have P := Lib.hid (h.base HB.out.size)
    have hp1 := h.hp
    have hp2 := h.own.1
    have hp3 := h.plt
    have hp4 := h.blt
    have hp0 := HB.out.size
    replace HB := Lib.hid (stepB HB.out hb)
    clear h hb
    generalize w30.heap.size + 1 = p at *
    obtain ⟨c, hc⟩ : ∃ c, w30.heap.size = c := ⟨_, rfl⟩
    rw [hc] at hp0 hp1 hp2 hp4 P
    clear hc
    go_wp2_with fail
    refine (new_any 2 w31 (by omega) (by omega)).mono ?_
    rintro x w32 ⟨rfl, h, hb⟩
    have Q := Lib.hid (h.base HB.out.size)
    have hq1 := h.hp
    have hq2 := h.own.1
    replace P := Lib.hid (P.out.later hb)
    replace HB := Lib.hid (stepB HB.out hb)
    clear h hb
    generalize w31.heap.size + 1 = q at *
    obtain ⟨d, hd⟩ : ∃ d, w31.heap.size = d := ⟨_, rfl⟩
    rw [hd] at hp3 hp4 hq1 hq2 Q
    clear hd
    have FA : Hid (w.heap.size ≤ p ∧ w.heap.size ≤ c ∧ w.heap.size ≤ q ∧ w.heap.size ≤ d ∧ q ≠ p ∧ q ≠ c ∧ d ≠ p ∧ d ≠ c) := ⟨by omega, by omega, by omega, by omega, by omega, by omega, by omega, by omega⟩
    clear hp0 hp1 hp2 hp3 hp4 hq1 hq2
    go_wp2_with fail
    refine (p_room w.heap.size p c w32 P.out).mono ?_
    rintro x w33 ⟨rfl, hb⟩
    replace HB := Lib.hid (stepB HB.out hb)
    replace P := Lib.hid (P.out.later hb)
    replace Q := Lib.hid (Q.out.later hb)
    clear hb
    go_wp2_with fail
    refine (q_room w.heap.size q d w33 Q.out).mono ?_
    rintro x w34 ⟨rfl, hb⟩
    replace HB := Lib.hid (stepB HB.out hb)
    replace P := Lib.hid (P.out.later hb)
    replace Q := Lib.hid (Q.out.later hb)
    clear hb
    go_wp2_with fail
    refine (p_al w.heap.size p c w34 P.out).mono ?_
    rintro x w35 ⟨rfl, h, hf⟩
    replace HB := Lib.hid (hf.below HB.out HB.out.size FA.out.1 FA.out.2.1)
    replace Q := Lib.hid (Q.out.fr hf FA.out.2.2.2.2.1 FA.out.2.2.2.2.2.1 FA.out.2.2.2.2.2.2.1 FA.out.2.2.2.2.2.2.2)
    replace P := Lib.hid h
    clear h hf
    go_wp2_with fail
    refine (p_full w.heap.size p c w35 P.out).mono ?_
    rintro x w36 ⟨rfl, hb⟩
    replace HB := Lib.hid (stepB HB.out hb)
    replace P := Lib.hid (P.out.later hb)
    replace Q := Lib.hid (Q.out.later hb)
    clear hb
    have hmk : ∀ W, (Instr.makeSlice 39 (.int .i64 4097) (.int .i64 4097)).run Try.prog W = .ok (.slice (some ⟨W.heap.size, 0, none⟩) 4097 4097) (W.alloc (.cells (madeCells #[.int .u8 0] 4097) 5)) := fun W => mk_z 4097 (by omega) W
    have hcv := conv_z 4097 w36
    have hSZ := str_size 4097
    have hba : Below w36.heap.size w36 (w36.alloc (.cells (madeCells #[.int .u8 0] 4097) 5)) := (Below.refl _ _).alloc (Nat.le_refl _) _
    replace HB := Lib.hid (stepB HB.out hba)
    replace P := Lib.hid (P.out.later hba)
    replace Q := Lib.hid (Q.out.later hba)
    clear hba
    generalize strOfNums (List.replicate 4097 0) = S4097 at *
    generalize madeCells #[Value.int .u8 0] 4097 = z4097 at *
    have HSZ := Lib.hid hSZ
    clear hSZ
    go_wp2_with fail
    refine (p_long w.heap.size p c S4097 _ P.out HSZ.out).mono ?_
    rintro x w37 ⟨rfl, hb⟩
    replace HB := Lib.hid (stepB HB.out hb)
    replace P := Lib.hid (P.out.later hb)
    replace Q := Lib.hid (Q.out.later hb)
    clear hb
    clear hmk hcv
    have hmk : ∀ W, (Instr.makeSlice 39 (.int .i64 4096) (.int .i64 4096)).run Try.prog W = .ok (.slice (some ⟨W.heap.size, 0, none⟩) 4096 4096) (W.alloc (.cells (madeCells #[.int .u8 0] 4096) 5)) := fun W => mk_z 4096 (by omega) W
    have hcv := conv_z 4096 w37
    have hSZ := str_size 4096
    have hba : Below w37.heap.size w37 (w37.alloc (.cells (madeCells #[.int .u8 0] 4096) 5)) := (Below.refl _ _).alloc (Nat.le_refl _) _
    replace HB := Lib.hid (stepB HB.out hba)
    replace P := Lib.hid (P.out.later hba)
    replace Q := Lib.hid (Q.out.later hba)
    clear hba
    generalize strOfNums (List.replicate 4096 0) = S4096 at *
    generalize madeCells #[Value.int .u8 0] 4096 = z4096 at *
    have HSZ := Lib.hid hSZ
    clear hSZ
    go_wp2_with fail
    refine (p_write w.heap.size p c S4096 _ P.out HSZ.out).mono ?_
    rintro x w38 ⟨rfl, h, hf⟩
    replace HB := Lib.hid (hf.below HB.out HB.out.size FA.out.1 FA.out.2.1)
    replace Q := Lib.hid (Q.out.fr hf FA.out.2.2.2.2.1 FA.out.2.2.2.2.2.1 FA.out.2.2.2.2.2.2.1 FA.out.2.2.2.2.2.2.2)
    replace P := Lib.hid h
    clear h hf
    clear hmk hcv
    generalize fillZ (putS zs 0 S4096) (0 + S4096.size) (4096 - S4096.size) = bp at *
    go_wp2_with fail
    refine (p_read w.heap.size p c bp w38 P.out).mono ?_
    rintro x w39 ⟨rfl, hb⟩
    replace HB := Lib.hid (stepB HB.out hb)
    replace P := Lib.hid (P.out.later hb)
    replace Q := Lib.hid (Q.out.later hb)
    clear hb
    go_wp2_with fail
    refine (p_no w.heap.size p c bp w39 P.out).mono ?_
    rintro x w40 ⟨rfl, hb⟩
    replace HB := Lib.hid (stepB HB.out hb)
    replace P := Lib.hid (P.out.later hb)
    replace Q := Lib.hid (Q.out.later hb)
    clear hb
    go_wp2_with fail
    refine (p_free w.heap.size p c bp w40 P.out).mono ?_
    rintro x w41 ⟨rfl, h, hf⟩
    replace HB := Lib.hid (hf.below HB.out HB.out.size FA.out.1 FA.out.2.1)
    replace Q := Lib.hid (Q.out.fr hf FA.out.2.2.2.2.1 FA.out.2.2.2.2.2.1 FA.out.2.2.2.2.2.2.1 FA.out.2.2.2.2.2.2.2)
    replace P := Lib.hid h
    clear h hf
    generalize putI bp 0 2 65535 = bq at *
    go_wp2_with fail
    refine (p_free2 w.heap.size p c bq w41 P.out).mono ?_
    rintro x w42 ⟨rfl, hb⟩
    replace HB := Lib.hid (stepB HB.out hb)
    replace P := Lib.hid (P.out.later hb)
    replace Q := Lib.hid (Q.out.later hb)
    clear hb
    go_wp2_with fail
    refine (p_write2 w.heap.size p c bq w42 P.out).mono ?_
    rintro x w43 ⟨rfl, hb⟩
    replace HB := Lib.hid (stepB HB.out hb)
    replace P := Lib.hid (P.out.later hb)
    replace Q := Lib.hid (Q.out.later hb)
    clear hb
    go_wp2_with fail
    refine (p_is w.heap.size p c bq w43 P.out).mono ?_
    rintro x w44 ⟨rfl, hb⟩
    replace HB := Lib.hid (stepB HB.out hb)
    replace P := Lib.hid (P.out.later hb)
    replace Q := Lib.hid (Q.out.later hb)
    clear hb
    go_wp2
    go_loopw [16] (fun i wr => ∃ k : Nat, k ≤ 2048 ∧ i = .int .i64 k ∧ PgAt wr w.heap.size q d 2 (2 * (k : Int)) 65535 (ev k) zs ∧ Below w.heap.size w wr) (fun i _ => 2048 - (intOf i).toNat)
    case atStart => exact ⟨0, by omega, rfl, Q.out, HB.out⟩
    case round =>
      obtain ⟨k, hk, rfl, hq, hb⟩ := hrel
      replace Q := Lib.hid hq
      replace HB := Lib.hid hb
      clear hq hb P
      by_cases hlt : k < 2048
      · have d1 : decide ((k : Int) < 2048) = true := decide_eq_true (by omega)
        have wk : IntKind.i64.wrap ((k : Int) + 1) = (k : Int) + 1 := IntWalk.i64_in _ (by omega)
        have w2 : IntKind.i64.wrap (2 * (k : Int)) = 2 * (k : Int) := IntWalk.i64_in _ (by omega)
        go_wp2_with fail
        refine (q_step w.heap.size q d k wr hlt Q.out).mono ?_
        rintro x w80 ⟨rfl, h, hf⟩
        replace HB := Lib.hid (hf.below HB.out HB.out.size FA.out.2.2.1 FA.out.2.2.2.1)
        replace Q := Lib.hid h
        clear h hf
        go_wp2
        go_roundw
        case rel => exact ⟨k + 1, by omega, by go_num, Q.out, HB.out⟩
        case measure => simp [intOf]; omega
      · obtain rfl : k = 2048 := by omega
        have QF : Hid (PgAt wr w.heap.size q d 2 4096 65535 (ev 2048) zs) := Q.out
        clear Q
        obtain ⟨w90, rfl⟩ : ∃ w90 : World, w90 = wr := ⟨_, rfl⟩
        go_wp2_with fail
        refine (q_full w.heap.size q d w90 QF.out).mono ?_
        rintro x w91 ⟨rfl, hb⟩
        replace HB := Lib.hid (stepB HB.out hb)
        replace QF := Lib.hid (QF.out.later hb)
        clear hb
        go_wp2_with fail
        refine (q_is w.heap.size q d 4094 true w91 QF.out (by decide) ev_is.1).mono ?_
        rintro x w92 ⟨rfl, hb⟩
        replace HB := Lib.hid (stepB HB.out hb)
        replace QF := Lib.hid (QF.out.later hb)
        clear hb
        go_wp2_with fail
        refine (q_is w.heap.size q d 4096 false w92 QF.out (by decide) ev_is.2.1).mono ?_
        rintro x w93 ⟨rfl, hb⟩
        replace HB := Lib.hid (stepB HB.out hb)
        replace QF := Lib.hid (QF.out.later hb)
        clear hb
        go_wp2_with fail
        refine (q_is w.heap.size q d 1 false w93 QF.out (by decide) ev_is.2.2).mono ?_
        rintro x w94 ⟨rfl, hb⟩
        replace HB := Lib.hid (stepB HB.out hb)
        replace QF := Lib.hid (QF.out.later hb)
        clear hb
        go_wp2_with fail
        refine (q_free w.heap.size q d w94 QF.out).mono ?_
        rintro x w95 ⟨rfl, h, hf⟩
        replace HB := Lib.hid (hf.below HB.out HB.out.size FA.out.2.2.1 FA.out.2.2.2.1)
        replace QF := Lib.hid h
        clear h hf
        go_wp2_with fail
        refine (q_al w.heap.size q d w95 QF.out).mono ?_
        rintro x w99 ⟨rfl, hf⟩
        replace HB := Lib.hid (hf.below HB.out HB.out.size FA.out.2.2.1 FA.out.2.2.2.1)
        clear hf QF
        go_wp2
        go_ret
        exact ⟨rfl, HB.out⟩


set_option maxRecDepth 100000 in
theorem lifted (os : Os) (started : os.Started) (H : Type) (enc : TypeId × Value → H) :
    ReturnsInHanded {} Try.checked os 3 .any (Rows.pageNamesSpec.pre6 enc Try.prog Try.f3 Rows.pageNamesRow.domain false) (Rows.pageNamesSpec.post enc Try.prog Try.f3 false true false false) := by
  refine returnsInHanded_of_change_sized (C := Try.checked) own started (by kernel_rfl) Try.func3
    (ChangeSpec.witness6 (enc := enc) (C := Try.checked) false ⟨#[], #[], []⟩ 8 (by kernel_rfl) (by kernel_rfl) (by kernel_rfl) (by kernel_rfl)) ?_
  intro W base args ds gs before hval0 hW _ hsz _
  have hval : ∀ (j : Nat) t v, Try.f3.params[j]? = some t → args[j]? = some v → Value.okWide Try.prog W .any base t v := hval0
  have hW' := hW
  obtain ⟨p, q, hA0, hV, hbef, _, _⟩ := hW
  have hA : DataW.TrodAll enc Try.prog W 0 (fun _ => true) true Try.f3.params.toList args.toList ds p := hA0
  rw [Try.params3] at hA hval
  obtain ⟨h1, rfl, rfl⟩ := trodAll_nil hA
  obtain rfl : args = #[] := by cases args; simp_all
  obtain ⟨rfl, rfl⟩ := trodVars_none hV
  refine (walk W).mono fun e W' ⟨he, hb⟩ => ?_
  subst he
  exact ⟨_, rfl, law_post laidOut (of_decide_eq_true (by kernel_rfl)) rfl Try.underlying4 rfl rfl hW' hb⟩

theorem over : Rows.pageNamesRow.holds Try.pinned (OpenSpec.ofChange Rows.pageNamesSpec) :=
  OpenClaim.holds_of_wide 3 Try.f3 rfl rfl rfl rfl rfl rfl rfl ⟨rfl, rfl, rfl, rfl, rfl⟩ rfl rfl rfl rfl rfl (by kernel_rfl) Try.func3 (by kernel_rfl)
    (of_decide_eq_true (by kernel_rfl)) (by unfold Func.isWrapper; first | (rw [if_pos (by decide +kernel)]; kernel_rfl) | (rw [if_neg (by decide +kernel)]; exact ⟨rfl, rfl⟩))
    (fun os started H enc _ => lifted os started H enc)

end Go.Proofs.Ytjkohdenmiljpaa.pageNames
namespace Go.Proofs.Ytjkohdenmiljpaa
theorem pageNames_holds : Rows.PageNamesSaid := pageNames.over
end Go.Proofs.Ytjkohdenmiljpaa
