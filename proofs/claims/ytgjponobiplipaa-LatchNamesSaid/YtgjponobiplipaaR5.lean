/-
The examples; nobody's latches; names that are nearly the same; the row of names. Closed.
-/
import Derived.Test.YtgjponobiplipaaQ5
import Derived.Test.YtgjponobiplipaaRows
namespace Go.Proofs.Ytgjponobiplipaa.latchNames
open Go.ChangeShapes Go.WideShapes Go.ChangeAt Go.RowKit Go.Maps
set_option linter.unusedVariables false
set_option linter.unusedSimpArgs false

theorem own : ownKnob Try.prog.godebug = none := by kernel_rfl
theorem laidOut : laidOutB Try.prog = true := by kernel_rfl

set_option maxRecDepth 100000 in
set_option maxHeartbeats 16000000 in
theorem walk (w : World) : Calls Try.prog 3 #[] w (fun e w' => e = .returned (.bool true) ∧ Below w.heap.size w w') := by
  have HB0 := Lib.hid (Below.refl w.heap.size w)
  go_enter Try.func3, Try.ntmps3
  go_wp2_with fail
  refine (owner_nil _).mono ?_
  rintro x w1 ⟨rfl, hb⟩
  have HB1 := Lib.hid (stepB HB0.out hb)
  clear hb HB0
  go_wp2_with fail
  refine (awake_any _).mono ?_
  rintro x w2 ⟨rfl, hb⟩
  have HB2 := Lib.hid (stepB HB1.out hb)
  clear hb HB1
  go_wp2_with fail
  refine (try_nil _).mono ?_
  rintro x w3 ⟨rfl, hb⟩
  have HB3 := Lib.hid (stepB HB2.out hb)
  clear hb HB2
  go_wp2_with fail
  refine (drop_nil _).mono ?_
  rintro x w4 ⟨rfl, hb⟩
  have HB4 := Lib.hid (stepB HB3.out hb)
  clear hb HB3
  go_wp2_with fail
  refine (held_nil _).mono ?_
  rintro x w5 ⟨rfl, hb⟩
  have HB5 := Lib.hid (stepB HB4.out hb)
  clear hb HB4
  go_wp2_with fail
  refine (all_nil _).mono ?_
  rintro x w6 ⟨rfl, hb⟩
  have HB6 := Lib.hid (stepB HB5.out hb)
  clear hb HB5
  go_wp2_with fail
  refine (copy_nil _).mono ?_
  rintro x w7 ⟨rfl, hb⟩
  have HB7 := Lib.hid (stepB HB6.out hb)
  clear hb HB6
  go_wp2_with fail
  refine (new_any w7).mono ?_
  rintro x w8 ⟨rfl, ho, hb⟩
  have P := Lib.hid (ho.base HB7.out.size)
  have HB := Lib.hid (stepB HB7.out hb)
  clear ho hb HB7
  generalize w7.heap.size + 1 = p at *
  generalize w7.heap.size = b at *
  have rg0 : rg 0 := by unfold rg; decide
  have HR0 := Lib.hid rg0
  have HOW : Hid (∀ W, LaAt W w.heap.size p b [] → Calls Try.prog 9 #[.pointer (some ⟨p, 0, none⟩), .agg #[.int .u8 0, .int .u64 0]] W fun x w' => x = .returned (.tuple #[.int .i64 0, .bool false]) ∧ Below W.heap.size W w') := fun W h => owner_any w.heap.size p b [] 0 W h rg0
  have HDR : Hid (∀ W, LaAt W w.heap.size p b [] → Calls Try.prog 12 #[.pointer (some ⟨p, 0, none⟩), .agg #[.int .u8 0, .int .u64 0], .int .i64 0] W (LEnd w.heap.size p b [] (.bool false) W)) := fun W h => drop_any w.heap.size p b [] 0 0 W h rg0
  clear rg0
  go_wp2_with fail
  refine (HOW.out _ P.out).mono ?_
  rintro x w9 ⟨rfl, hb⟩
  replace P := Lib.hid (P.out.later hb)
  replace HB := Lib.hid (stepB HB.out hb)
  clear hb HOW
  go_wp2_with fail
  refine (all_any w.heap.size p b [] _ P.out).mono ?_
  rintro x _ ⟨rfl, rfl⟩
  go_wp2_with fail
  refine (HDR.out _ P.out).mono ?_
  rintro x w10 ⟨rfl, ho, hg⟩
  replace HB := Lib.hid (P.out.below HB.out hg)
  replace P := Lib.hid ho
  clear ho hg HDR
  have hbl : Below w10.heap.size w10 (w10.alloc (.cells #[.int .u8 255, .int .u64 18446744073709551615, .int .u8 1, .int .u64 2, .int .u8 2, .int .u64 1, .int .u8 0, .int .u64 18446744073709551615, .int .u8 0, .int .u64 0, .int .u8 1, .int .u64 258] 27)) := (Below.refl _ _).alloc (Nat.le_refl _) _
  have AL := Lib.hid (all6_lit w10)
  replace P := Lib.hid (P.out.later hbl)
  replace HB := Lib.hid (stepB HB.out hbl)
  clear hbl
  go_wp2_with fail
  generalize hgw : w10.alloc (.cells #[.int .u8 255, .int .u64 18446744073709551615, .int .u8 1, .int .u64 2, .int .u8 2, .int .u64 1, .int .u8 0, .int .u64 18446744073709551615, .int .u8 0, .int .u64 0, .int .u8 1, .int .u64 258] 27) = w11 at *
  generalize w10.heap.size = gA at *
  clear hgw
  go_loopw [6] (fun i wr => ∃ k : Nat, k ≤ 6 ∧ i = .int .i64 k ∧ LaAt wr w.heap.size p b (cK k) ∧ NSl wr gA (some ⟨gA, 0, none⟩) all6L ∧ Below w.heap.size w wr) (fun i _ => 6 - (intOf i).toNat)
  case atStart => exact ⟨0, by omega, rfl, P.out, AL.out, HB.out⟩
  case round =>
    obtain ⟨k, hk, rfl, ho, hs, hb⟩ := hrel
    have P1 := Lib.hid ho
    have A1 := Lib.hid hs
    have HB1 := Lib.hid hb
    clear ho hs hb P AL HB
    by_cases hlt : k < 6
    · have d2 : decide ((k : Int) < 6) = true := decide_eq_true (by omega)
      have wk : IntKind.i64.wrap ((k : Int) + 1) = (k : Int) + 1 := IntWalk.i64_in _ (by omega)
      have hst := cK_step k hlt
      have hrg := cK_rg k hlt
      obtain ⟨g, e, _, _, hcell⟩ := A1.out (by decide)
      cases e
      obtain ⟨x0, x1, _, _⟩ := hcell k hlt
      have i1 := nindex 30 (.inl Try.underlying30) (.inl rfl) gA 6 6 k (k : Int) rfl hlt
      have KC : Hid (∀ W, NSl W gA (some ⟨gA, 0, none⟩) all6L → W.cell? ⟨gA, k * 2, none⟩ = some (.int .u8 (all6L.getD k 0 / 18446744073709551616)) ∧ W.cell? ⟨gA, k * 2 + 1, none⟩ = some (.int .u64 (all6L.getD k 0 % 18446744073709551616))) := fun W h => by
        obtain ⟨g', e', _, _, hc⟩ := h (by decide)
        cases e'
        exact ⟨(hc k hlt).1, (hc k hlt).2.1⟩
      have T1 : Hid (∀ W, LaAt W w.heap.size p b (cK k) → Calls Try.prog 11 #[.pointer (some ⟨p, 0, none⟩), .agg #[.int .u8 (all6L.getD k 0 / 18446744073709551616), .int .u64 (all6L.getD k 0 % 18446744073709551616)], .int .i64 (-5)] W (LEnd w.heap.size p b (cK (k + 1)) (.bool true) W)) := fun W h => by
        have h := try_any w.heap.size p b (cK k) (all6L.getD k 0) (-5) W h hrg (by decide) (by rw [hst.2.2.2.2]; omega)
        rw [hst.1] at h
        exact h
      have T2 : Hid (∀ W, LaAt W w.heap.size p b (cK (k + 1)) → Calls Try.prog 11 #[.pointer (some ⟨p, 0, none⟩), .agg #[.int .u8 (all6L.getD k 0 / 18446744073709551616), .int .u64 (all6L.getD k 0 % 18446744073709551616)], .int .i64 5] W (LEnd w.heap.size p b (cK (k + 1)) (.bool false) W)) := fun W h => by
        have h := try_any w.heap.size p b (cK (k + 1)) (all6L.getD k 0) 5 W h hrg (by decide) (by rw [hst.2.2.2.1]; omega)
        rw [hst.2.1, hst.2.2.1] at h
        exact h
      have HLN : Hid (((cK (k + 1)).length : Int) = (k : Int) + 1) := by show _ = _; rw [hst.2.2.2.1]; omega
      have dk : ((k : Int) + 1 != (k : Int) + 1) = false := by simp
      generalize all6L.getD k 0 / 18446744073709551616 = zk at *
      generalize all6L.getD k 0 % 18446744073709551616 = zi at *
      generalize hCC : cK (k + 1) = CC at *
      have HCC := Lib.hid hCC
      clear hcell hst hrg hCC
      go_wp2_with fail
      refine (T1.out _ P1.out).mono ?_
      rintro x w12 ⟨rfl, ho, hg⟩
      have A2 := Lib.hid (A1.out.other P1.out hg)
      have HB2 := Lib.hid (P1.out.below HB1.out hg)
      have P2 := Lib.hid ho
      clear ho hg A1 P1 HB1 T1 x0 x1
      obtain ⟨x0, x1⟩ := KC.out _ A2.out
      go_wp2_with fail
      refine (T2.out _ P2.out).mono ?_
      rintro x w13 ⟨rfl, ho, hg⟩
      have A3 := Lib.hid (A2.out.other P2.out hg)
      have HB3 := Lib.hid (P2.out.below HB2.out hg)
      have P3 := Lib.hid ho
      clear ho hg A2 P2 HB2 T2 x0 x1
      go_wp2_with fail
      refine (all_any w.heap.size p b CC _ P3.out).mono ?_
      rintro x _ ⟨rfl, rfl⟩
      rw [HLN.out]
      clear KC i1
      go_wp2
      go_roundw
      case rel => exact ⟨k + 1, by omega, by go_num, by rw [HCC.out]; exact P3.out, A3.out, HB3.out⟩
      case measure => simp [intOf]; omega
    · obtain rfl : k = 6 := by omega
      have d2 : decide ((6 : Int) < 6) = false := by decide
      obtain ⟨hh1, hh2, hh3⟩ := cK_held
      have H1 : Hid (∀ W, LaAt W w.heap.size p b (cK 6) → Calls Try.prog 13 #[.pointer (some ⟨p, 0, none⟩), .int .i64 (-5)] W (HeldEnd srt6L W)) := fun W h => by rw [← hh1]; exact held_any w.heap.size p b (cK 6) (-5) W h (by rw [hh3]; omega)
      have H2 : Hid (∀ W, LaAt W w.heap.size p b (cK 6) → Calls Try.prog 13 #[.pointer (some ⟨p, 0, none⟩), .int .i64 5] W (HeldEnd [] W)) := fun W h => by rw [← hh2]; exact held_any w.heap.size p b (cK 6) 5 W h (by rw [hh3]; omega)
      clear hh1 hh2 hh3
      go_wp2_with fail
      refine (H1.out _ P1.out).mono ?_
      rintro x w12 ⟨A5, c5, rfl, hsl, hb⟩
      have HS5 := Lib.hid hsl
      have P5 := Lib.hid (P1.out.later hb)
      have HB5 := Lib.hid (stepB HB1.out hb)
      clear hsl hb P1 HB1 H1
      go_wp2_with fail
      refine (names_any _ A5 c5 srt6L _ HS5.out (by decide)).mono ?_
      rintro x w6 ⟨A6, c6, rfl, hsl, hb⟩
      have hb7 : Below w6.heap.size w6 (w6.alloc (.cells #[.int .u8 0, .int .u64 0, .int .u8 0, .int .u64 18446744073709551615, .int .u8 1, .int .u64 2, .int .u8 1, .int .u64 258, .int .u8 2, .int .u64 1, .int .u8 255, .int .u64 18446744073709551615] 37)) := (Below.refl _ _).alloc (Nat.le_refl _) _
      have HS7 := Lib.hid (hsl.later hb7)
      have P7 := Lib.hid (P5.out.later (stepB hb hb7))
      have HB7 := Lib.hid (stepB (stepB HB5.out hb) hb7)
      have HL7 := Lib.hid (srt6_lit w6)
      clear hsl hb hb7 HS5 HB5 P5
      go_wp2_with fail
      refine (same_names _ _ A6 (some ⟨w6.heap.size, 0, none⟩) c6 6 srt6L _ HS7.out HL7.out (by decide)).mono ?_
      rintro x w8' ⟨rfl, hb⟩
      have HB8 := Lib.hid (stepB HB7.out hb)
      have P8 := Lib.hid (P7.out.later hb)
      clear hb HB7 HS7 HL7 P7
      go_wp2_with fail
      refine (H2.out _ P8.out).mono ?_
      rintro x w9' ⟨A9, c9, rfl, hsl, hb⟩
      have HB9 := Lib.hid (stepB HB8.out hb)
      clear hsl hb
      go_wp2
      go_ret
      exact ⟨rfl, HB9.out⟩


set_option maxRecDepth 100000 in
theorem lifted (os : Os) (started : os.Started) (H : Type) (enc : TypeId × Value → H) :
    ReturnsInHanded {} Try.checked os 3 .any (Rows.latchNamesSpec.pre6 enc Try.prog Try.f3 Rows.latchNamesRow.domain false) (Rows.latchNamesSpec.post enc Try.prog Try.f3 false true false false) := by
  refine returnsInHanded_of_change_sized (C := Try.checked) own started (by kernel_rfl) Try.func3
    (ChangeSpec.witness6 (enc := enc) (C := Try.checked) false ⟨#[], #[], []⟩ 8 (by kernel_rfl) (by kernel_rfl) (by kernel_rfl) (by kernel_rfl)) ?_
  intro W base args ds gs before hval0 hW _ hsz _
  have hval : ∀ (j : Nat) t v, Try.f3.params[j]? = some t → args[j]? = some v → Value.okWide Try.prog W .any base t v := hval0
  have hW' := hW
  obtain ⟨p, q, hA0, hV, hbef, _, _⟩ := hW
  have hA : DataW.TrodAll enc Try.prog W 0 (fun _ => true) true Try.f3.params.toList args.toList ds p := hA0
  rw [Try.params3] at hA hval
  obtain ⟨h1, rfl, rfl⟩ := trodAll_nil hA
  obtain rfl : args = #[] := by cases args; simp_all
  obtain ⟨rfl, rfl⟩ := trodVars_none hV
  refine (walk W).mono fun e W' ⟨he, hb⟩ => ?_
  subst he
  exact ⟨_, rfl, law_post laidOut (of_decide_eq_true (by kernel_rfl)) rfl Try.underlying4 rfl rfl hW' hb⟩

theorem over : Rows.latchNamesRow.holds Try.pinned (OpenSpec.ofChange Rows.latchNamesSpec) :=
  OpenClaim.holds_of_wide 3 Try.f3 rfl rfl rfl rfl rfl rfl rfl ⟨rfl, rfl, rfl, rfl, rfl⟩ rfl rfl rfl rfl rfl (by kernel_rfl) Try.func3 (by kernel_rfl)
    (of_decide_eq_true (by kernel_rfl)) (by unfold Func.isWrapper; first | (rw [if_pos (by decide +kernel)]; kernel_rfl) | (rw [if_neg (by decide +kernel)]; exact ⟨rfl, rfl⟩))
    (fun os started H enc _ => lifted os started H enc)

end Go.Proofs.Ytgjponobiplipaa.latchNames
namespace Go.Proofs.Ytgjponobiplipaa
theorem latchNames_holds : Rows.LatchNamesSaid := latchNames.over
end Go.Proofs.Ytgjponobiplipaa
