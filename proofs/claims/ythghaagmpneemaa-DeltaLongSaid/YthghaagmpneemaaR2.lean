/-
Whatever two values of 256 bytes at most, place and byte: a delta has 4 bytes more than the older value at most, 4 of a value and itself, 5 of two that differ in one byte, the last one that byte; no condition.
-/
import Derived.Test.YthghaagmpneemaaLF
import Derived.Test.YthghaagmpneemaaX
import Derived.ChangeMaps5
namespace Go.Proofs.Ythghaagmpneemaa.deltaLong
open Go.ChangeShapes Go.WideShapes Go.ChangeAt Go.RowKit Go.ChangeMaps
set_option linter.unusedVariables false

theorem own : ownKnob Try.prog.godebug = none := by kernel_rfl
theorem laidOut : laidOutB Try.prog = true := by kernel_rfl

set_option maxRecDepth 100000 in
set_option maxHeartbeats 4000000 in
theorem walk_in (a b : ByteArray) (at_ y : Int) (w : World) (ha : a.size ≤ maxLen) (hb : b.size ≤ maxLen) (hy : 0 ≤ y ∧ y ≤ 255) (hat : -9223372036854775808 ≤ at_ ∧ at_ ≤ 9223372036854775807) :
    Calls Try.prog 6 #[.string a, .string b, .int .i64 at_, .int .u8 y] w fun e w' => e = .returned (.bool true) ∧ Below w.heap.size w w' := by
  unfold maxLen at ha hb
  by_cases z1 : 256 < a.size
  · go_enter Try.func6, Try.ntmps6
    go_wp2_with fail
    refine (awake_any _).mono ?_
    rintro e w1 ⟨rfl, hb⟩
    have H1 : Hid (Below w.heap.size w w1) := hb
    clear hb
    go_wp2_with fail
    go_ret
    exact ⟨rfl, H1.out⟩
  by_cases z2 : 256 < b.size
  · go_enter Try.func6, Try.ntmps6
    go_wp2_with fail
    refine (awake_any _).mono ?_
    rintro e w1 ⟨rfl, hb⟩
    have H1 : Hid (Below w.heap.size w w1) := hb
    clear hb
    go_wp2_with fail
    go_ret
    exact ⟨rfl, H1.out⟩
  by_cases z3 : b.size = 0
  · have h0 : ((b.size : Int) == 0) = true := by rw [beq_iff_eq]; omega
    clear z3
    go_enter Try.func6, Try.ntmps6
    go_wp2_with fail
    refine (awake_any _).mono ?_
    rintro e w1 ⟨rfl, hb⟩
    have H1 : Hid (Below w.heap.size w w1) := hb
    clear hb
    go_wp2_with fail
    refine (make_yes a b _ (by omega) (by omega)).mono ?_
    rintro e w2 ⟨rfl, hb⟩
    have H2 : Hid (Below w.heap.size w w2) := H1.out.trans (hb.mono H1.out.size)
    clear hb H1
    have hM : (str (mk (bl a) (bl b))).size ≤ 4 + b.size := by rw [str_size, mk_len, bl_len]; omega
    generalize str (mk (bl a) (bl b)) = M at *
    go_wp2_with fail
    refine (make_yes b b _ (by omega) (by omega)).mono ?_
    rintro e w3 ⟨rfl, hb⟩
    have H3 : Hid (Below w.heap.size w w3) := H2.out.trans (hb.mono H2.out.size)
    clear hb H2
    have hS : (((str (mk (bl b) (bl b))).size : Int) != 4) = false := by rw [str_size, mk_self_len]; decide
    generalize str (mk (bl b) (bl b)) = S at *

    go_wp2_with fail
    go_ret
    exact ⟨rfl, H3.out⟩
  have h0 : ((b.size : Int) == 0) = false := by rw [beq_eq_false_iff_ne]; omega
  by_cases z4 : y = 0
  · have h1 : (y == 0) = true := by rw [beq_iff_eq]; exact z4
    clear z4
    go_enter Try.func6, Try.ntmps6
    go_wp2_with fail
    refine (awake_any _).mono ?_
    rintro e w1 ⟨rfl, hb⟩
    have H1 : Hid (Below w.heap.size w w1) := hb
    clear hb
    go_wp2_with fail
    refine (make_yes a b _ (by omega) (by omega)).mono ?_
    rintro e w2 ⟨rfl, hb⟩
    have H2 : Hid (Below w.heap.size w w2) := H1.out.trans (hb.mono H1.out.size)
    clear hb H1
    have hM : (str (mk (bl a) (bl b))).size ≤ 4 + b.size := by rw [str_size, mk_len, bl_len]; omega
    generalize str (mk (bl a) (bl b)) = M at *
    go_wp2_with fail
    refine (make_yes b b _ (by omega) (by omega)).mono ?_
    rintro e w3 ⟨rfl, hb⟩
    have H3 : Hid (Below w.heap.size w w3) := H2.out.trans (hb.mono H2.out.size)
    clear hb H2
    have hS : (((str (mk (bl b) (bl b))).size : Int) != 4) = false := by rw [str_size, mk_self_len]; decide
    generalize str (mk (bl b) (bl b)) = S at *

    go_wp2_with fail
    go_ret
    exact ⟨rfl, H3.out⟩
  have h1 : (y == 0) = false := by rw [beq_eq_false_iff_ne]; exact z4
  go_enter Try.func6, Try.ntmps6
  go_wp2_with fail
  refine (awake_any _).mono ?_
  rintro e w1 ⟨rfl, hb⟩
  have H1 : Hid (Below w.heap.size w w1) := hb
  clear hb
  go_wp2_with fail
  refine (make_yes a b _ (by omega) (by omega)).mono ?_
  rintro e w2 ⟨rfl, hb⟩
  have H2 : Hid (Below w.heap.size w w2) := H1.out.trans (hb.mono H1.out.size)
  clear hb H1
  have hM : (str (mk (bl a) (bl b))).size ≤ 4 + b.size := by rw [str_size, mk_len, bl_len]; omega
  generalize str (mk (bl a) (bl b)) = M at *
  go_wp2_with fail
  refine (make_yes b b _ (by omega) (by omega)).mono ?_
  rintro e w3 ⟨rfl, hb⟩
  have H3 : Hid (Below w.heap.size w w3) := H2.out.trans (hb.mono H2.out.size)
  clear hb H2
  have hS : (((str (mk (bl b) (bl b))).size : Int) != 4) = false := by rw [str_size, mk_self_len]; decide
  generalize str (mk (bl b) (bl b)) = S at *

  obtain ⟨k, hk, hkk⟩ := pick_nat at_ b.size (by omega) (by omega)
  have Hkk := Lib.hid hkk
  clear hkk
  go_wp2_with fail
  rw [Hkk.out]
  have HSet := Lib.hid (conv_own b w3)
  obtain ⟨c, C, f, hcv, hC, hf, hfc, hcc⟩ := HSet.out
  have HC := Lib.hid hC
  have Hf := Lib.hid hf
  have hcell : (w3.alloc (.cells C 5 f)).cell? ⟨w3.heap.size, k, none⟩ = some (.int .u8 (((bl b).getD k 0).toNat : Int)) := by rw [cell_new]; exact hC k hk
  have hfroz : (w3.alloc (.cells C 5 f)).frozen? ⟨w3.heap.size, k, none⟩ = false := frozen_new _ _ _ _ _ (by omega)
  obtain ⟨x, hx⟩ : ∃ x : UInt8, (bl b).getD k 0 = x := ⟨_, rfl⟩
  rw [hx] at hcell
  have Hx := Lib.hid hx
  clear HSet hC hf hx
  rw [hcv]
  clear hcv
  simp only [Result.andThen]
  rw [Oper.upon_value]
  go_wp2_with fail
  obtain ⟨y8, rfl⟩ : ∃ y8 : UInt8, ((y8.toNat : Nat) : Int) = y := ⟨UInt8.ofNat y.toNat, by rw [toNat_ofNat _ (by omega)]; omega⟩
  have hxy : bits BinOp.xor IntKind.u8 (x.toNat : Int) (y8.toNat : Int) = (((x ^^^ y8).toNat : Nat) : Int) := by
    rw [u8_xor_nat _ _ x.toNat_lt y8.toNat_lt, UInt8.toNat_xor]
  have hy8 : y8 ≠ 0 := fun e => z4 (by rw [e]; rfl)
  rw [hxy, setCell_frz]
  have hne : (x ^^^ y8) ≠ (bl b).getD k 0 := by rw [Hx.out]; exact xor_ne x y8 hy8
  clear hxy hcell hfroz
  obtain ⟨z, hz⟩ : ∃ z, x ^^^ y8 = z := ⟨_, rfl⟩
  rw [hz] at hne ⊢
  clear hz
  have hk' : k < (bl b).length := by rw [bl_len]; exact hk
  have HR : Hid (RdB (w3.alloc (.cells (C.setIfInBounds k (.int .u8 (z.toNat : Int))) 5 f)) (some ⟨w3.heap.size, 0, none⟩) b.size (intsOf ((bl b).set k z))) := by
    refine rd_new _ _ _ _ _ _ (by rw [List.length_set, bl_len]) fun j hj => ?_
    rw [Array.getElem?_setIfInBounds, List.getD_eq_getElem?_getD, List.getElem?_set]
    by_cases e : k = j
    · subst e
      rw [if_pos rfl, if_pos rfl, if_pos (by omega), if_pos hk']; rfl
    · rw [if_neg e, if_neg e, HC.out j hj, List.getD_eq_getElem?_getD]
  have Hlen := Lib.hid (mk_set_len (bl b) k z hk' hne)
  have Hat := Lib.hid (mk_set_at (bl b) k z hk' hne)
  have Hb4 : Hid (Below w.heap.size w (w3.alloc (.cells (C.setIfInBounds k (.int .u8 (z.toNat : Int))) 5 f)).drew) := (H3.out.alloc H3.out.size _).drew
  have hpos : 0 < b.size := by omega
  rw [conv_back w3.heap.size ((bl b).set k z) b.size c _ HR.out hpos _ (fun a => by simp)]
  have hsz : (str ((bl b).set k z)).size ≤ 256 := by rw [str_size, List.length_set, bl_len]; omega
  have hbl : Hid (bl (str ((bl b).set k z)) = (bl b).set k z) := bl_str _
  clear HR HC H3
  generalize (w3.alloc (.cells (C.setIfInBounds k (.int .u8 (z.toNat : Int))) 5 f)).drew = w4 at *
  simp only [Result.andThen]
  rw [Oper.upon_value]
  rw [show ({ data := ((bl b).set k z).toArray } : ByteArray) = str ((bl b).set k z) from rfl]
  obtain ⟨Z, hZ⟩ : ∃ Z, str ((bl b).set k z) = Z := ⟨_, rfl⟩
  rw [hZ] at hsz hbl ⊢
  have HZ := Lib.hid hZ
  clear hZ
  go_wp2_with fail
  refine (make_yes Z b _ hsz (by omega)).mono ?_
  rintro e w5 ⟨rfl, hb⟩
  have H5 : Hid (Below w.heap.size w w5) := Hb4.out.trans (hb.mono Hb4.out.size)
  clear hb Hb4
  rw [hbl.out]
  have hl5 : (str (mk ((bl b).set k z) (bl b))).size = 5 := by rw [str_size]; exact Hlen.out
  have hq4 : (bl (str (mk ((bl b).set k z) (bl b)))).getD 4 0 = (bl b).getD k 0 := by rw [bl_str]; exact Hat.out
  obtain ⟨Y, hY⟩ : ∃ Y, str (mk ((bl b).set k z) (bl b)) = Y := ⟨_, rfl⟩
  rw [hY] at hl5 hq4 ⊢
  clear hY
  have hi1 : ∀ W, (Instr.index 9 (.string Y) (.int .i64 4)).run Try.prog W = .ok (.int .u8 (x.toNat : Int)) W := fun W => by
    have := index_s Y 4 W (by omega)
    rw [hq4, Hx.out] at this
    exact this
  have hi2 : ∀ W, (Instr.index 9 (.string b) (.int .i64 (k : Int))).run Try.prog W = .ok (.int .u8 (x.toNat : Int)) W := fun W => by
    have := index_s b k W hk
    rw [Hx.out] at this
    exact this
  have hz5 : ((Y.size : Int) == 5) = true := by rw [beq_iff_eq]; omega
  clear hl5 hq4
  go_wp2_with fail
  go_quiet (fail)
  have H6 := Lib.hid (below_drewN H5.out nq)
  go_wp2_with fail
  go_ret
  exact ⟨rfl, H6.out⟩

theorem walk (a : ByteArray) (ha : a.size ≤ maxLen) (b : ByteArray) (hb : b.size ≤ maxLen) (at_ : Int) (hat : (Lit.int .i64 at_).wf = true) (y : Int) (hy : (Lit.int .u8 y).wf = true) (w : World) :
    Calls Try.prog 6 #[.string a, .string b, .int .i64 at_, .int .u8 y] w fun e w' => e = .returned (.bool true) ∧ Below w.heap.size w w' :=
  walk_in a b at_ y w ha hb (by have := byte_of_wf hy; omega) (by have := i64_of_wf hat; omega)


set_option maxRecDepth 100000 in
theorem lifted (os : Os) (started : os.Started) (H : Type) (enc : TypeId × Value → H) :
    ReturnsInHanded {} Try.checked os 6 .any (Rows.deltaLongSpec.pre6 enc Try.prog Try.f6 Rows.deltaLongRow.domain false) (Rows.deltaLongSpec.post enc Try.prog Try.f6 false true false false) := by
  refine returnsInHanded_of_change_sized (C := Try.checked) own started (by kernel_rfl) Try.func6
    (ChangeSpec.witness6 (enc := enc) (C := Try.checked) false ⟨#[], #[.string ⟨#[]⟩, .string ⟨#[]⟩, .int .i64 0, .int .u8 0], []⟩ 8 (by kernel_rfl) (by kernel_rfl) (by kernel_rfl) (by kernel_rfl)) ?_
  intro W base args ds gs before hval0 hW _ hsz _
  have hval : ∀ (j : Nat) t v, Try.f6.params[j]? = some t → args[j]? = some v → Value.okWide Try.prog W .any base t v := hval0
  have hW' := hW
  obtain ⟨p, q, hA0, hV, hbef, _, _⟩ := hW
  have hA : DataW.TrodAll enc Try.prog W 0 (fun _ => true) true Try.f6.params.toList args.toList ds p := hA0
  rw [Try.params6] at hA hval
  obtain ⟨v0, vs0, d0, ds0, p0, q0, hargs, rfl, rfl, h0, r0⟩ := trodAll_cons hA
  obtain ⟨v1, vs1, d1, ds1, p1, q1, rfl, rfl, rfl, h1, r1⟩ := trodAll_cons r0
  obtain ⟨v2, vs2, d2, ds2, p2, q2, rfl, rfl, rfl, h2, r2⟩ := trodAll_cons r1
  obtain ⟨v3, vs3, d3, ds3, p3, q3, rfl, rfl, rfl, h3, r3⟩ := trodAll_cons r2
  obtain ⟨rfl, rfl, rfl⟩ := trodAll_nil r3
  obtain rfl : args = #[v0, v1, v2, v3] := by cases args; simp_all
  obtain ⟨rfl, rfl⟩ := trodVars_none hV
  obtain ⟨s0, rfl, _, _, w0⟩ := open_string Try.underlying9 (hval 0 9 v0 rfl rfl) h0
  obtain ⟨s1, rfl, _, _, w1⟩ := open_string Try.underlying9 (hval 1 9 v1 rfl rfl) h1
  obtain ⟨a2, rfl, _, _, w2⟩ := open_int Try.underlying3 (hval 2 3 v2 rfl rfl) h2
  obtain ⟨a3, rfl, _, _, w3⟩ := open_int Try.underlying5 (hval 3 5 v3 rfl rfl) h3
  refine (walk s0 w0 s1 w1 a2 w2 a3 w3 W).mono fun e W' ⟨he, hb⟩ => ?_
  subst he
  exact ⟨_, rfl, law_post laidOut (of_decide_eq_true (by kernel_rfl)) rfl Try.underlying4 rfl rfl hW' hb⟩

theorem over : Rows.deltaLongRow.holds Try.pinned (OpenSpec.ofChange Rows.deltaLongSpec) :=
  OpenClaim.holds_of_wide 6 Try.f6 rfl rfl rfl rfl rfl rfl rfl ⟨rfl, rfl, rfl, rfl, rfl⟩ rfl rfl rfl rfl rfl (by kernel_rfl) Try.func6 (by kernel_rfl)
    (of_decide_eq_true (by kernel_rfl)) (by unfold Func.isWrapper; first | (rw [if_pos (by decide +kernel)]; kernel_rfl) | (rw [if_neg (by decide +kernel)]; exact ⟨rfl, rfl⟩))
    (fun os started H enc _ => lifted os started H enc)

end Go.Proofs.Ythghaagmpneemaa.deltaLong
namespace Go.Proofs.Ythghaagmpneemaa
theorem deltaLong_holds : Rows.DeltaLongSaid := deltaLong.over
end Go.Proofs.Ythghaagmpneemaa
