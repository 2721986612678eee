/-
The examples of deltas; values that are too long; bytes that are no delta; a closed statement.
-/
import Derived.Test.YthghaagmpneemaaLF
import Derived.Test.YthghaagmpneemaaRC
import Derived.ChangeMaps5
namespace Go.Proofs.Ythghaagmpneemaa.deltaNames
open Go.ChangeShapes Go.WideShapes Go.ChangeAt Go.RowKit
set_option linter.unusedVariables false

theorem own : ownKnob Try.prog.godebug = none := by kernel_rfl
theorem laidOut : laidOutB Try.prog = true := by kernel_rfl

theorem mk_self (A : List UInt8) : mk A A = two A.length ++ two 0 := by
  unfold mk mid
  rw [pre_self, suf_self, List.drop_length]; simp
theorem mk_nil (A : List UInt8) : mk A [] = [0, 0, 0, 0] := by
  have h1 := (pre_is A []).le
  have h2 := (suf_is A []).le
  have e1 : pre A [] = 0 := by simpa using h1
  have e2 : suf A [] = 0 := by simpa using h2
  unfold mk mid
  rw [e1, e2]; rfl
def zs (n : Nat) : List UInt8 := List.replicate n 0
theorem zs_len (n : Nat) : (zs n).length = n := List.length_replicate
theorem conv_zs (n : Nat) (hn : 0 < n) (w : World) : (convert 23 9 (.slice (some ⟨w.heap.size, 0, none⟩) n n)).run Try.prog (w.alloc (.cells (Array.replicate n (.int .u8 0)) 5)) = .ok (.string (str (zs n))) (w.alloc (.cells (Array.replicate n (.int .u8 0)) 5)) := by
  refine conv_back w.heap.size (zs n) n n _ (rd_new w _ 5 (0, 0) (zs n) n (zs_len n) fun j hj => ?_) hn _ (fun _ => rfl)
  rw [Array.getElem?_replicate, if_pos hj]
  simp [zs, hj, List.getD_eq_getElem?_getD]
theorem six (X M : ByteArray) (n : Nat) (hn : n = 256) (hM : M = str (zs n)) (h : X = ⟨#[0, 0, 0, 0]⟩ ++ (M ++ ⟨#[120]⟩)) : X.size = 261 ∧ apR ⟨#[97, 98]⟩ X = (⟨#[]⟩, 4) := by
  have hs : X.size = 261 := by
    rw [h, hM, ByteArray.size_append, ByteArray.size_append, str_size, zs_len, hn]; rfl
  refine ⟨hs, ?_⟩
  unfold apR
  rw [if_pos (by decide), if_neg]
  intro h2
  have := (apB_yes h2).2.2.1
  rw [bl_len, hs] at this
  omega
set_option maxRecDepth 100000 in
set_option maxHeartbeats 4000000 in
theorem walk_in (w : World) : Calls Try.prog 3 #[] w fun e w' => e = .returned (.bool true) ∧ Below w.heap.size w w' := by
  go_enter Try.func3, Try.ntmps3
  go_wp2_with fail
  refine (awake_any _).mono ?_
  rintro e w1 ⟨rfl, hb⟩
  have H1 := Lib.hid hb
  clear hb
  obtain ⟨M, hM⟩ : ∃ M, M = str (zs 256) := ⟨_, rfl⟩
  have hcv := conv_zs 256 (by omega) w1
  rw [← hM] at hcv
  have hmk : ∀ W, (Instr.makeSlice 23 (.int .i64 256) (.int .i64 256)).run Try.prog W = .ok (.slice (some ⟨W.heap.size, 0, none⟩) 256 256) (W.alloc (.cells (Array.replicate 256 (.int .u8 0)) 5)) := fun _ => by kernel_rfl
  have hMs : M.size = 256 := by rw [hM, str_size, zs_len]
  have E1 : Hid (makeR M M = (⟨#[1, 0, 0, 0]⟩, 0)) := by
    show _ = _
    unfold makeR
    rw [if_pos (by omega), mk_self, bl_len, hMs]; rfl
  have E2 : Hid (apR M ⟨#[1, 0, 0, 0]⟩ = (M, 0)) := by
    show _ = _
    have e : (⟨#[1, 0, 0, 0]⟩ : ByteArray) = str (mk (bl M) (bl M)) := by rw [mk_self, bl_len, hMs]; rfl
    unfold apR
    rw [if_pos (by omega), e, bl_str, if_pos (apB_mk _ _ (by rw [bl_len]; omega) (by rw [bl_len]; omega)), ap_mk _ _ (by rw [bl_len]; omega)]; rfl
  have E3 : Hid (makeR M ⟨#[]⟩ = (⟨#[0, 0, 0, 0]⟩, 0)) := by
    show _ = _
    unfold makeR
    rw [if_pos ⟨by omega, by decide⟩]
    rw [show bl ⟨#[]⟩ = [] from rfl, mk_nil]; rfl
  obtain ⟨L, hL⟩ : ∃ L, M ++ ⟨#[120]⟩ = L := ⟨_, rfl⟩
  have hLs : L.size = 257 := by rw [← hL, ByteArray.size_append, hMs]; rfl
  have E4 : Hid (makeR L ⟨#[]⟩ = (⟨#[]⟩, 40)) := by show _ = _; unfold makeR; rw [if_neg (by omega)]
  have E5 : Hid (makeR ⟨#[]⟩ L = (⟨#[]⟩, 40)) := by show _ = _; unfold makeR; rw [if_neg (by omega)]
  have E6 : Hid (apR L ⟨#[0, 0, 0, 0]⟩ = (⟨#[]⟩, 40)) := by show _ = _; unfold apR; rw [if_neg (by omega)]
  obtain ⟨X, hX⟩ : ∃ X, ⟨#[0, 0, 0, 0]⟩ ++ L = X := ⟨_, rfl⟩
  have h6 := six X M 256 rfl hM (by rw [← hX, ← hL])
  have HXs := Lib.hid h6.1
  have HX := Lib.hid h6.2
  have hka : ∀ W, (Op.stringOp .add M ⟨#[120]⟩).run Try.prog W = .ok (.string L) W := fun W => by rw [run_string_add_if, if_neg (by rw [hMs]; decide), hL]
  have hkb : ∀ W, (Op.stringOp .add ⟨#[0, 0, 0, 0]⟩ L).run Try.prog W = .ok (.string X) W := fun W => by rw [run_string_add_if, if_neg (by rw [hLs]; decide), hX]
  clear hM hMs hL hLs hX h6
  go_wp2_with fail
  refine (make_all _ _ _).mono ?_
  rintro e w2 ⟨rfl, hb⟩
  rw [E4.out]
  have H2 : Hid (Below w.heap.size w w2) := stepB (H1.out.alloc H1.out.size _) hb
  clear hb H1 hmk hcv
  go_wp2_with fail
  refine (make_all _ _ _).mono ?_
  rintro e w3 ⟨rfl, hb⟩
  rw [E5.out]
  have H3 : Hid (Below w.heap.size w w3) := stepB H2.out hb
  clear hb H2
  go_wp2_with fail
  refine (apply_all _ _ _ (by decide)).mono ?_
  rintro e w4 ⟨rfl, hb⟩
  rw [E6.out]
  have H4 : Hid (Below w.heap.size w w4) := stepB H3.out hb
  clear hb H3
  go_wp2_with fail
  refine (make_all _ _ _).mono ?_
  rintro e w5 ⟨rfl, hb⟩
  rw [E1.out]
  have H5 : Hid (Below w.heap.size w w5) := stepB H4.out hb
  clear hb H4
  go_wp2_with fail
  refine (apply_all _ _ _ (by decide)).mono ?_
  rintro e w6 ⟨rfl, hb⟩
  rw [E2.out]
  have H6 : Hid (Below w.heap.size w w6) := stepB H5.out hb
  clear hb H5
  go_wp2_with fail
  refine (make_all _ _ _).mono ?_
  rintro e w7 ⟨rfl, hb⟩
  rw [E3.out]
  have H7 : Hid (Below w.heap.size w w7) := stepB H6.out hb
  clear hb H6
  have hq : (!M.toList == M.toList) = false := not_false_of (seq_yes rfl)
  go_upto_block 0 with (fail)
  have hSt : Strs (w7.heap.size + 1) (w7.alloc (.cells #[.string ⟨#[]⟩, .string ⟨#[0, 0, 0]⟩, .string ⟨#[0, 3, 0, 0]⟩, .string ⟨#[0, 1, 0, 2]⟩, .string ⟨#[255, 255, 255, 255]⟩, .string X, .string ⟨#[0, 0, 0, 0, 97, 98]⟩, .string ⟨#[0, 1, 0, 0, 98]⟩, .string ⟨#[0, 0, 0, 0, 97, 120]⟩, .string ⟨#[0, 0, 0, 0, 120, 98]⟩] 9)) (some ⟨w7.heap.size, 0, none⟩) 10 [⟨#[]⟩, ⟨#[0, 0, 0]⟩, ⟨#[0, 3, 0, 0]⟩, ⟨#[0, 1, 0, 2]⟩, ⟨#[255, 255, 255, 255]⟩, X, ⟨#[0, 0, 0, 0, 97, 98]⟩, ⟨#[0, 1, 0, 0, 98]⟩, ⟨#[0, 0, 0, 0, 97, 120]⟩, ⟨#[0, 0, 0, 0, 120, 98]⟩] :=
    ⟨rfl, fun _ => ⟨_, _, rfl, Nat.lt_succ_self _, fun j hj => by
      rw [Nat.zero_add, cell_new]
      rcases (show j = 0 ∨ j = 1 ∨ j = 2 ∨ j = 3 ∨ j = 4 ∨ j = 5 ∨ j = 6 ∨ j = 7 ∨ j = 8 ∨ j = 9 by omega) with rfl | rfl | rfl | rfl | rfl | rfl | rfl | rfl | rfl | rfl <;> rfl⟩⟩
  have H8 : Hid (Below w.heap.size w (w7.alloc (.cells #[.string ⟨#[]⟩, .string ⟨#[0, 0, 0]⟩, .string ⟨#[0, 3, 0, 0]⟩, .string ⟨#[0, 1, 0, 2]⟩, .string ⟨#[255, 255, 255, 255]⟩, .string X, .string ⟨#[0, 0, 0, 0, 97, 98]⟩, .string ⟨#[0, 1, 0, 0, 98]⟩, .string ⟨#[0, 0, 0, 0, 97, 120]⟩, .string ⟨#[0, 0, 0, 0, 120, 98]⟩] 9))) := H7.out.alloc H7.out.size _
  have hsz : w7.heap.size + 1 = (w7.alloc (.cells #[.string ⟨#[]⟩, .string ⟨#[0, 0, 0]⟩, .string ⟨#[0, 3, 0, 0]⟩, .string ⟨#[0, 1, 0, 2]⟩, .string ⟨#[255, 255, 255, 255]⟩, .string X, .string ⟨#[0, 0, 0, 0, 97, 98]⟩, .string ⟨#[0, 1, 0, 0, 98]⟩, .string ⟨#[0, 0, 0, 0, 97, 120]⟩, .string ⟨#[0, 0, 0, 0, 120, 98]⟩] 9)).heap.size := by simp
  have Hall : Hid (∀ j, j < 10 → ([⟨#[]⟩, ⟨#[0, 0, 0]⟩, ⟨#[0, 3, 0, 0]⟩, ⟨#[0, 1, 0, 2]⟩, ⟨#[255, 255, 255, 255]⟩, X, ⟨#[0, 0, 0, 0, 97, 98]⟩, ⟨#[0, 1, 0, 0, 98]⟩, ⟨#[0, 0, 0, 0, 97, 120]⟩, ⟨#[0, 0, 0, 0, 120, 98]⟩].getD j ⟨#[]⟩).size ≤ 1000000 ∧ apR ⟨#[97, 98]⟩ ([⟨#[]⟩, ⟨#[0, 0, 0]⟩, ⟨#[0, 3, 0, 0]⟩, ⟨#[0, 1, 0, 2]⟩, ⟨#[255, 255, 255, 255]⟩, X, ⟨#[0, 0, 0, 0, 97, 98]⟩, ⟨#[0, 1, 0, 0, 98]⟩, ⟨#[0, 0, 0, 0, 97, 120]⟩, ⟨#[0, 0, 0, 0, 120, 98]⟩].getD j ⟨#[]⟩) = (⟨#[]⟩, 4)) := fun j hj => by
    rcases (show j = 0 ∨ j = 1 ∨ j = 2 ∨ j = 3 ∨ j = 4 ∨ j = 5 ∨ j = 6 ∨ j = 7 ∨ j = 8 ∨ j = 9 by omega) with rfl | rfl | rfl | rfl | rfl | rfl | rfl | rfl | rfl | rfl
    · exact ⟨(by decide : (⟨#[]⟩ : ByteArray).size ≤ 1000000), (by decide +kernel : apR ⟨#[97, 98]⟩ ⟨#[]⟩ = (⟨#[]⟩, 4))⟩
    · exact ⟨(by decide : (⟨#[0, 0, 0]⟩ : ByteArray).size ≤ 1000000), (by decide +kernel : apR ⟨#[97, 98]⟩ ⟨#[0, 0, 0]⟩ = (⟨#[]⟩, 4))⟩
    · exact ⟨(by decide : (⟨#[0, 3, 0, 0]⟩ : ByteArray).size ≤ 1000000), (by decide +kernel : apR ⟨#[97, 98]⟩ ⟨#[0, 3, 0, 0]⟩ = (⟨#[]⟩, 4))⟩
    · exact ⟨(by decide : (⟨#[0, 1, 0, 2]⟩ : ByteArray).size ≤ 1000000), (by decide +kernel : apR ⟨#[97, 98]⟩ ⟨#[0, 1, 0, 2]⟩ = (⟨#[]⟩, 4))⟩
    · exact ⟨(by decide : (⟨#[255, 255, 255, 255]⟩ : ByteArray).size ≤ 1000000), (by decide +kernel : apR ⟨#[97, 98]⟩ ⟨#[255, 255, 255, 255]⟩ = (⟨#[]⟩, 4))⟩
    · exact ⟨by show X.size ≤ _; rw [HXs.out]; decide, HX.out⟩
    · exact ⟨(by decide : (⟨#[0, 0, 0, 0, 97, 98]⟩ : ByteArray).size ≤ 1000000), (by decide +kernel : apR ⟨#[97, 98]⟩ ⟨#[0, 0, 0, 0, 97, 98]⟩ = (⟨#[]⟩, 4))⟩
    · exact ⟨(by decide : (⟨#[0, 1, 0, 0, 98]⟩ : ByteArray).size ≤ 1000000), (by decide +kernel : apR ⟨#[97, 98]⟩ ⟨#[0, 1, 0, 0, 98]⟩ = (⟨#[]⟩, 4))⟩
    · exact ⟨(by decide : (⟨#[0, 0, 0, 0, 97, 120]⟩ : ByteArray).size ≤ 1000000), (by decide +kernel : apR ⟨#[97, 98]⟩ ⟨#[0, 0, 0, 0, 97, 120]⟩ = (⟨#[]⟩, 4))⟩
    · exact ⟨(by decide : (⟨#[0, 0, 0, 0, 120, 98]⟩ : ByteArray).size ≤ 1000000), (by decide +kernel : apR ⟨#[97, 98]⟩ ⟨#[0, 0, 0, 0, 120, 98]⟩ = (⟨#[]⟩, 4))⟩
  clear hka hkb
  generalize hLL : [⟨#[]⟩, ⟨#[0, 0, 0]⟩, ⟨#[0, 3, 0, 0]⟩, ⟨#[0, 1, 0, 2]⟩, ⟨#[255, 255, 255, 255]⟩, X, ⟨#[0, 0, 0, 0, 97, 98]⟩, ⟨#[0, 1, 0, 0, 98]⟩, ⟨#[0, 0, 0, 0, 97, 120]⟩, ⟨#[0, 0, 0, 0, 120, 98]⟩] = LL at *
  generalize w7.alloc (.cells #[.string ⟨#[]⟩, .string ⟨#[0, 0, 0]⟩, .string ⟨#[0, 3, 0, 0]⟩, .string ⟨#[0, 1, 0, 2]⟩, .string ⟨#[255, 255, 255, 255]⟩, .string X, .string ⟨#[0, 0, 0, 0, 97, 98]⟩, .string ⟨#[0, 1, 0, 0, 98]⟩, .string ⟨#[0, 0, 0, 0, 97, 120]⟩, .string ⟨#[0, 0, 0, 0, 120, 98]⟩] 9) = wB at *
  clear hLL H7
  have HSt := Lib.hid hSt
  have Hsz := Lib.hid hsz
  clear hSt hsz
  go_wp2
  go_loopw [106] (fun i wr => ∃ k : Nat, k ≤ 10 ∧ i = .int .i64 k ∧ Below wB.heap.size wB wr) (fun i _ => 10 - (intOf i).toNat)
  case atStart => exact ⟨0, by omega, rfl, Below.refl _ _⟩
  case round =>
    obtain ⟨k, hk, rfl, hb⟩ := hrel
    have Hb := Lib.hid hb
    clear hb
    by_cases hlt : k < 10
    · obtain ⟨g, off, eg, hg, hc⟩ := (HSt.out.below (Hb.out.mono (by have := Hsz.out; omega))).2 (by omega)
      cases eg
      have hck := hc k hlt
      have hdz := (Hall.out k hlt).1
      have HE := Lib.hid (Hall.out k hlt).2
      obtain ⟨z, hz⟩ : ∃ z, LL.getD k ⟨#[]⟩ = z := ⟨_, rfl⟩
      rw [hz] at hck hdz HE
      rw [Nat.zero_add] at hck
      clear hz hc
      go_wp2_with fail
      refine (apply_all _ z _ hdz).mono ?_
      rintro e w8 ⟨rfl, hb⟩
      rw [HE.out]
      have Hb4 : Hid (Below wB.heap.size wB w8) := stepB Hb.out hb
      clear hb hck HE
      go_wp2_with fail
      go_roundw
      case rel => exact ⟨k + 1, by omega, by go_num, Hb4.out⟩
      case measure => simp [intOf]; omega
    · obtain rfl : k = 10 := by omega
      have H9 : Hid (Below w.heap.size w wr) := stepB H8.out Hb.out
      clear hlt Hb H8
      go_wp2_with fail
      refine (Back_any _ none 0 0 [] _ (by simp) (by omega) ⟨rfl, fun h => by omega⟩).mono ?_
      rintro e w10 ⟨rfl, hb⟩
      rw [show backR ⟨#[97, 98]⟩ [] = (⟨#[97, 98]⟩, 0) from rfl]
      have H10 : Hid (Below w.heap.size w w10) := stepB H9.out hb
      clear hb H9
      go_wp2_with fail
      refine (Back_any _ (some ⟨w10.heap.size, 0, none⟩) 2 2 [⟨#[0, 1, 0, 0, 99]⟩, ⟨#[0, 0, 0, 1]⟩] _ (by decide) (by omega) ⟨rfl, fun _ => ⟨_, _, rfl, by simp, fun j hj => by
        rw [Nat.zero_add, cell_new]
        rcases (show j = 0 ∨ j = 1 by omega) with rfl | rfl <;> rfl⟩⟩).mono ?_
      rintro e w11 ⟨rfl, hb⟩
      rw [show backR ⟨#[97, 98]⟩ [⟨#[0, 1, 0, 0, 99]⟩, ⟨#[0, 0, 0, 1]⟩] = (⟨#[99]⟩, 0) from by decide +kernel]
      have H11 : Hid (Below w.heap.size w w11) := stepB (H10.out.alloc H10.out.size _) hb
      clear hb H10
      go_wp2_with fail
      refine (Back_any _ (some ⟨w11.heap.size, 0, none⟩) 2 2 [⟨#[0, 1, 0, 0, 99]⟩, ⟨#[]⟩] _ (by decide) (by omega) ⟨rfl, fun _ => ⟨_, _, rfl, by simp, fun j hj => by
        rw [Nat.zero_add, cell_new]
        rcases (show j = 0 ∨ j = 1 by omega) with rfl | rfl <;> rfl⟩⟩).mono ?_
      rintro e w12 ⟨rfl, hb⟩
      rw [show backR ⟨#[97, 98]⟩ [⟨#[0, 1, 0, 0, 99]⟩, ⟨#[]⟩] = (⟨#[]⟩, 4) from by decide +kernel]
      have H12 : Hid (Below w.heap.size w w12) := stepB (H11.out.alloc H11.out.size _) hb
      clear hb H11
      go_wp2_with fail
      refine (Back_any _ none 0 0 [] _ (by simp) (by omega) ⟨rfl, fun h => by omega⟩).mono ?_
      rintro e w13 ⟨rfl, hb⟩
      rw [show backR L [] = (L, 0) from rfl]
      have H13 : Hid (Below w.heap.size w w13) := stepB H12.out hb
      clear hb H12
      have hqL : (L.toList == L.toList) = true := seq_yes rfl
      go_wp2_with fail
      go_ret
      exact ⟨rfl, H13.out⟩
theorem walk (w : World) : Calls Try.prog 3 #[] w fun e w' => e = .returned (.bool true) ∧ Below w.heap.size w w' := walk_in w


set_option maxRecDepth 100000 in
theorem lifted (os : Os) (started : os.Started) (H : Type) (enc : TypeId × Value → H) :
    ReturnsInHanded {} Try.checked os 3 .any (Rows.deltaNamesSpec.pre6 enc Try.prog Try.f3 Rows.deltaNamesRow.domain false) (Rows.deltaNamesSpec.post enc Try.prog Try.f3 false true false false) := by
  refine returnsInHanded_of_change_sized (C := Try.checked) own started (by kernel_rfl) Try.func3
    (ChangeSpec.witness6 (enc := enc) (C := Try.checked) false ⟨#[], #[], []⟩ 8 (by kernel_rfl) (by kernel_rfl) (by kernel_rfl) (by kernel_rfl)) ?_
  intro W base args ds gs before hval0 hW _ hsz _
  have hval : ∀ (j : Nat) t v, Try.f3.params[j]? = some t → args[j]? = some v → Value.okWide Try.prog W .any base t v := hval0
  have hW' := hW
  obtain ⟨p, q, hA0, hV, hbef, _, _⟩ := hW
  have hA : DataW.TrodAll enc Try.prog W 0 (fun _ => true) true Try.f3.params.toList args.toList ds p := hA0
  rw [Try.params3] at hA hval
  obtain ⟨h1, rfl, rfl⟩ := trodAll_nil hA
  obtain rfl : args = #[] := by cases args; simp_all
  obtain ⟨rfl, rfl⟩ := trodVars_none hV

  refine (walk W).mono fun e W' ⟨he, hb⟩ => ?_
  subst he
  exact ⟨_, rfl, law_post laidOut (of_decide_eq_true (by kernel_rfl)) rfl Try.underlying4 rfl rfl hW' hb⟩

theorem over : Rows.deltaNamesRow.holds Try.pinned (OpenSpec.ofChange Rows.deltaNamesSpec) :=
  OpenClaim.holds_of_wide 3 Try.f3 rfl rfl rfl rfl rfl rfl rfl ⟨rfl, rfl, rfl, rfl, rfl⟩ rfl rfl rfl rfl rfl (by kernel_rfl) Try.func3 (by kernel_rfl)
    (of_decide_eq_true (by kernel_rfl)) (by unfold Func.isWrapper; first | (rw [if_pos (by decide +kernel)]; kernel_rfl) | (rw [if_neg (by decide +kernel)]; exact ⟨rfl, rfl⟩))
    (fun os started H enc _ => lifted os started H enc)

end Go.Proofs.Ythghaagmpneemaa.deltaNames
namespace Go.Proofs.Ythghaagmpneemaa
theorem deltaNames_holds : Rows.DeltaNamesSaid := deltaNames.over
end Go.Proofs.Ythghaagmpneemaa
