/- The document's own deltas: what bytes make of a value, and what a list of them does. -/
import Derived.Test.YthghaagmpneemaaRA
import Derived.Test.YthghaagmpneemaaY
namespace Go.Proofs.Ythghaagmpneemaa
open Go.ChangeShapes Go.WideShapes Go.ChangeAt Go.RowKit
set_option linter.unusedVariables false
theorem num_bytes (d : ByteArray) (i : Nat) : (num (bl d) i : Int) = (((bl d).getD i 0).toNat : Int) * 256 + (((bl d).getD (i + 1) 0).toNat : Int) := by
  unfold num; generalize (bl d).getD i 0 = x; generalize (bl d).getD (i + 1) 0 = y; omega
set_option maxHeartbeats 400000 in
theorem rapply_short (a d : ByteArray) (w : World) (ha : a.size ≤ 256) (h4 : d.size < 4) :
    Calls Try.prog 14 #[.string a, .string d] w fun e w' => e = .returned (.tuple #[.string ⟨#[]⟩, .int .i64 4]) ∧ w = w' := by
  go_enter Try.func14, Try.ntmps14
  go_wp2_with fail
  go_ret2
  exact ⟨rfl, rfl⟩
set_option maxHeartbeats 400000 in
theorem rapply_large (a d : ByteArray) (w : World) (ha : 256 < a.size) :
    Calls Try.prog 14 #[.string a, .string d] w fun e w' => e = .returned (.tuple #[.string ⟨#[]⟩, .int .i64 40]) ∧ w = w' := by
  go_enter Try.func14, Try.ntmps14
  go_wp2_with fail
  go_ret2
  exact ⟨rfl, rfl⟩
set_option maxRecDepth 100000 in
set_option maxHeartbeats 2000000 in
theorem rapply_any (a d : ByteArray) (w : World) (ha : a.size ≤ 256) (h4 : 4 ≤ d.size) (hd : d.size ≤ 1000000) :
    Calls Try.prog 14 #[.string a, .string d] w (ApEnd (bl a) (bl d) w) := by
  have HD : Hid (4 ≤ (bl d).length) := by show _ ≤ _; rw [bl_len]; exact h4
  have hp := num_le (bl d) 0
  have hs := num_le (bl d) 2
  have hpb : (num (bl d) 0 : Int) = (((bl d).getD 0 0).toNat : Int) * 256 + (((bl d).getD 1 0).toNat : Int) := num_bytes d 0
  have hsb : (num (bl d) 2 : Int) = (((bl d).getD 2 0).toNat : Int) * 256 + (((bl d).getD 3 0).toNat : Int) := num_bytes d 2
  have b0 := ((bl d).getD 0 0).toNat_lt
  have b1 := ((bl d).getD 1 0).toNat_lt
  have b2 := ((bl d).getD 2 0).toNat_lt
  have b3 := ((bl d).getD 3 0).toNat_lt
  have i0 : ∀ W, (Instr.index 9 (.string d) (.int .i64 0)).run Try.prog W = .ok (.int .u8 (((bl d).getD 0 0).toNat : Int)) W := getB d 0 _ (by omega) rfl
  have i1 : ∀ W, (Instr.index 9 (.string d) (.int .i64 1)).run Try.prog W = .ok (.int .u8 (((bl d).getD 1 0).toNat : Int)) W := getB d 1 _ (by omega) rfl
  have i2 : ∀ W, (Instr.index 9 (.string d) (.int .i64 2)).run Try.prog W = .ok (.int .u8 (((bl d).getD 2 0).toNat : Int)) W := getB d 2 _ (by omega) rfl
  have i3 : ∀ W, (Instr.index 9 (.string d) (.int .i64 3)).run Try.prog W = .ok (.int .u8 (((bl d).getD 3 0).toNat : Int)) W := getB d 3 _ (by omega) rfl
  generalize ((bl d).getD 0 0).toNat = x0 at *
  generalize ((bl d).getD 1 0).toNat = x1 at *
  generalize ((bl d).getD 2 0).toNat = x2 at *
  generalize ((bl d).getD 3 0).toNat = x3 at *
  obtain ⟨p, hpp⟩ : ∃ p, num (bl d) 0 = p := ⟨_, rfl⟩
  obtain ⟨s, hss⟩ : ∃ s, num (bl d) 2 = s := ⟨_, rfl⟩
  have Hp := Lib.hid hpp
  have Hs := Lib.hid hss
  rw [hpp] at hp hpb
  rw [hss] at hs hsb
  clear hpp hss
  have v0 : IntKind.i64.wrap (x0 : Int) = (x0 : Int) := IntWalk.i64_in _ (by omega)
  have v1 : IntKind.i64.wrap (x1 : Int) = (x1 : Int) := IntWalk.i64_in _ (by omega)
  have v2 : IntKind.i64.wrap (x2 : Int) = (x2 : Int) := IntWalk.i64_in _ (by omega)
  have v3 : IntKind.i64.wrap (x3 : Int) = (x3 : Int) := IntWalk.i64_in _ (by omega)
  have u0 : IntKind.i64.wrap ((x0 : Int) * 256) = (x0 : Int) * 256 := IntWalk.i64_in _ (by omega)
  have u2 : IntKind.i64.wrap ((x2 : Int) * 256) = (x2 : Int) * 256 := IntWalk.i64_in _ (by omega)
  have q0 : IntKind.i64.wrap ((x0 : Int) * 256 + (x1 : Int)) = (p : Int) := (IntWalk.i64_in _ (by omega)).trans (by omega)
  have q2 : IntKind.i64.wrap ((x2 : Int) * 256 + (x3 : Int)) = (s : Int) := (IntWalk.i64_in _ (by omega)).trans (by omega)
  clear hpb hsb b0 b1 b2 b3
  go_enter Try.func14, Try.ntmps14
  go_wp2_with fail
  go_quiet (fail)
  go_wp2_with fail
  have hb2 := below_drewN (Below.refl w.heap.size w) nq
  generalize w.drewN nq = w1 at *
  clear nq
  go_quiet (fail)
  have Hb2 := Lib.hid (below_drewN hb2 nq)
  generalize w1.drewN nq = w2 at *
  clear nq hb2 v0 v1 v2 v3 u0 u2 q0 q2 i0 i1 i2 i3
  by_cases k1 : a.size < p + s
  · have HF : Hid (apB (bl a) (bl d) = false) := apB_no (by rw [Hp.out, Hs.out]; simp only [bl_len]; omega)
    go_wp2_with fail
    go_ret2
    exact apEnd_no HF.out Hb2.out
  · by_cases k2 : 260 < p + s + d.size
    · have HF : Hid (apB (bl a) (bl d) = false) := apB_no (by rw [Hp.out, Hs.out]; simp only [bl_len]; omega)
      go_wp2_with fail
      go_ret2
      exact apEnd_no HF.out Hb2.out
    · obtain ⟨X1, hX1⟩ : ∃ X, X = str ((bl a).take p) := ⟨_, rfl⟩
      obtain ⟨X2, hX2⟩ : ∃ X, X = str ((bl d).drop 4) := ⟨_, rfl⟩
      obtain ⟨X3, hX3⟩ : ∃ X, X = str ((bl a).take p ++ (bl d).drop 4) := ⟨_, rfl⟩
      obtain ⟨X4, hX4⟩ : ∃ X, X = str ((bl a).drop (a.size - s)) := ⟨_, rfl⟩
      obtain ⟨X5, hX5⟩ : ∃ X, X = str (ap (bl a) (bl d)) := ⟨_, rfl⟩
      have hap : Hid (ap (bl a) (bl d) = (bl a).take p ++ (bl d).drop 4 ++ (bl a).drop (a.size - s)) := by show _ = _; rw [ap_of, Hp.out, Hs.out, bl_len]
      have hla : Hid ((ap (bl a) (bl d)).length ≤ 256) := by
        have := ap_len (A := bl a) (D := bl d) (by rw [Hp.out, Hs.out]; simp only [bl_len]; omega) HD.out
        rw [Hp.out, Hs.out] at this; simp only [bl_len] at this; show _ ≤ _; omega
      have hw1 : IntKind.i64.wrap ((a.size : Int) - (s : Int)) = (a.size : Int) - (s : Int) := IntWalk.i64_in _ (by omega)
      have hs1 : ∀ W, (Instr.slice 9 (.string a) none (some (.int .i64 (p : Int))) none).run Try.prog W = .ok (.string X1) W := fun W => by
        rw [run_slice_string_to_if W 9 a .i64 _ Try.underlying9, if_pos ⟨by omega, by omega⟩, hX1, extract_str, Int.toNat_natCast]; rfl
      have hs2 : ∀ W, (Instr.slice 9 (.string d) (some (.int .i64 4)) none none).run Try.prog W = .ok (.string X2) W := fun W => by
        rw [run_slice_string_from_if W 9 d .i64 _ Try.underlying9, if_pos ⟨by omega, by omega⟩, hX2, extract_str]
        unfold str
        rw [List.take_of_length_le (by rw [List.length_drop, bl_len]; exact Nat.le_refl _)]; rfl
      have hs4 : ∀ W, (Instr.slice 9 (.string a) (some (.int .i64 ((a.size : Int) - (s : Int)))) none none).run Try.prog W = .ok (.string X4) W := fun W => by
        rw [run_slice_string_from_if W 9 a .i64 _ Try.underlying9, if_pos ⟨by omega, by omega⟩, hX4, extract_str, show ((a.size : Int) - (s : Int)).toNat = a.size - s from by omega]
        unfold str
        rw [List.take_of_length_le (by rw [List.length_drop, bl_len]; exact Nat.le_refl _)]
      have hk1 : ∀ W, (Op.stringOp .add X1 X2).run Try.prog W = .ok (.string X3) W := fun W => by
        rw [hX1, hX2, hX3]; exact run_cat W _ _ (by simp only [List.length_take, List.length_drop, bl_len]; omega)
      have hk2 : ∀ W, (Op.stringOp .add X3 X4).run Try.prog W = .ok (.string X5) W := fun W => by
        rw [hX3, hX4, hX5, hap.out]; exact run_cat W _ _ (by simp only [List.length_take, List.length_drop, List.length_append, bl_len]; omega)
      have HX5 := Lib.hid hX5
      clear hX1 hX2 hX3 hX4 hX5
      go_wp2_with fail
      go_quiet (fail)
      clear hw1 hs1 hs2 hs4 hk1 hk2
      have Hb3 := Lib.hid (below_drewN Hb2.out nq)
      generalize w2.drewN nq = w3 at *
      go_wp2_with fail
      refine (rmake_yes a X5 _ ha (by rw [HX5.out, str_size]; exact hla.out)).mono ?_
      rintro e w4 ⟨rfl, hb4⟩
      have Hb4 : Hid (Below w.heap.size w w4) := Hb3.out.trans (hb4.mono Hb3.out.size)
      clear hb4 Hb3
      by_cases hm : mk (bl a) (ap (bl a) (bl d)) = bl d
      · have HF : Hid (apB (bl a) (bl d) = true) := by
          show _ = _; unfold apB; rw [decide_eq_true_eq]
          exact ⟨HD.out, by rw [Hp.out, Hs.out]; simp only [bl_len]; omega, by rw [Hp.out, Hs.out]; simp only [bl_len]; omega, hm⟩
        rw [HX5.out, bl_str, hm, str_bl]
        clear hm
        have hq : (!d.toList == d.toList) = false := not_false_of (seq_yes rfl)
        rw [← HX5.out]
        go_wp2_with fail
        go_ret2
        rw [HX5.out]
        exact apEnd_yes HF.out Hb4.out
      · have HF : Hid (apB (bl a) (bl d) = false) := apB_no (fun h => hm h.2.2.2)
        obtain ⟨Y, hY⟩ : ∃ Y, str (mk (bl a) (bl X5)) = Y := ⟨_, rfl⟩
        have hne : ¬ Y = d := fun h => hm (by have := congrArg bl h; rw [← hY, HX5.out] at this; exact this)
        rw [hY]
        have hq : (!Y.toList == d.toList) = true := not_true_of (seq_no hne)
        clear hm hY hne
        go_wp2_with fail
        go_ret2
        exact apEnd_no HF.out Hb4.out
theorem rapply_all (a d : ByteArray) (w : World) (hd : d.size ≤ 1000000) :
    Calls Try.prog 14 #[.string a, .string d] w fun e w' => e = .returned (.tuple #[.string (apR a d).1, .int .i64 (apR a d).2]) ∧ Below w.heap.size w w' := by
  by_cases ha : a.size ≤ 256
  · by_cases h4 : 4 ≤ d.size
    · refine (rapply_any a d w ha h4 hd).mono ?_
      rintro e w' ⟨hb, he⟩
      refine ⟨?_, hb⟩
      rw [he]
      unfold apR
      rw [if_pos ha]
      by_cases hq : apB (bl a) (bl d) = true
      · rw [if_pos hq, if_pos hq]
      · rw [if_neg hq, if_neg hq]
    · refine (rapply_short a d w ha (by omega)).mono ?_
      rintro e w' ⟨he, rfl⟩
      refine ⟨?_, Below.refl _ _⟩
      rw [he]
      unfold apR
      rw [if_pos ha, if_neg (by rw [short_no (bl a) (bl d) (by rw [bl_len]; omega)]; decide)]
  · refine (rapply_large a d w (by omega)).mono ?_
    rintro e w' ⟨he, rfl⟩
    refine ⟨?_, Below.refl _ _⟩
    rw [he]
    unfold apR
    rw [if_neg ha]
set_option maxRecDepth 100000 in
set_option maxHeartbeats 2000000 in
theorem rback_any (v : ByteArray) (A : Option Addr) (len cap : Nat) (ss : List ByteArray) (w : World) (hz : ∀ s ∈ ss, s.size ≤ 1000000) (hlen : len ≤ 1000000) (hs : Strs w.heap.size w A len ss) :
    Calls Try.prog 15 #[.string v, .slice A len cap] w fun e w' => e = .returned (.tuple #[.string (backR v ss).1, .int .i64 (backR v ss).2]) ∧ Below w.heap.size w w' := by
  have Hz := Lib.hid hz
  have Hs := Lib.hid hs
  clear hz hs
  go_enter Try.func15, Try.ntmps15
  go_wp2
  go_loopw [0, 6] (fun x i wr => ∃ (k : Nat) (cur : ByteArray), k ≤ len ∧ i = .int .i64 k ∧ x = .string cur ∧ backR v ss = backR cur (ss.drop k) ∧ Below w.heap.size w wr) (fun _ i _ => len - (intOf i).toNat)
  case atStart => exact ⟨0, v, by omega, rfl, rfl, rfl, Below.refl _ _⟩
  case round =>
    obtain ⟨k, cur, hk, rfl, rfl, hbk, hb⟩ := hrel
    have Hbk := Lib.hid hbk
    have Hb := Lib.hid hb
    clear hbk hb
    by_cases hlt : k < len
    · have hsx := Hs.out.below Hb.out
      obtain ⟨g, off, rfl, hg, hc⟩ := hsx.2 (by omega)
      have hck := hc k hlt
      have Hss := Lib.hid hsx.1
      obtain ⟨d, hd⟩ : ∃ d, ss.getD k ⟨#[]⟩ = d := ⟨_, rfl⟩
      rw [hd] at hck
      have hdrop : Hid (ss.drop k = d :: ss.drop (k + 1)) := by
        show _ = _
        have hl := Hss.out
        rw [List.drop_eq_getElem_cons (by omega), ← hd, List.getD_eq_getElem?_getD, List.getElem?_eq_getElem (by omega)]
        rfl
      have hdz : d.size ≤ 1000000 := Hz.out d (by
        have := hdrop.out
        have h2 : d ∈ ss.drop k := by rw [this]; exact List.mem_cons_self
        exact List.mem_of_mem_drop h2)
      clear hc hsx hd
      go_wp2_with fail
      refine (rapply_all cur d _ hdz).mono ?_
      rintro e w1 ⟨rfl, hb1⟩
      have Hb1 : Hid (Below w.heap.size w w1) := stepB Hb.out hb1
      have hsq : Hid (backR cur (ss.drop k) = if (apR cur d).2 = 0 then backR (apR cur d).1 (ss.drop (k + 1)) else (⟨#[]⟩, (apR cur d).2)) := by
        show _ = _; rw [hdrop.out]; rfl
      clear hb1 hck Hb
      generalize apR cur d = x at *
      obtain ⟨o, er⟩ := x
      dsimp only at hsq ⊢
      by_cases he : er = 0
      · have h1 : (er != 0) = false := by rw [he]; rfl
        have Hsq2 : Hid (backR v ss = backR o (ss.drop (k + 1))) := by show _ = _; rw [Hbk.out, hsq.out, if_pos he]
        clear he hsq
        go_wp2_with fail
        go_roundw
        case rel => exact ⟨k + 1, o, by omega, by go_num, rfl, Hsq2.out, Hb1.out⟩
        case measure => simp [intOf]; omega
      · have h1 : (er != 0) = true := by rw [bne_iff_ne]; exact he
        have Hsq2 : Hid (backR v ss = (⟨#[]⟩, er)) := by show _ = _; rw [Hbk.out, hsq.out, if_neg he]
        clear he hsq
        go_wp2_with fail
        go_ret2
        exact ⟨by rw [Hsq2.out]; rfl, Hb1.out⟩
    · obtain rfl : k = len := by omega
      have Hsq2 : Hid (backR v ss = (cur, 0)) := by
        show _ = _
        rw [Hbk.out, List.drop_eq_nil_of_le (by have := Hs.out.1; omega)]; rfl
      go_wp2_with fail
      go_ret2
      exact ⟨by rw [Hsq2.out]; rfl, Hb.out⟩
end Go.Proofs.Ythghaagmpneemaa
