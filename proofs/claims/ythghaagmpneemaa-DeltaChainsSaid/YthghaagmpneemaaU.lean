/- Package delta: what bytes make of a value. -/
import Derived.Test.YthghaagmpneemaaT
namespace Go.Proofs.Ythghaagmpneemaa
open Go.ChangeShapes Go.WideShapes Go.ChangeAt Go.RowKit
set_option linter.unusedVariables false
theorem conv_to (s : ByteArray) (w : World) : ∃ c C f, (convert 9 23 (.string s)).run Try.prog w = .ok (.slice (some ⟨w.heap.size, 0, none⟩) s.size c) (w.alloc (.cells C 5 f)).drew ∧
    RdB (w.alloc (.cells C 5 f)).drew (some ⟨w.heap.size, 0, none⟩) s.size (intsOf (bl s)) := by
  refine ⟨_, _, _, run_bytes_of_string w 9 23 5 s Try.underlying9 Try.underlying23 Try.underlying5, by simp [intsOf, bl], fun h => ⟨_, _, rfl, fun j hj => ?_⟩⟩
  have hc : ∀ (C : Array Value) (f : Nat × Nat) (v : Value), C[j]? = some v → (w.drew.alloc (.cells C 5 f)).cell? ⟨w.heap.size, 0 + j, none⟩ = some v := fun C f v hv => by
    have hh : (w.drew.alloc (.cells C 5 f)).heap[w.heap.size]? = some (.cells C 5 f) := by
      show (w.heap.push (.cells C 5 f))[w.heap.size]? = _
      simp
    unfold World.cell?
    rw [hh]
    simp [hv]
  apply hc
  unfold bytesRow
  have hj' : j < s.data.size := hj
  rw [Array.getElem?_append_left (by simpa using hj')]
  simp only [intsOf, bl, List.getD_eq_getElem?_getD, List.getElem?_map, Array.getElem?_map, Array.getElem?_toList]
  rw [Array.getElem?_eq_getElem hj']
  simp
theorem bytes_of (l : List UInt8) : isBytes (intsOf l) := by
  intro i hi
  have hi' : i < l.length := by simpa [intsOf] using hi
  simp only [intsOf, List.getD_eq_getElem?_getD, List.getElem?_map, List.getElem?_eq_getElem hi', Option.map_some, Option.getD_some]
  have := (l[i]).toNat_lt
  omega
theorem getAt_num (l : List UInt8) (i : Nat) (h : i + 2 ≤ l.length) : getAt (intsOf l) i 2 = (num l i : Int) := by
  have e : inB (intsOf l).length (i : Int) 2 = true := by
    unfold inB; rw [decide_eq_true_eq]; simp only [intsOf, List.length_map]; omega
  unfold getAt
  rw [show (((2 : Nat) : Int)) = 2 from rfl, if_pos e, Int.toNat_natCast]
  have g : ∀ j, (intsOf l).getD j 0 = ((l.getD j 0).toNat : Int) := fun j => by
    simp only [intsOf, List.getD_eq_getElem?_getD, List.getElem?_map]
    cases l[j]? <;> simp
  show (0 * 256 + (intsOf l).getD (i + 0) 0) * 256 + (intsOf l).getD (i + 1) 0 = _
  rw [g, g, Nat.add_zero]
  unfold num
  generalize l.getD i 0 = x
  generalize l.getD (i + 1) 0 = y
  omega
set_option maxRecDepth 100000 in
theorem num_take (l : List UInt8) (i : Nat) (h : i ≤ 2) : num (l.take 4) i = num l i := by
  unfold num
  rw [List.getD_eq_getElem?_getD, List.getElem?_take_of_lt (by omega), List.getD_eq_getElem?_getD, List.getElem?_take_of_lt (by omega), ← List.getD_eq_getElem?_getD, ← List.getD_eq_getElem?_getD]
theorem num_le (l : List UInt8) (i : Nat) : num l i ≤ 65535 := by
  unfold num
  have h1 := (l.getD i 0).toNat_lt
  have h2 := (l.getD (i + 1) 0).toNat_lt
  omega
theorem seq_no {x y : ByteArray} (h : ¬ x = y) : (x.toList == y.toList) = false := by
  rw [beq_eq_false_iff_ne, ByteArray.toList_eq, ByteArray.toList_eq]
  exact fun e => h (ByteArray.ext (Array.toList_inj.1 e))
theorem seq_yes {x y : ByteArray} (h : x = y) : (x.toList == y.toList) = true := by rw [h]; simp
theorem not_true_of {b : Bool} (h : b = false) : (!b) = true := by rw [h]; rfl
theorem not_false_of {b : Bool} (h : b = true) : (!b) = false := by rw [h]; rfl
theorem str_bl (a : ByteArray) : str (bl a) = a := rfl
theorem bl_str (l : List UInt8) : bl (str l) = l := rfl
theorem str_size (l : List UInt8) : (str l).size = l.length := by simp [str, ByteArray.size]

theorem get_num (D : List UInt8) (i : Nat) (hi : i ≤ 2) (hD : 4 ≤ D.length) (A : Option Addr) (c : Nat) (w : World) (hr : RdB w A 4 (intsOf (D.take 4))) :
    Calls Try.prog 17 #[.slice A 4 c, .int .i64 i] w fun e w' => e = .returned (.tuple #[.int .u16 (num D i : Nat), .bool true]) ∧ w = w' := by
  refine (Get16_any A 4 c i w _ hr (bytes_of _) (by omega)).mono ?_
  rintro e w' ⟨rfl, rfl⟩
  rw [getAt_num _ _ (by rw [List.length_take]; omega), num_take _ _ hi, show inB 4 (i : Int) 2 = true from by unfold inB; rw [decide_eq_true_eq]; omega]
  exact ⟨rfl, rfl⟩
theorem below_conv (w : World) (o : Obj) : Below w.heap.size w (w.alloc o).drew := ((Below.refl _ _).alloc (Nat.le_refl _) _).drew
theorem apB_no {A D : List UInt8} (h : ¬ (4 ≤ D.length ∧ num D 0 + num D 2 ≤ A.length ∧ num D 0 + num D 2 + D.length ≤ 260 ∧ mk A (ap A D) = D)) : apB A D = false := by
  unfold apB; exact decide_eq_false h
theorem ap_of {A D : List UInt8} : ap A D = A.take (num D 0) ++ D.drop 4 ++ A.drop (A.length - num D 2) := rfl

def ApEnd (A D : List UInt8) (w : World) (e : Ending) (w' : World) : Prop := Below w.heap.size w w' ∧
  e = .returned (if apB A D = true then .tuple #[.string (str (ap A D)), .int .i64 0] else .tuple #[.string ⟨#[]⟩, .int .i64 4])
theorem apEnd_no {A D : List UInt8} {w w' : World} (h : apB A D = false) (hb : Below w.heap.size w w') : ApEnd A D w (.returned (.tuple #[.string ⟨#[]⟩, .int .i64 4])) w' := by
  refine ⟨hb, ?_⟩; rw [h]; rfl
theorem apEnd_yes {A D : List UInt8} {w w' : World} (h : apB A D = true) (hb : Below w.heap.size w w') : ApEnd A D w (.returned (.tuple #[.string (str (ap A D)), .int .i64 0])) w' := by
  refine ⟨hb, ?_⟩; rw [h]; rfl
set_option maxRecDepth 100000 in
set_option maxHeartbeats 2000000 in
theorem apply_any (a d : ByteArray) (w : World) (ha : a.size ≤ 256) (h4 : 4 ≤ d.size) (hd : d.size ≤ 1000000) :
    Calls Try.prog 10 #[.string a, .string d] w (ApEnd (bl a) (bl d) w) := by
  obtain ⟨X, hX⟩ : ∃ X, X = d.extract 0 4 := ⟨_, rfl⟩
  have hXl : bl X = (bl d).take 4 := by rw [hX, extract_str]; rfl
  have hXs : X.size = 4 := by rw [← bl_len, hXl, List.length_take, bl_len]; omega
  have hs4 : ∀ W, (Instr.slice 9 (.string d) none (some (.int .i64 4)) none).run Try.prog W = .ok (.string X) W := fun W => by
    rw [run_slice_string_to_if W 9 d .i64 _ Try.underlying9, if_pos ⟨by omega, by omega⟩, hX]; rfl
  obtain ⟨c1, C1, f1, hc1, hr1⟩ := conv_to X w
  have HXs := Lib.hid hXs
  have HXl := Lib.hid hXl
  rw [HXs.out, HXl.out] at hr1
  rw [HXs.out] at hc1
  have Hr1 := Lib.hid hr1
  have HD : Hid (4 ≤ (bl d).length) := by show _ ≤ _; rw [bl_len]; exact h4
  clear hr1 hX hXl hXs
  go_enter Try.func10, Try.ntmps10
  go_wp2_with fail
  refine (get_num (bl d) 0 (by omega) HD.out _ _ _ Hr1.out).mono ?_
  rintro e _ ⟨rfl, rfl⟩
  have Hb1 := Lib.hid (below_conv w (.cells C1 5 f1))
  clear hc1 Hr1
  generalize hw1 : (w.alloc (.cells C1 5 f1)).drew = w1 at *
  clear hw1
  obtain ⟨c2, C2, f2, hc2, hr2⟩ := conv_to X w1
  rw [HXs.out, HXl.out] at hr2
  rw [HXs.out] at hc2
  have Hr2 := Lib.hid hr2
  clear hr2
  go_wp2_with fail
  refine (get_num (bl d) 2 (by omega) HD.out _ _ _ Hr2.out).mono ?_
  rintro e _ ⟨rfl, rfl⟩
  have Hb2 : Hid (Below w.heap.size w (w1.alloc (.cells C2 5 f2)).drew) := Hb1.out.trans ((below_conv w1 _).mono Hb1.out.size)
  clear hc2 Hr2 Hb1
  generalize hw2 : (w1.alloc (.cells C2 5 f2)).drew = w2 at *
  clear hw2 hs4
  have hp := num_le (bl d) 0
  have hs := num_le (bl d) 2
  obtain ⟨p, hpp⟩ : ∃ p, num (bl d) 0 = p := ⟨_, rfl⟩
  obtain ⟨s, hss⟩ : ∃ s, num (bl d) 2 = s := ⟨_, rfl⟩
  have Hp := Lib.hid hpp
  have Hs := Lib.hid hss
  rw [hpp] at hp ⊢
  rw [hss] at hs ⊢
  clear hpp hss
  by_cases k1 : a.size < p + s
  · have HF : Hid (apB (bl a) (bl d) = false) := apB_no (by rw [Hp.out, Hs.out]; simp only [bl_len]; omega)
    go_wp2_with fail
    go_ret2
    exact apEnd_no HF.out Hb2.out
  · by_cases k2 : 260 < p + s + d.size
    · have HF : Hid (apB (bl a) (bl d) = false) := apB_no (by rw [Hp.out, Hs.out]; simp only [bl_len]; omega)
      go_wp2_with fail
      go_ret2
      exact apEnd_no HF.out Hb2.out
    · obtain ⟨X1, hX1⟩ : ∃ X, X = str ((bl a).take p) := ⟨_, rfl⟩
      obtain ⟨X2, hX2⟩ : ∃ X, X = str ((bl d).drop 4) := ⟨_, rfl⟩
      obtain ⟨X3, hX3⟩ : ∃ X, X = str ((bl a).take p ++ (bl d).drop 4) := ⟨_, rfl⟩
      obtain ⟨X4, hX4⟩ : ∃ X, X = str ((bl a).drop (a.size - s)) := ⟨_, rfl⟩
      obtain ⟨X5, hX5⟩ : ∃ X, X = str (ap (bl a) (bl d)) := ⟨_, rfl⟩
      have hap : Hid (ap (bl a) (bl d) = (bl a).take p ++ (bl d).drop 4 ++ (bl a).drop (a.size - s)) := by show _ = _; rw [ap_of, Hp.out, Hs.out, bl_len]
      have hla : Hid ((ap (bl a) (bl d)).length ≤ 256) := by
        have := ap_len (A := bl a) (D := bl d) (by rw [Hp.out, Hs.out]; simp only [bl_len]; omega) HD.out
        rw [Hp.out, Hs.out] at this; simp only [bl_len] at this; show _ ≤ _; omega
      have hw1 : IntKind.i64.wrap ((a.size : Int) - (s : Int)) = (a.size : Int) - (s : Int) := IntWalk.i64_in _ (by omega)
      have hs1 : ∀ W, (Instr.slice 9 (.string a) none (some (.int .u16 (p : Int))) none).run Try.prog W = .ok (.string X1) W := fun W => by
        rw [run_slice_string_to_if W 9 a .u16 _ Try.underlying9, if_pos ⟨by omega, by omega⟩, hX1, extract_str, Int.toNat_natCast]; rfl
      have hs2 : ∀ W, (Instr.slice 9 (.string d) (some (.int .i64 4)) none none).run Try.prog W = .ok (.string X2) W := fun W => by
        rw [run_slice_string_from_if W 9 d .i64 _ Try.underlying9, if_pos ⟨by omega, by omega⟩, hX2, extract_str]
        unfold str
        rw [List.take_of_length_le (by rw [List.length_drop, bl_len]; exact Nat.le_refl _)]; rfl
      have hs4 : ∀ W, (Instr.slice 9 (.string a) (some (.int .i64 ((a.size : Int) - (s : Int)))) none none).run Try.prog W = .ok (.string X4) W := fun W => by
        rw [run_slice_string_from_if W 9 a .i64 _ Try.underlying9, if_pos ⟨by omega, by omega⟩, hX4, extract_str, show ((a.size : Int) - (s : Int)).toNat = a.size - s from by omega]
        unfold str
        rw [List.take_of_length_le (by rw [List.length_drop, bl_len]; exact Nat.le_refl _)]
      have hk1 : ∀ W, (Op.stringOp .add X1 X2).run Try.prog W = .ok (.string X3) W := fun W => by
        rw [hX1, hX2, hX3]; exact run_cat W _ _ (by simp only [List.length_take, List.length_drop, bl_len]; omega)
      have hk2 : ∀ W, (Op.stringOp .add X3 X4).run Try.prog W = .ok (.string X5) W := fun W => by
        rw [hX3, hX4, hX5, hap.out]; exact run_cat W _ _ (by simp only [List.length_take, List.length_drop, List.length_append, bl_len]; omega)
      have HX5 := Lib.hid hX5
      clear hX1 hX2 hX3 hX4 hX5
      go_wp2_with fail
      go_quiet (fail)
      clear hw1 hs1 hs2 hs4 hk1 hk2
      have Hb3 := Lib.hid (below_drewN Hb2.out nq)
      generalize w2.drewN nq = w3 at *
      go_wp2_with fail
      refine (tell_any a X5 _ ha (by rw [HX5.out, str_size]; exact hla.out)).mono ?_
      rintro e w4 ⟨rfl, hb4⟩
      have Hb4 : Hid (Below w.heap.size w w4) := Hb3.out.trans (hb4.mono Hb3.out.size)
      clear hb4 Hb3
      by_cases hm : mk (bl a) (ap (bl a) (bl d)) = bl d
      · have HF : Hid (apB (bl a) (bl d) = true) := by
          show _ = _; unfold apB; rw [decide_eq_true_eq]
          exact ⟨HD.out, by rw [Hp.out, Hs.out]; simp only [bl_len]; omega, by rw [Hp.out, Hs.out]; simp only [bl_len]; omega, hm⟩
        rw [HX5.out, bl_str, hm, str_bl]
        clear hm
        have hq : (!d.toList == d.toList) = false := not_false_of (seq_yes rfl)
        rw [← HX5.out]
        go_wp2_with fail
        go_ret2
        rw [HX5.out]
        exact apEnd_yes HF.out Hb4.out
      · have HF : Hid (apB (bl a) (bl d) = false) := apB_no (fun h => hm h.2.2.2)
        obtain ⟨Y, hY⟩ : ∃ Y, str (mk (bl a) (bl X5)) = Y := ⟨_, rfl⟩
        have hne : ¬ Y = d := fun h => hm (by have := congrArg bl h; rw [← hY, HX5.out] at this; exact this)
        rw [hY]
        have hq : (!Y.toList == d.toList) = true := not_true_of (seq_no hne)
        clear hm hY hne
        go_wp2_with fail
        go_ret2
        exact apEnd_no HF.out Hb4.out
end Go.Proofs.Ythghaagmpneemaa
