/-
The delta of whatever two values, what whatever bytes make of a value, and what a list of them does, are the document s; no condition.
-/
import Derived.Test.YthghaagmpneemaaLF
import Derived.Test.YthghaagmpneemaaRC
import Derived.ChangeMaps5
namespace Go.Proofs.Ythghaagmpneemaa.deltaTells
open Go.ChangeShapes Go.WideShapes Go.ChangeAt Go.RowKit Go.ChangeMaps
set_option linter.unusedVariables false

theorem own : ownKnob Try.prog.godebug = none := by kernel_rfl
theorem laidOut : laidOutB Try.prog = true := by kernel_rfl
theorem cells9 : Try.prog.cellsOf 9 = 1 := by kernel_rfl

set_option maxRecDepth 100000 in
set_option maxHeartbeats 4000000 in
theorem walk_in (a b d : ByteArray) (A : Option Addr) (n c : Nat) (ss : List ByteArray) (w : World) (ha : a.size ≤ maxLen) (hb : b.size ≤ maxLen) (hd : d.size ≤ maxLen)
   (hs : Strs w.heap.size w A n ss) (hr : ∀ s ∈ ss, s.size ≤ reachBytes) (hn : n ≤ maxLen) :
    Calls Try.prog 4 #[.string a, .string b, .string d, .slice A n c] w fun e w' => e = .returned (.bool true) ∧ Below w.heap.size w w' := by
  have HL := Lib.hid (large_any A n c ss w hs hr hn)
  have Hs := Lib.hid hs
  clear hs hr
  unfold maxLen at ha hb hd hn
  by_cases z1 : 5000 < a.size
  · go_enter Try.func4, Try.ntmps4
    go_wp2_with fail
    refine (awake_any _).mono ?_
    rintro e w1 ⟨rfl, hb⟩
    have H1 := Lib.hid hb
    clear hb
    go_wp2_with fail
    go_ret
    exact ⟨rfl, H1.out⟩
  by_cases z2 : 5000 < b.size
  · go_enter Try.func4, Try.ntmps4
    go_wp2_with fail
    refine (awake_any _).mono ?_
    rintro e w1 ⟨rfl, hb⟩
    have H1 := Lib.hid hb
    clear hb
    go_wp2_with fail
    go_ret
    exact ⟨rfl, H1.out⟩
  by_cases z3 : 5000 < d.size
  · go_enter Try.func4, Try.ntmps4
    go_wp2_with fail
    refine (awake_any _).mono ?_
    rintro e w1 ⟨rfl, hb⟩
    have H1 := Lib.hid hb
    clear hb
    go_wp2_with fail
    go_ret
    exact ⟨rfl, H1.out⟩
  by_cases z4 : largeB ss = true
  · have Hz := Lib.hid z4
    clear z4
    go_enter Try.func4, Try.ntmps4
    go_wp2_with fail
    refine (HL.out).mono ?_
    rintro e _ ⟨rfl, rfl⟩
    rw [Hz.out]
    go_wp2_with fail
    refine (awake_any _).mono ?_
    rintro e w1 ⟨rfl, hb⟩
    have H1 := Lib.hid hb
    clear hb
    go_wp2_with fail
    go_ret
    exact ⟨rfl, H1.out⟩
  have hz4 : largeB ss = false := by simpa using z4
  have Hz4 := Lib.hid hz4
  have Hno := Lib.hid (large_no hz4)
  have hn2 : n ≤ 2000 := by have := Hno.out.2; have := Hs.out.1; omega
  have Hs0 := Hs
  clear z4 hz4
  go_enter Try.func4, Try.ntmps4
  go_wp2_with fail
  refine (HL.out).mono ?_
  rintro e _ ⟨rfl, rfl⟩
  rw [Hz4.out]
  go_wp2_with fail
  refine (make_all a b _).mono ?_
  rintro e w1 ⟨rfl, hb⟩
  have H1 := Lib.hid hb
  clear hb
  go_wp2_with fail
  refine (rmake_all a b _).mono ?_
  rintro e w2 ⟨rfl, hb⟩
  have H2 : Hid (Below w.heap.size w w2) := stepB H1.out hb
  clear hb H1
  have hm := makeR_size a b
  obtain ⟨x, hx⟩ : ∃ x, makeR a b = x := ⟨_, rfl⟩
  rw [hx] at hm ⊢
  clear hx
  obtain ⟨m, em⟩ := x
  dsimp only at hm ⊢
  have hq : (!m.toList == m.toList) = false := not_false_of (seq_yes rfl)
  have hk1 : ∀ W, (Op.stringOp .add m d).run Try.prog W = .ok (.string (m ++ d)) W := fun W => by rw [run_string_add_if, if_neg (by omega)]
  have hk2 : ∀ W, (Op.stringOp .add d m).run Try.prog W = .ok (.string (d ++ m)) W := fun W => by rw [run_string_add_if, if_neg (by omega)]
  have hs1 : (m ++ d).size ≤ 6000 := by simp; omega
  have hs2 : (d ++ m).size ≤ 6000 := by simp; omega
  obtain ⟨y1, hy1⟩ : ∃ y, m ++ d = y := ⟨_, rfl⟩
  obtain ⟨y2, hy2⟩ : ∃ y, d ++ m = y := ⟨_, rfl⟩
  rw [hy1] at hk1 hs1
  rw [hy2] at hk2 hs2
  clear hy1 hy2
  go_upto_block 0 with (fail)
  have hSt : Strs (w2.heap.size + 1) (w2.alloc (.cells #[.string d, .string m, .string y1, .string y2] 9)) (some ⟨w2.heap.size, 0, none⟩) 4 [d, m, y1, y2] :=
    ⟨rfl, fun _ => ⟨_, _, rfl, Nat.lt_succ_self _, fun j hj => by
      rw [Nat.zero_add, cell_new]
      rcases (show j = 0 ∨ j = 1 ∨ j = 2 ∨ j = 3 by omega) with rfl | rfl | rfl | rfl <;> rfl⟩⟩
  have H3 : Hid (Below w.heap.size w (w2.alloc (.cells #[.string d, .string m, .string y1, .string y2] 9))) := H2.out.alloc H2.out.size _
  have hsz : w2.heap.size + 1 = (w2.alloc (.cells #[.string d, .string m, .string y1, .string y2] 9)).heap.size := by simp
  have Hall : Hid (∀ j, j < 4 → ([d, m, y1, y2].getD j ⟨#[]⟩).size ≤ 1000000) := fun j hj => by
    rcases (show j = 0 ∨ j = 1 ∨ j = 2 ∨ j = 3 by omega) with rfl | rfl | rfl | rfl
    · show d.size ≤ _; omega
    · show m.size ≤ _; omega
    · show y1.size ≤ _; omega
    · show y2.size ≤ _; omega
  clear hk1 hk2 hs1 hs2
  generalize hL : [d, m, y1, y2] = L at *
  generalize w2.alloc (.cells #[.string d, .string m, .string y1, .string y2] 9) = wB at *
  clear hL
  have HSt := Lib.hid hSt
  have Hsz := Lib.hid hsz
  clear hSt hsz
  go_wp2
  go_loopw [71] (fun i wr => ∃ k : Nat, k ≤ 4 ∧ i = .int .i64 k ∧ Below wB.heap.size wB wr) (fun i _ => 4 - (intOf i).toNat)
  case atStart => exact ⟨0, by omega, rfl, Below.refl _ _⟩
  case round =>
    obtain ⟨k, hk, rfl, hb⟩ := hrel
    have Hb := Lib.hid hb
    clear hb
    by_cases hlt : k < 4
    · obtain ⟨g, off, eg, hg, hc⟩ := (HSt.out.below (Hb.out.mono (by have := Hsz.out; omega))).2 (by omega)
      cases eg
      have hck := hc k hlt
      have hdz := Hall.out k hlt
      obtain ⟨z, hz⟩ : ∃ z, L.getD k ⟨#[]⟩ = z := ⟨_, rfl⟩
      rw [hz] at hck hdz
      rw [Nat.zero_add] at hck
      clear hz hc
      go_wp2_with fail
      refine (apply_all a z _ hdz).mono ?_
      rintro e w4 ⟨rfl, hb⟩
      have Hb4 : Hid (Below wB.heap.size wB w4) := stepB Hb.out hb
      clear hb hck
      go_wp2_with fail
      refine (rapply_all a z _ hdz).mono ?_
      rintro e w5 ⟨rfl, hb⟩
      have Hb5 : Hid (Below wB.heap.size wB w5) := stepB Hb4.out hb
      clear hb Hb4
      obtain ⟨x, hx⟩ : ∃ x, apR a z = x := ⟨_, rfl⟩
      rw [hx]
      clear hx
      obtain ⟨o, eo⟩ := x
      dsimp only
      have hq2 : (!o.toList == o.toList) = false := not_false_of (seq_yes rfl)
      go_wp2_with fail
      go_roundw
      case rel => exact ⟨k + 1, by omega, by go_num, Hb5.out⟩
      case measure => simp [intOf]; omega
    · obtain rfl : k = 4 := by omega
      have H6 : Hid (Below w.heap.size w wr) := stepB H3.out Hb.out
      have Hs6 := Lib.hid ((Hs.out.below H6.out).mono H6.out.size)
      clear hlt Hb H3
      go_wp2_with fail
      refine (Back_any a A n c ss _ Hno.out.1 (by omega) Hs6.out).mono ?_
      rintro e w7 ⟨rfl, hb⟩
      have H7 : Hid (Below w.heap.size w w7) := stepB H6.out hb
      have Hs7 := Lib.hid ((Hs.out.below H7.out).mono H7.out.size)
      clear hb H6
      go_wp2_with fail
      refine (rback_any a A n c ss _ Hno.out.1 (by omega) Hs7.out).mono ?_
      rintro e w8 ⟨rfl, hb⟩
      have H8 : Hid (Below w.heap.size w w8) := stepB H7.out hb
      clear hb H7
      obtain ⟨x, hx⟩ : ∃ x, backR a ss = x := ⟨_, rfl⟩
      rw [hx]
      clear hx
      obtain ⟨o, eo⟩ := x
      dsimp only
      have hq2 : (o.toList == o.toList) = true := seq_yes rfl
      go_wp2_with fail
      refine (awake_any _).mono ?_
      rintro e w9 ⟨rfl, hb⟩
      have H9 : Hid (Below w.heap.size w w9) := stepB H8.out hb
      clear hb H8
      go_wp2_with fail
      go_ret
      exact ⟨rfl, H9.out⟩
theorem walk (a : ByteArray) (ha : a.size ≤ maxLen) (b : ByteArray) (hb : b.size ≤ maxLen) (d : ByteArray) (hd : d.size ≤ maxLen) (A : Option Addr) (n c : Nat) (ss : List ByteArray) (w : World)
   (hs : Strs w.heap.size w A n ss) (hr : ∀ s ∈ ss, s.size ≤ reachBytes) (hn : n ≤ maxLen) :
    Calls Try.prog 4 #[.string a, .string b, .string d, .slice A n c] w fun e w' => e = .returned (.bool true) ∧ Below w.heap.size w w' := walk_in a b d A n c ss w ha hb hd hs hr hn


set_option maxRecDepth 100000 in
theorem lifted (os : Os) (started : os.Started) (H : Type) (enc : TypeId × Value → H) :
    ReturnsInHanded {} Try.checked os 4 .any (Rows.deltaTellsSpec.pre6 enc Try.prog Try.f4 Rows.deltaTellsRow.domain false) (Rows.deltaTellsSpec.post enc Try.prog Try.f4 false true false false) := by
  refine returnsInHanded_of_change_sized (C := Try.checked) own started (by kernel_rfl) Try.func4
    (ChangeSpec.witness6 (enc := enc) (C := Try.checked) false ⟨#[], #[.string ⟨#[]⟩, .string ⟨#[]⟩, .string ⟨#[]⟩, .slice none 0 0], []⟩ 8 (by kernel_rfl) (by kernel_rfl) (by kernel_rfl) (by kernel_rfl)) ?_
  intro W base args ds gs before hval0 hW _ hsz _
  have hval : ∀ (j : Nat) t v, Try.f4.params[j]? = some t → args[j]? = some v → Value.okWide Try.prog W .any base t v := hval0
  have hW' := hW
  obtain ⟨p, q, hA0, hV, hbef, _, _⟩ := hW
  have hA : DataW.TrodAll enc Try.prog W 0 (fun _ => true) true Try.f4.params.toList args.toList ds p := hA0
  rw [Try.params4] at hA hval
  obtain ⟨v0, vs0, d0, ds0, p0, q0, hargs, rfl, rfl, h0, r0⟩ := trodAll_cons hA
  obtain ⟨v1, vs1, d1, ds1, p1, q1, rfl, rfl, rfl, h1, r1⟩ := trodAll_cons r0
  obtain ⟨v2, vs2, d2, ds2, p2, q2, rfl, rfl, rfl, h2, r2⟩ := trodAll_cons r1
  obtain ⟨v3, vs3, d3, ds3, p3, q3, rfl, rfl, rfl, h3, r3⟩ := trodAll_cons r2
  obtain ⟨rfl, rfl, rfl⟩ := trodAll_nil r3
  obtain rfl : args = #[v0, v1, v2, v3] := by cases args; simp_all
  obtain ⟨rfl, rfl⟩ := trodVars_none hV
  obtain ⟨s0, rfl, _, _, w0⟩ := open_string Try.underlying9 (hval 0 9 v0 rfl rfl) h0
  obtain ⟨s1, rfl, _, _, w1⟩ := open_string Try.underlying9 (hval 1 9 v1 rfl rfl) h1
  obtain ⟨s2, rfl, _, _, w2⟩ := open_string Try.underlying9 (hval 2 9 v2 rfl rfl) h2
  obtain ⟨A3, n3, c3, ss3, rfl, rd3, rb3, mx3⟩ := open_strs Try.underlying27 Try.underlying9 cells9 (hval 3 27 v3 rfl rfl) h3 (weight_at (ts := Try.f4.params.toList) hsz (j := 3) (by rw [Try.params4]; rfl) rfl)
  refine (walk s0 w0 s1 w1 s2 w2 A3 n3 c3 ss3 W rd3 rb3 mx3).mono fun e W' ⟨he, hb⟩ => ?_
  subst he
  exact ⟨_, rfl, law_post laidOut (of_decide_eq_true (by kernel_rfl)) rfl Try.underlying4 rfl rfl hW' hb⟩

theorem over : Rows.deltaTellsRow.holds Try.pinned (OpenSpec.ofChange Rows.deltaTellsSpec) :=
  OpenClaim.holds_of_wide 4 Try.f4 rfl rfl rfl rfl rfl rfl rfl ⟨rfl, rfl, rfl, rfl, rfl⟩ rfl rfl rfl rfl rfl (by kernel_rfl) Try.func4 (by kernel_rfl)
    (of_decide_eq_true (by kernel_rfl)) (by unfold Func.isWrapper; first | (rw [if_pos (by decide +kernel)]; kernel_rfl) | (rw [if_neg (by decide +kernel)]; exact ⟨rfl, rfl⟩))
    (fun os started H enc _ => lifted os started H enc)

end Go.Proofs.Ythghaagmpneemaa.deltaTells
namespace Go.Proofs.Ythghaagmpneemaa
theorem deltaTells_holds : Rows.DeltaTellsSaid := deltaTells.over
end Go.Proofs.Ythghaagmpneemaa
