/-
By each snapshot from the floor on what is kept tells the same as all: what is seen, and whether there is a clash.
-/
import Derived.Test.YteelhldioaaffaaL
import Derived.Test.YteelhldioaaffaaM
namespace Go.Proofs.Yteelhldioaaffaa.keepLost
open Go.ChangeShapes Go.WideShapes Go.ChangeAt Go.RowKit
set_option linter.unusedVariables false

theorem own : ownKnob Try.prog.godebug = none := by kernel_rfl
theorem laidOut : laidOutB Try.prog = true := by kernel_rfl

set_option maxRecDepth 100000 in
set_option maxHeartbeats 4000000 in
theorem walk_in (A : Option Addr) (n c : Nat) (vs : List Ver) (f s : Int) (w : World) (hs : Vers w.heap.size w A n vs) (hc : n ≤ c) :
    Calls Try.prog 5 #[.slice A n c, .int .i64 f, .int .i64 s] w fun e w' => e = .returned (.bool true) ∧ Below w.heap.size w w' := by
  have V0 := Lib.hid hs
  clear hs
  by_cases z1 : 300 < n
  · go_enter Try.func5, Try.ntmps5
    go_wp2_with fail
    refine (awake_any _).mono ?_
    rintro e w1 ⟨rfl, hb⟩
    have H1 : Hid (Below w.heap.size w w1) := hb
    clear hb
    go_wp2_with fail
    go_ret
    exact ⟨rfl, H1.out⟩

  have hn : n ≤ 1000000 := by omega
  by_cases z2 : s < f
  · go_enter Try.func5, Try.ntmps5
    go_wp2_with fail
    refine (awake_any _).mono ?_
    rintro e w1 ⟨rfl, hb⟩
    have H1 : Hid (Below w.heap.size w w1) := hb
    clear hb
    go_wp2_with fail
    go_ret
    exact ⟨rfl, H1.out⟩

  by_cases hl : LegalP vs
  case neg =>
    have HL : Hid (legalB vs = false) := legal_no hl
    clear hl
    go_enter Try.func5, Try.ntmps5
    go_wp2_with fail
    refine (rlegal_any A n c vs _ V0.out hn).mono ?_
    rintro e w1 ⟨rfl, hb⟩
    rw [HL.out]
    replace V0 := Lib.hid ((V0.out.below hb).mono hb.size)
    have H1 : Hid (Below w.heap.size w w1) := hb
    clear hb
    go_wp2_with fail
    refine (awake_any _).mono ?_
    rintro e w2 ⟨rfl, hb⟩
    replace V0 := Lib.hid ((V0.out.below hb).mono hb.size)
    have H2 : Hid (Below w.heap.size w w2) := stepB H1.out hb
    clear hb H1
    go_wp2_with fail
    go_ret
    exact ⟨rfl, H2.out⟩

  have HL : Hid (legalB vs = true) := legal_yes hl
  have hfs : f ≤ s := by omega
  have HS : Hid (∀ s, f ≤ s → seen (kept vs f) s = seen vs s ∧ seenB (kept vs f) s = seenB vs s) := fun s h => ⟨seen_kept vs h, seenB_kept vs h⟩
  have HC : Hid (clashB (kept vs f) s = clashB vs s) := clash_kept vs hfs
  have hk1 := nkept_le vs f
  rw [V0.out.1] at hk1
  clear hl
  go_enter Try.func5, Try.ntmps5
  go_wp2_with fail
  refine (rlegal_any A n c vs _ V0.out hn).mono ?_
  rintro e w1 ⟨rfl, hb⟩
  rw [HL.out]
  replace V0 := Lib.hid ((V0.out.below hb).mono hb.size)
  have H1 : Hid (Below w.heap.size w w1) := hb
  clear hb
  go_wp2_with fail
  refine (awake_any _).mono ?_
  rintro e w2 ⟨rfl, hb⟩
  replace V0 := Lib.hid ((V0.out.below hb).mono hb.size)
  have H2 : Hid (Below w.heap.size w w2) := stepB H1.out hb
  clear hb H1
  go_wp2_with fail
  refine (Kept_any A n c f vs _ hn hc V0.out).mono ?_
  rintro e w3 ⟨A_K, rfl, hrow, hb⟩
  have V_K := Lib.hid (vrow_vers hrow)
  clear hrow
  replace V0 := Lib.hid ((V0.out.below hb).mono hb.size)
  have H3 : Hid (Below w.heap.size w w3) := stepB H2.out hb
  clear hb H2
  generalize kept vs f = K at *
  generalize nkept vs f = nk at *
  have HV : Hid (∀ W, Below w3.heap.size w3 W → Vers W.heap.size W A n vs ∧ Vers W.heap.size W A_K nk K) := fun W h => ⟨(V0.out.below h).mono h.size, (V_K.out.below h).mono h.size⟩
  have C1 : Hid (∀ (s : Int) (W : World), Below w3.heap.size w3 W → Calls Try.prog 12 #[.slice A_K nk nk, .int .i64 s] W (SeenEnd K s W)) := fun s W h => Seen_any A_K nk nk s K W (by omega) (HV.out W h).2
  have C2 : Hid (∀ (s : Int) (W : World), Below w3.heap.size w3 W → Calls Try.prog 12 #[.slice A n c, .int .i64 s] W (SeenEnd vs s W)) := fun s W h => Seen_any A n c s vs W hn (HV.out W h).1
  have C3 : Hid (∀ (W : World), Below w3.heap.size w3 W → Calls Try.prog 14 #[.slice A_K nk nk, .int .i64 s] W fun e w' => e = .returned (.bool (clashB K s)) ∧ W = w') := fun W h => clash_any A_K nk nk K s W (HV.out W h).2 (by omega)
  have C4 : Hid (∀ (W : World), Below w3.heap.size w3 W → Calls Try.prog 14 #[.slice A n c, .int .i64 s] W fun e w' => e = .returned (.bool (clashB vs s)) ∧ W = w') := fun W h => clash_any A n c vs s W (HV.out W h).1 hn
  have HV0 := V0
  clear V_K HV hk1
  have hw3 := H3.out.size
  go_wp2_with fail
  refine (C1.out s _ (Below.refl _ _)).mono ?_
  rintro e w4 ⟨rfl, hb4⟩
  rw [(HS.out s hfs).1, (HS.out s hfs).2]
  obtain ⟨d, hd⟩ : ∃ d, seen vs s = d := ⟨_, rfl⟩
  obtain ⟨bd, hbd⟩ : ∃ bd, seenB vs s = bd := ⟨_, rfl⟩
  have Hd := Lib.hid hd
  have Hbd := Lib.hid hbd
  rw [hd, hbd]
  clear hd hbd
  simp only [Ver.agg]
  have hs4 := hb4.size
  have hb5 := hb4.alloc hs4 (.cells #[Value.int .i64 d.w, Value.int .i64 d.ts, Value.bool d.tomb, Value.string d.val] 27)
  have Hb5 := Lib.hid hb5
  clear hb4 hb5
  go_wp2_with fail
  refine (C2.out s _ Hb5.out).mono ?_
  rintro e w5 ⟨rfl, hb6⟩
  rw [Hd.out, Hbd.out]
  simp only [Ver.agg]
  have bA : Blk w5 w4.heap.size (vcells d) 27 := (Blk.new w4 (vcells d) 27).below hb6 (by simp)
  have hs5 := hb6.size
  have hb6' := Hb5.out.trans (hb6.mono Hb5.out.size)
  rw [World.size_alloc] at hs5
  have bA2 := bA.alloc (.cells #[Value.int .i64 d.w, Value.int .i64 d.ts, Value.bool d.tomb, Value.string d.val] 27)
  have bB2 := Blk.new w5 (vcells d) 27
  have hb7 := hb6'.alloc hb6'.size (.cells #[Value.int .i64 d.w, Value.int .i64 d.ts, Value.bool d.tomb, Value.string d.val] 27)
  simp only [vcells] at bA2 bB2
  have Hb7 := Lib.hid hb7
  have HbA := Lib.hid bA2
  have HbB := Lib.hid bB2
  have hq : (d.val.toList == d.val.toList) = true := seq_yes rfl
  have x0 := bA.cell 0
  have x1 := bA.cell 1
  have x2 := bA.cell 2
  have x3 := bA.cell 3
  simp only [vcells, List.getElem?_toArray, List.getElem?_cons_zero, List.getElem?_cons_succ] at x0 x1 x2 x3
  have hl45 : w4.heap.size < w5.heap.size := by omega
  have hn45 : ¬ w4.heap.size = w5.heap.size := by omega
  clear hb6 hb6' bA bA2 bB2 hb7 Hb5
  go_wp2_with fail
  refine (C3.out _ Hb7.out).mono ?_
  rintro e _ ⟨rfl, rfl⟩
  rw [HC.out]
  go_wp2_with fail
  refine (C4.out _ Hb7.out).mono ?_
  rintro e _ ⟨rfl, rfl⟩
  have hB0 : w3.heap.size ≤ w4.heap.size := hs4
  clear x0 x1 x2 x3 hq hs5 hn45
  generalize w5.alloc (.cells #[Value.int .i64 d.w, Value.int .i64 d.ts, Value.bool d.tomb, Value.string d.val] 27) = W0 at *
  generalize w4.heap.size = Ba at *
  generalize w5.heap.size = Bb at *
  have hAB : Ba ≠ Bb := by omega
  have HBB : Hid (Ba ≠ Bb ∧ w3.heap.size ≤ Ba ∧ w3.heap.size ≤ Bb) := ⟨hAB, hB0, by omega⟩
  clear hAB hB0 hl45 hs4 Hd Hbd C3 C4 HC
  go_wp2
  go_loopw [9, 11, 12] (fun v1 v2 i wr => ∃ (k : Nat) (x y : Ver) (b1 b2 : Bool), k ≤ n ∧ i = .int .i64 k ∧ v1 = .bool b1 ∧ v2 = .bool b2 ∧ Below w3.heap.size w3 wr ∧ Blk wr Ba (vcells x) 27 ∧ Blk wr Bb (vcells y) 27) (fun _ _ i _ => n - (intOf i).toNat)
  case atStart => exact ⟨0, d, d, _, _, by omega, rfl, rfl, rfl, Hb7.out, HbA.out, HbB.out⟩
  case round =>
    obtain ⟨k, x, y, b1, b2, hk, rfl, rfl, rfl, hb, bA, bB⟩ := hrel
    have Hb := Lib.hid hb
    have HA := Lib.hid bA
    have HB := Lib.hid bB
    clear hb bA bB
    by_cases hlt : k < n
    · obtain ⟨g, off, rfl, hg, hc⟩ := HV0.out.2 (by omega)
      have hcw := (hc k hlt)
      obtain ⟨v, hv⟩ : ∃ v, vs.getD k ver0 = v := ⟨_, rfl⟩
      rw [hv] at hcw
      have Hcw := Lib.hid hcw
      have hx := index_run g off n c k (k : Int) rfl hlt
      have c1 := (hcw.below Hb.out hg).c1
      clear hc hv hcw
      by_cases ht : v.ts < f
      · go_wp2
        go_roundw
        case rel => exact ⟨k + 1, x, y, b1, b2, by omega, by go_num, rfl, rfl, Hb.out, HA.out, HB.out⟩
        case measure => simp [intOf]; omega
      · have hft : f ≤ v.ts := by omega
        go_wp2_with fail
        refine (C1.out v.ts _ Hb.out).mono ?_
        rintro e w6 ⟨rfl, hb6⟩
        rw [(HS.out v.ts hft).1, (HS.out v.ts hft).2]
        obtain ⟨d, hd⟩ : ∃ d, seen vs v.ts = d := ⟨_, rfl⟩
        obtain ⟨bd, hbd⟩ : ∃ bd, seenB vs v.ts = bd := ⟨_, rfl⟩
        have Hd := Lib.hid hd
        have Hbd := Lib.hid hbd
        rw [hd, hbd]
        clear hd hbd
        simp only [Ver.agg]
        have bA6 := HA.out.below hb6 HA.out.lt
        have bB6 := HB.out.below hb6 HB.out.lt
        have Hb6 : Hid (Below w3.heap.size w3 w6) := stepB Hb.out hb6
        have c1' := (Hcw.out.below Hb6.out hg).c1
        have hne1 : ¬ g = Ba := by have := HBB.out.2.1; omega
        have y0 := bA6.cell 0
        have y1 := bA6.cell 1
        have y2 := bA6.cell 2
        have y3 := bA6.cell 3
        simp only [vcells, List.getElem?_toArray, List.getElem?_cons_zero, List.getElem?_cons_succ] at y0 y1 y2 y3
        have f0 := bA6.frozen 0
        have f1 := bA6.frozen 1
        have f2 := bA6.frozen 2
        have f3 := bA6.frozen 3
        have HA6 : Hid (Blk (Yteelhldioaaffaa.setV w6 Ba d) Ba (vcells d) 27) := bA6.setV d
        have HB6 : Hid (Blk (Yteelhldioaaffaa.setV w6 Ba d) Bb (vcells y) 27) := bB6.otherV (fun e => HBB.out.1 e.symm) d
        have Hb7' : Hid (Below w3.heap.size w3 (Yteelhldioaaffaa.setV w6 Ba d)) := belowV Hb6.out HBB.out.2.1 d
        clear hb6 bA6 bB6 Hb HA HB
        go_wp2_with fail
        refine (C2.out v.ts (Yteelhldioaaffaa.setV w6 Ba d) Hb7'.out).mono ?_
        rintro e w7 ⟨rfl, hb8⟩
        rw [Hd.out, Hbd.out]
        simp only [Ver.agg]
        have bA8 := HA6.out.below hb8 HA6.out.lt
        have bB8 := HB6.out.below hb8 HB6.out.lt
        have Hb8 : Hid (Below w3.heap.size w3 w7) := stepB Hb7'.out hb8
        clear y0 y1 y2 y3 f0 f1 f2 f3 c1 c1' hne1
        have hne2 : ¬ Ba = Bb := HBB.out.1
        have hne3 : ¬ Bb = Ba := fun e => hne2 e.symm
        have x0 := bA8.cell 0
        have x1 := bA8.cell 1
        have x2 := bA8.cell 2
        have x3 := bA8.cell 3
        have y0 := bB8.cell 0
        have y1 := bB8.cell 1
        have y2 := bB8.cell 2
        have y3 := bB8.cell 3
        simp only [vcells, List.getElem?_toArray, List.getElem?_cons_zero, List.getElem?_cons_succ] at x0 x1 x2 x3 y0 y1 y2 y3
        have f0 := bB8.frozen 0
        have f1 := bB8.frozen 1
        have f2 := bB8.frozen 2
        have f3 := bB8.frozen 3
        have HA9 : Hid (Blk (Yteelhldioaaffaa.setV w7 Bb d) Ba (vcells d) 27) := bA8.otherV hne2 d
        have HB9 : Hid (Blk (Yteelhldioaaffaa.setV w7 Bb d) Bb (vcells d) 27) := bB8.setV d
        have Hb9 : Hid (Below w3.heap.size w3 (Yteelhldioaaffaa.setV w7 Bb d)) := belowV Hb8.out HBB.out.2.2 d
        have hq : (d.val.toList == d.val.toList) = true := seq_yes rfl
        clear hb8 bA8 bB8 HA6 HB6 Hb7' Hb8
        go_wp2
        go_roundw
        case rel => exact ⟨k + 1, d, d, bd, bd, by omega, by go_num, rfl, rfl, Hb9.out, HA9.out, HB9.out⟩
        case measure => simp [intOf]; omega
    · obtain rfl : k = n := by omega
      go_wp2
      go_ret
      exact ⟨rfl, stepB H3.out Hb.out⟩

theorem walk (A : Option Addr) (n c : Nat) (vs : List Ver) (f : Int) (hf : (Lit.int .i64 f).wf = true) (g : Int) (hg : (Lit.int .i64 g).wf = true) (w : World) (hs : Vers w.heap.size w A n vs) (hc : n ≤ c) (hm : n ≤ maxLen) (h0 : A = none → n = 0 ∧ c = 0) (hr : ∀ x ∈ vs, -9223372036854775808 ≤ x.ts ∧ x.ts ≤ 9223372036854775807) :
    Calls Try.prog 5 #[.slice A n c, .int .i64 f, .int .i64 g] w fun e w' => e = .returned (.bool true) ∧ Below w.heap.size w w' := walk_in A n c vs f g w hs hc


set_option maxRecDepth 100000 in
theorem lifted (os : Os) (started : os.Started) (H : Type) (enc : TypeId × Value → H) :
    ReturnsInHanded {} Try.checked os 5 .any (Rows.keepLostSpec.pre6 enc Try.prog Try.f5 Rows.keepLostRow.domain false) (Rows.keepLostSpec.post enc Try.prog Try.f5 false true false false) := by
  refine returnsInHanded_of_change_sized (C := Try.checked) own started (by kernel_rfl) Try.func5
    (ChangeSpec.witness6 (enc := enc) (C := Try.checked) false ⟨#[], #[.slice none 0 0, .int .i64 0, .int .i64 0], []⟩ 8 (by kernel_rfl) (by kernel_rfl) (by kernel_rfl) (by kernel_rfl)) ?_
  intro W base args ds gs before hval0 hW _ hsz _
  have hval : ∀ (j : Nat) t v, Try.f5.params[j]? = some t → args[j]? = some v → Value.okWide Try.prog W .any base t v := hval0
  have hW' := hW
  obtain ⟨p, q, hA0, hV, hbef, _, _⟩ := hW
  have hA : DataW.TrodAll enc Try.prog W 0 (fun _ => true) true Try.f5.params.toList args.toList ds p := hA0
  rw [Try.params5] at hA hval
  obtain ⟨v0, vs0, d0, ds0, p0, q0, hargs, rfl, rfl, h0, r0⟩ := trodAll_cons hA
  obtain ⟨v1, vs1, d1, ds1, p1, q1, rfl, rfl, rfl, h1, r1⟩ := trodAll_cons r0
  obtain ⟨v2, vs2, d2, ds2, p2, q2, rfl, rfl, rfl, h2, r2⟩ := trodAll_cons r1
  obtain ⟨rfl, rfl, rfl⟩ := trodAll_nil r2
  obtain rfl : args = #[v0, v1, v2] := by cases args; simp_all
  obtain ⟨rfl, rfl⟩ := trodVars_none hV
  obtain ⟨A0, n0, c0, vv0, rfl, rd0, nc0, mx0, nl0, rg0⟩ := open_vers (hval 0 24 v0 rfl rfl) h0
  obtain ⟨a1, rfl, _, _, w1⟩ := open_int Try.underlying3 (hval 1 3 v1 rfl rfl) h1
  obtain ⟨a2, rfl, _, _, w2⟩ := open_int Try.underlying3 (hval 2 3 v2 rfl rfl) h2
  refine (walk A0 n0 c0 vv0 a1 w1 a2 w2 W rd0 nc0 mx0 nl0 rg0).mono fun e W' ⟨he, hb⟩ => ?_
  subst he
  exact ⟨_, rfl, law_post laidOut (of_decide_eq_true (by kernel_rfl)) rfl Try.underlying4 rfl rfl hW' hb⟩

theorem over : Rows.keepLostRow.holds Try.pinned (OpenSpec.ofChange Rows.keepLostSpec) :=
  OpenClaim.holds_of_wide 5 Try.f5 rfl rfl rfl rfl rfl rfl rfl ⟨rfl, rfl, rfl, rfl, rfl⟩ rfl rfl rfl rfl rfl (by kernel_rfl) Try.func5 (by kernel_rfl)
    (of_decide_eq_true (by kernel_rfl)) (by unfold Func.isWrapper; first | (rw [if_pos (by decide +kernel)]; kernel_rfl) | (rw [if_neg (by decide +kernel)]; exact ⟨rfl, rfl⟩))
    (fun os started H enc _ => lifted os started H enc)

end Go.Proofs.Yteelhldioaaffaa.keepLost
namespace Go.Proofs.Yteelhldioaaffaa
theorem keepLost_holds : Rows.KeepLostSaid := keepLost.over
end Go.Proofs.Yteelhldioaaffaa
