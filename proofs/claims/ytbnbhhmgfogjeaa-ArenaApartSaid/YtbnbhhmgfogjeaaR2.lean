/-
What is written to a slot is read, till something else is, or it is given back; nothing that is done to others changes it. For any length of a slot, any steps.
-/
import Derived.Test.YtbnbhhmgfogjeaaGU
import Derived.Test.YtbnbhhmgfogjeaaLF
import Derived.Test.YtbnbhhmgfogjeaaRows
namespace Go.Proofs.Ytbnbhhmgfogjeaa.arenaApart
open Go.ChangeShapes Go.WideShapes Go.ChangeAt Go.RowKit Go.Maps
set_option linter.unusedVariables false
set_option linter.unusedSimpArgs false

theorem own : ownKnob Try.prog.godebug = none := by kernel_rfl
theorem laidOut : laidOutB Try.prog = true := by kernel_rfl

abbrev SH (w0 : World) (gu gh j : Nat) (y : Int) (tj : ByteArray) (W : World) : Prop := Below w0.heap.size w0 W ∧ W.cell? ⟨gu, j, none⟩ = some (.int .u64 y) ∧ W.cell? ⟨gh, j, none⟩ = some (.string tj)
theorem SH.later {w0 W W2 : World} {gu gh j : Nat} {y : Int} {tj : ByteArray} (h : SH w0 gu gh j y tj W) (hb : Below W.heap.size W W2) : SH w0 gu gh j y tj W2 :=
  ⟨stepB h.1 hb, (hb.cell (p := ⟨gu, j, none⟩) (lt_of_cell h.2.1)).trans h.2.1, (hb.cell (p := ⟨gh, j, none⟩) (lt_of_cell h.2.2)).trans h.2.2⟩
theorem getD_setH (l : List ByteArray) (k j : Nat) (v : ByteArray) (h : k < l.length) : (l.set k v).getD j ByteArray.empty = if k = j then v else l.getD j ByteArray.empty := by
  rw [List.getD_eq_getElem?_getD, List.getElem?_set, List.getD_eq_getElem?_getD]
  by_cases e : k = j
  · subst e; rw [if_pos rfl, if_pos h, if_pos rfl]; rfl
  · rw [if_neg e, if_neg e]
theorem getH {l : List ByteArray} {k : Nat} (h : k < l.length) : l[k]? = some (l.getD k ByteArray.empty) := by rw [List.getElem?_eq_getElem h, List.getD_eq_getElem?_getD, List.getElem?_eq_getElem h]; rfl
set_option maxRecDepth 100000 in
set_option maxHeartbeats 8000000 in
theorem walk (x : Int) (A : Option Addr) (n c : Nat) (S : List Stp) (w : World) (hS : Steps w.heap.size w A n S) (hn : n ≤ maxLen) : Calls Try.prog 6 #[.int .i64 x, .slice A n c] w (fun e w' => e = .returned (.bool true) ∧ Below w.heap.size w w') := by
  have HS := Lib.hid hS
  have HN := Lib.hid hn
  clear hS hn
  go_enter Try.func6, Try.ntmps6
  go_wp2_with fail
  refine (works_any w).mono ?_
  rintro e w1 ⟨rfl, hb⟩
  have HB1 := Lib.hid hb
  have HS1 := Lib.hid ((HS.out.below hb).mono hb.size)
  clear hb
  go_wp2_with fail
  refine (large_any A n c S w1 HS1.out HN.out).mono ?_
  rintro e w2 ⟨r, rfl, rfl, hr⟩
  have HR := Lib.hid hr
  clear hr
  cases r with
  | true =>
    go_wp2_with fail
    refine (works_any _).mono ?_
    rintro e w2 ⟨rfl, hb⟩
    have HB2 := Lib.hid (stepB HB1.out hb)
    clear hb
    go_wp2
    go_ret
    exact ⟨rfl, HB2.out⟩
  | false =>
    have hn2 : n ≤ 200 := HR.out rfl
    clear HR
    by_cases hx : x < 2 ∨ 4096 < x
    · have HX := Lib.hid hx
      clear hx
      go_wp2_with fail
      refine (arnew_no x w1 HX.out).mono ?_
      rintro e w3 ⟨rfl, rfl⟩
      go_wp2
      go_ret
      exact ⟨rfl, HB1.out⟩
    · obtain ⟨s, rfl⟩ : ∃ s : Nat, x = (s : Int) := ⟨x.toNat, by omega⟩
      have h2 : 2 ≤ s := by omega
      have h4 : s ≤ 4096 := by omega
      clear hx
      go_wp2_with fail
      refine (arnew_any s w1 h2 h4).mono ?_
      rintro e w3 ⟨a, S0, rfl, hA, hb⟩
      have HA3 := Lib.hid (hA.base HB1.out.size)
      have HB3 := Lib.hid (stepB HB1.out hb)
      have HS3 : Hid (∀ W, Below w.heap.size w W → Steps w.heap.size W A n S) := fun W hb => HS.out.below hb
      clear hA hb HS1
      go_wp2
      go_loopw [7, 8, 9] (fun v7 v8 i wr => ∃ (k : Nat) (st : AS) (S1 : Nat → Prop) (U : List Int) (H : List ByteArray) (vU vH : Value), k ≤ n ∧ i = .int .i64 k ∧ vU = v7 ∧ vH = v8 ∧ AR wr w.heap.size a s st S1 ∧ TI st U k ∧ U.length ≤ k ∧ Ow hv wr w.heap.size 24 vU U.length U ∧ Ow sv wr w.heap.size 9 vH H.length H ∧ H.length = U.length ∧ (∀ j, j < U.length → isA st (U.getD j 0) = true → rdA s (U.getD j 0) st = padT s (H.getD j ByteArray.empty) ∧ (H.getD j ByteArray.empty).size ≤ s) ∧ Below w.heap.size w wr) (fun _ _ i _ => n - (intOf i).toNat)
      case atStart => exact ⟨0, _, S0, [], [], _, _, Nat.zero_le _, rfl, rfl, rfl, HA3.out, TI.nil, Nat.le_refl _, Ow.none _ _ _, Ow.none _ _ _, rfl, (fun j h => absurd h (Nat.not_lt_zero j)), HB3.out⟩
      case round =>
        obtain ⟨k, st, S1, U, H, vU, vH, hk, rfl, rfl, rfl, hA, hT, hul, ho, hd, hdl, hgone, hb⟩ := hrel
        obtain ⟨w4, rfl⟩ : ∃ w4 : World, w4 = wr := ⟨_, rfl⟩
        have HA := Lib.hid hA
        have HT := Lib.hid hT
        have HO := Lib.hid ho
        have HD := Lib.hid hd
        have HDL := Lib.hid hdl
        have HHS := Lib.hid hgone
        have HB := Lib.hid hb
        have HUL := Lib.hid hul
        clear hA hT ho hd hdl hgone hb hul HA3 HB3
        by_cases hlt : k < n
        · have d1 : decide ((k : Int) < (n : Int)) = true := decide_eq_true (by omega)
          have wk : IntKind.i64.wrap ((k : Int) + 1) = (k : Int) + 1 := IntWalk.i64_in _ (by omega)
          obtain ⟨g, off, rfl, hg, hcell⟩ := (HS3.out _ HB.out).2 (by omega)
          have i1 := sindex g off n c k (k : Int) rfl hlt
          have KC : Hid (∀ W, Below w.heap.size w W → SCell W g (off + k * 4) (S.getD k stp0)) := fun W hW => by
            obtain ⟨g2, off2, e, _, h2⟩ := (HS3.out W hW).2 (by omega)
            cases e
            exact (h2 k hlt).1
          obtain ⟨_, hok⟩ := hcell k hlt
          obtain ⟨t, hx⟩ : ∃ t, S.getD k stp0 = t := ⟨_, rfl⟩
          rw [hx] at hok KC
          have HOK := Lib.hid hok
          have HST := Lib.hid (HT.out.step (s := s) (t := t) (by have := HUL.out; omega) HA.out.pure h2 h4 hok)
          have HSR := Lib.hid (HT.out.stepR (s := s) (t := t) (by have := HUL.out; omega) HA.out.pure h2 h4 hok)
          have HHAS := Lib.hid (has_step HT.out HST.out HSR.out HDL.out HHS.out)
          have HDO := Lib.hid (fun (W : World) (hA : AR W w.heap.size a s st S1) (hO : Ow hv W w.heap.size 24 vU U.length U) => sdo_any w.heap.size a s st S1 W hA t U w.heap.size vU hok hO (by have := HUL.out; omega) (fun x hx => (HT.out.told x hx).1) h2 h4 (by have := HT.out.glen; omega))
          have HOF := Lib.hid (of_any t U w.heap.size vU w4 hok HO.out (by have := HUL.out; omega))
          clear hcell hx hok hg HSR
          obtain ⟨x0, x1, x2, x3⟩ := KC.out _ HB.out
          obtain ⟨kd, m, rw_, tx⟩ := t
          have x0' : w4.cell? ⟨g, off + k * 4, none⟩ = some (.int .u8 kd) := x0
          simp only at x0 x1 x2 x3 HDO HOF HHAS
          obtain ⟨st', hst'⟩ : ∃ z, (doS s (kd, m, rw_, tx) U st).1 = z := ⟨_, rfl⟩
          obtain ⟨xn, hxn⟩ : ∃ z, (doS s (kd, m, rw_, tx) U st).2.1 = z := ⟨_, rfl⟩
          obtain ⟨is, his⟩ : ∃ z, (doS s (kd, m, rw_, tx) U st).2.2 = z := ⟨_, rfl⟩
          obtain ⟨own, hown⟩ : ∃ z, ofS (kd, m, rw_, tx) U = z := ⟨_, rfl⟩
          rw [hst', hxn, his] at HST HDO HHAS
          rw [hown] at HOF HHAS
          clear hst' hxn his hown
          go_wp2_with fail
          refine HOF.out.mono ?_
          rintro e wo ⟨rfl, hb⟩
          have HAo := Lib.hid (HA.out.later hb)
          have HOo := Lib.hid (Ow.later HO.out hb)
          have HDo := Lib.hid (Ow.later HD.out hb)
          have HBo := Lib.hid (stepB HB.out hb)
          clear hb x0 x0' x1 x2 x3 HA HO HD HB HOF
          obtain ⟨x0, x1, x2, x3⟩ := KC.out _ HBo.out
          simp only at x0 x1 x2 x3
          go_wp2_with fail
          refine (HDO.out _ HAo.out HOo.out).mono ?_
          rintro e w5 ⟨rfl, S2, hA2, hS2, hf⟩
          have HA5 := Lib.hid hA2
          have HO5 := Lib.hid (HAo.out.ow hf HOo.out ⟨by decide, by decide, by decide⟩)
          have HD5 := Lib.hid (HAo.out.ow hf HDo.out ⟨by decide, by decide, by decide⟩)
          have HB5 := Lib.hid (HAo.out.frBelow hf HBo.out (Nat.le_refl _) HBo.out.size)
          clear hA2 hS2 hf HDO x0 x1 x2 x3 HAo HOo HDo HBo
          obtain ⟨U2, hU2⟩ : ∃ U2, (if is then U ++ [xn] else U) = U2 := ⟨_, rfl⟩
          obtain ⟨H2, hH2⟩ : ∃ H2, (if is then H ++ [ByteArray.empty] else H) = H2 := ⟨_, rfl⟩
          rw [hU2, hH2] at HHAS
          have HU2 := Lib.hid hU2
          have HH2 := Lib.hid hH2
          have HTI : Hid (TI st' U2 (k + 1)) := by have := HST.out.ti; rw [hU2] at this; exact this
          have HUL2 : Hid (U2.length ≤ k + 1) := by
            have := HUL.out
            show _ ≤ _
            rw [← hU2]
            cases is <;> simp <;> omega
          have HLE : Hid (H2.length = U2.length) := by
            have := HDL.out
            show _ = _
            rw [← hU2, ← hH2]
            cases is <;> simp <;> omega
          clear hU2 hH2
          go_upto_if 50 with (fail)
          go_cut [7, 8] (fun s7 s8 wx => ∃ (vU2 vH2 : Value), vU2 = s7 ∧ vH2 = s8 ∧ AR wx w.heap.size a s st' S2 ∧ Ow hv wx w.heap.size 24 vU2 U2.length U2 ∧ Ow sv wx w.heap.size 9 vH2 H2.length H2 ∧ Below w.heap.size w wx)
          case first =>
            cases is with
            | false =>
              have HUE : Hid (U2 = U) := Lib.hid (by have := HU2.out; simpa using this.symm)
              have HHE : Hid (H2 = H) := Lib.hid (by have := HH2.out; simpa using this.symm)
              go_wp2
              go_meet
              exact ⟨vU, vH, rfl, rfl, HA5.out, by rw [HUE.out]; exact HO5.out, by rw [HHE.out]; exact HD5.out, HB5.out⟩
            | true =>
              have HUE : Hid (U2 = U ++ [xn]) := Lib.hid (by have := HU2.out; simpa using this.symm)
              have HHE : Hid (H2 = H ++ [ByteArray.empty]) := Lib.hid (by have := HH2.out; simpa using this.symm)
              obtain ⟨AV, cV, hv1, _⟩ := Ow.sl HO5.out
              subst hv1
              have hbx : Below w5.heap.size w5 (w5.alloc (.cells #[.int .u64 xn] 24)) := (Below.refl _ _).alloc (Nat.le_refl _) _
              have HX6 : Hid (Sl hv (w5.alloc (.cells #[.int .u64 xn] 24)) (some ⟨w5.heap.size, 0, none⟩) 1 1 [xn]) := Blk.sl (enc := hv) (xs := [xn]) (Blk.new w5 #[.int .u64 xn] 24)
              have HA6 := Lib.hid (HA5.out.later hbx)
              have HO6 := Lib.hid (Ow.later HO5.out hbx)
              have HD6 := Lib.hid (Ow.later HD5.out hbx)
              have HB6 := Lib.hid (stepB HB5.out hbx)
              clear hbx
              go_wp2_with (first
                | (at_builtin; refine wpList_append_sl elemH rfl (.tmp 51) (.tmp 53) rfl w.heap.size (.slice AV U.length cV) U.length U rfl HO6.out (some ⟨w5.heap.size, 0, none⟩) 1 1 [xn] rfl HX6.out (by have := HUL.out; omega) (by decide) HB6.out.size ?_; intro vn7 w7 ho7)
                | fail)
              intro hg7
              have HA7 := Lib.hid (HA6.out.grown HO6.out ⟨by decide, by decide, by decide⟩ hg7)
              have HD7 := Lib.hid (ow_grown_tag HD6.out HO6.out (show (9 : TypeId) ≠ 24 by decide) hg7)
              have HB7 := Lib.hid (ow_below HO6.out HB6.out HB6.out.size hg7)
              have HO7 := Lib.hid ho7
              clear ho7 hg7 HX6 HA6 HO6 HD6 HB6
              obtain ⟨AD, cD, hv2, _⟩ := Ow.sl HD7.out
              subst hv2
              have hbx : Below w7.heap.size w7 (w7.alloc (.cells #[.string { data := #[] }] 9)) := (Below.refl _ _).alloc (Nat.le_refl _) _
              have HX8 : Hid (Sl sv (w7.alloc (.cells #[.string { data := #[] }] 9)) (some ⟨w7.heap.size, 0, none⟩) 1 1 [ByteArray.empty]) := Blk.sl (enc := sv) (xs := [ByteArray.empty]) (Blk.new w7 #[.string { data := #[] }] 9)
              have HA8 := Lib.hid (HA7.out.later hbx)
              have HO8 := Lib.hid (Ow.later HO7.out hbx)
              have HD8 := Lib.hid (Ow.later HD7.out hbx)
              have HB8 := Lib.hid (stepB HB7.out hbx)
              clear hbx
              go_wp2_with (first
                | (at_builtin; refine wpList_append_sl elemS rfl (.tmp 55) (.tmp 56) rfl w.heap.size (.slice AD H.length cD) H.length H rfl HD8.out (some ⟨w7.heap.size, 0, none⟩) 1 1 [ByteArray.empty] rfl HX8.out (by have := HUL.out; have := HDL.out; omega) (by decide) HB8.out.size ?_; intro vn9 w9 ho9)
                | fail)
              intro hg9
              have HA9 := Lib.hid (HA8.out.grown HD8.out ⟨by decide, by decide, by decide⟩ hg9)
              have HO9 := Lib.hid (ow_grown_tag HO8.out HD8.out (show (24 : TypeId) ≠ 9 by decide) hg9)
              have HB9 := Lib.hid (ow_below HD8.out HB8.out HB8.out.size hg9)
              have HD9 := Lib.hid ho9
              clear ho9 hg9 HX8 HA8 HO8 HD8 HB8
              go_wp2
              go_meet
              refine ⟨vn7, vn9, rfl, rfl, HA9.out, ?_, ?_, HB9.out⟩
              · rw [HUE.out, List.length_append]; exact HO9.out
              · rw [HHE.out, List.length_append]; exact HD9.out
          case rest =>
            obtain ⟨vU2, vH2, rfl, rfl, hA, ho, hd, hb⟩ := hcut
            obtain ⟨w6, rfl⟩ : ∃ w6 : World, w6 = wc := ⟨_, rfl⟩
            have HA6 := Lib.hid hA
            have HO6 := Lib.hid ho
            have HD6 := Lib.hid hd
            have HB6 := Lib.hid hb
            clear hA ho hd hb HA5 HO5 HD5 HB5
            obtain ⟨AV, cV, hv1, _⟩ := Ow.sl HO6.out
            subst hv1
            obtain ⟨AD, cD, hv2, _⟩ := Ow.sl HD6.out
            subst hv2
            go_wp2
            go_loopw [13] (fun i wr => ∃ (j : Nat) (H3 : List ByteArray), j ≤ U2.length ∧ i = .int .i64 j ∧ AR wr w.heap.size a s st' S2 ∧ Ow hv wr w.heap.size 24 (.slice AV U2.length cV) U2.length U2 ∧ Ow sv wr w.heap.size 9 (.slice AD H2.length cD) H2.length H3 ∧ H3.length = H2.length ∧ (∀ i, i < j → H3.getD i ByteArray.empty = hasOf s (kd, m, rw_, tx) own U2 H2 i) ∧ (∀ i, j ≤ i → H3.getD i ByteArray.empty = H2.getD i ByteArray.empty) ∧ Below w.heap.size w wr) (fun i _ => U2.length - (intOf i).toNat)
            case atStart => exact ⟨0, H2, Nat.zero_le _, rfl, HA6.out, HO6.out, HD6.out, rfl, (fun i h => absurd h (Nat.not_lt_zero i)), (fun _ _ => rfl), HB6.out⟩
            case round =>
              obtain ⟨j, H3, hj, rfl, hA, ho, hd, hdl, hq1, hq2, hb⟩ := hrel
              obtain ⟨w7, rfl⟩ : ∃ w7 : World, w7 = wr := ⟨_, rfl⟩
              have HA7 := Lib.hid hA
              have HO7 := Lib.hid ho
              have HD7 := Lib.hid hd
              have HDL3 := Lib.hid hdl
              have HQ1 := Lib.hid hq1
              have HQ2 := Lib.hid hq2
              have HB7 := Lib.hid hb
              clear hA ho hd hdl hq1 hq2 hb HA6 HO6 HD6 HB6
              by_cases hjl : j < U2.length
              · have d2 : decide ((j : Int) < (U2.length : Int)) = true := decide_eq_true (by omega)
                have wj : IntKind.i64.wrap ((j : Int) + 1) = (j : Int) + 1 := IntWalk.i64_in _ (by have := HUL2.out; omega)
                obtain ⟨gu, cu, hvu, hgu, hcu, _⟩ := ow_at HO7.out (getU hjl)
                cases hvu
                have hjd : j < H3.length := by have := HDL3.out; have := HLE.out; omega
                have hjd2 : j < H2.length := by have := HDL3.out; omega
                obtain ⟨gd, cd, hvd, hgd, hcd, hfd⟩ := ow_at HD7.out (getH hjd)
                have hvd' : AD = some ⟨gd, 0, none⟩ ∧ cD = cd := by simpa using hvd
                obtain ⟨rfl, rfl⟩ := hvd'
                have KU : Hid (∀ W, (Ow hv W w.heap.size 24 (.slice (some ⟨gu, 0, none⟩) U2.length cV) U2.length U2) → W.cell? ⟨gu, j, none⟩ = some (.int .u64 (U2.getD j 0))) := fun W hW => by
                  obtain ⟨_, _, e, _, h, _⟩ := ow_at hW (getU hjl)
                  cases e; exact h
                have KD : Hid (∀ W H4, H4.length = H2.length → (Ow sv W w.heap.size 9 (.slice (some ⟨gd, 0, none⟩) H2.length cD) H2.length H4) → W.cell? ⟨gd, j, none⟩ = some (.string (H4.getD j ByteArray.empty)) ∧ W.frozen? ⟨gd, j, none⟩ = false) := fun W H4 h4 hW => by
                  obtain ⟨_, _, e, _, h, h'⟩ := ow_at hW (getH (show j < H4.length by omega))
                  cases e; exact ⟨h, h'⟩
                have i6 := idx48 gu U2.length cV j (j : Int) rfl hjl
                have i7 := idx49 gd H2.length cD j (j : Int) rfl hjd2
                have HXR := Lib.hid (HTI.out.told _ (getD_memU hjl)).1
                have HHJ := Lib.hid (HHAS.out j hjl)
                have HTJ : Hid (hasOf s (kd, m, rw_, tx) own U2 H2 j = if kd = 2 ∧ U2.getD j 0 = own ∧ tx.size ≤ s then tx else H3.getD j ByteArray.empty) := by
                  show _ = _
                  unfold hasOf
                  rw [HQ2.out j (Nat.le_refl _)]
                obtain ⟨tj, htj⟩ : ∃ tj, hasOf s (kd, m, rw_, tx) own U2 H2 j = tj := ⟨_, rfl⟩
                have HQT := Lib.hid htj
                rw [htj] at HHJ HTJ
                obtain ⟨y, hy⟩ : ∃ y, U2.getD j 0 = y := ⟨_, rfl⟩
                rw [hy] at KU HXR HHJ HTJ
                obtain ⟨t0, ht0⟩ : ∃ t0, H3.getD j ByteArray.empty = t0 := ⟨_, rfl⟩
                rw [ht0] at HTJ
                have HT0 := Lib.hid ht0
                clear hcu hgu hgd hcd hfd hvd hy htj ht0
                obtain ⟨bb, hbb⟩ : ∃ bb, decide (kd = 2 ∧ y = own ∧ tx.size ≤ s) = bb := ⟨_, rfl⟩
                have HBBX := Lib.hid hbb
                go_upto_region 19 with (fail)
                go_cut [87] (fun s87 wx => s87 = .bool bb ∧ wx = w7)
                case first =>
                  have k1 := KU.out _ HO7.out
                  obtain ⟨x0, x1, x2, x3⟩ := KC.out _ HB7.out
                  simp only at x0 x1 x2 x3
                  clear x1 x2 hbb
                  by_cases c1 : kd = 2
                  · have b1 : (kd == 2) = true := by rw [c1]; rfl
                    by_cases c2 : y = own
                    · have b2 : (y == own) = true := by rw [c2]; simp
                      by_cases c3 : tx.size ≤ s
                      · have b3 : decide (tx.size ≤ s) = true := decide_eq_true c3
                        have b4 : decide ((tx.size : Int) ≤ (s : Int)) = true := decide_eq_true (by omega)
                        have HE : Hid (bb = true) := Lib.hid (by rw [← HBBX.out]; exact decide_eq_true ⟨c1, c2, c3⟩)
                        clear c1 c2 c3
                        go_wp2
                        go_meet
                        exact ⟨by rw [HE.out], rfl⟩
                      · have b3 : decide (tx.size ≤ s) = false := decide_eq_false c3
                        have b4 : decide ((tx.size : Int) ≤ (s : Int)) = false := decide_eq_false (by omega)
                        have HE : Hid (bb = false) := Lib.hid (by rw [← HBBX.out]; exact decide_eq_false (fun q => c3 q.2.2))
                        clear c1 c2 c3
                        go_wp2
                        go_meet
                        exact ⟨by rw [HE.out], rfl⟩
                    · have b2 : (y == own) = false := by rw [beq_eq_false_iff_ne]; exact c2
                      have HE : Hid (bb = false) := Lib.hid (by rw [← HBBX.out]; exact decide_eq_false (fun q => c2 q.2.1))
                      clear c1 c2
                      go_wp2
                      go_meet
                      exact ⟨by rw [HE.out], rfl⟩
                  · have b1 : (kd == 2) = false := by rw [beq_eq_false_iff_ne]; exact c1
                    have HE : Hid (bb = false) := Lib.hid (by rw [← HBBX.out]; exact decide_eq_false (fun q => c1 q.1))
                    clear c1
                    go_wp2
                    go_meet
                    exact ⟨by rw [HE.out], rfl⟩
                case rest =>
                 obtain ⟨rfl, hwe⟩ := hcut
                 subst hwe
                 clear hbb
                 go_upto_if 87 with (fail)
                 go_cut [13] (fun s13 wx => ∃ H4 : List ByteArray, s13 = .int .i64 j ∧ AR wx w.heap.size a s st' S2 ∧ Ow hv wx w.heap.size 24 (.slice (some ⟨gu, 0, none⟩) U2.length cV) U2.length U2 ∧ Ow sv wx w.heap.size 9 (.slice (some ⟨gd, 0, none⟩) H2.length cD) H2.length H4 ∧ H4.length = H2.length ∧ H4.getD j ByteArray.empty = tj ∧ (∀ i, i < j + 1 → H4.getD i ByteArray.empty = hasOf s (kd, m, rw_, tx) own U2 H2 i) ∧ (∀ i, j + 1 ≤ i → H4.getD i ByteArray.empty = H2.getD i ByteArray.empty) ∧ Below w.heap.size w wx)
                 case first =>
                  cases bb with
                  | true =>
                    have HC := Lib.hid (of_decide_eq_true HBBX.out)
                    obtain ⟨k2, k3⟩ := KD.out _ _ HDL3.out HD7.out
                    obtain ⟨x0, x1, x2, x3⟩ := KC.out _ HB7.out
                    simp only at x0 x1 x2 x3
                    clear x0 x1 x2
                    have HE : Hid (tj = tx) := by have := HTJ.out; rw [if_pos HC.out] at this; exact this
                    have hst := ow_store HD7.out j tx
                    have HAX := Lib.hid (HA7.out.grown HD7.out ⟨by decide, by decide, by decide⟩ (show World.grownBy _ _ (Value.ownBlock (.slice (some ⟨gd, 0, none⟩) H2.length cD)) from hst.2))
                    have HOX := Lib.hid (ow_grown_tag HO7.out HD7.out (show (24 : TypeId) ≠ 9 by decide) (show World.grownBy _ _ (Value.ownBlock (.slice (some ⟨gd, 0, none⟩) H2.length cD)) from hst.2))
                    have HBX := Lib.hid (ow_below HD7.out HB7.out HB7.out.size (show World.grownBy _ _ (Value.ownBlock (.slice (some ⟨gd, 0, none⟩) H2.length cD)) from hst.2))
                    have HDX := Lib.hid hst.1
                    clear hst
                    go_wp2
                    go_meet
                    refine ⟨H3.set j tx, rfl, HAX.out, HOX.out, HDX.out, by rw [List.length_set]; exact HDL3.out, ?_, fun i hi => ?_, fun i hi => ?_, HBX.out⟩
                    · rw [getD_setH _ _ _ _ hjd, if_pos rfl, HE.out]
                    · rw [getD_setH _ _ _ _ hjd]
                      by_cases ei : j = i
                      · rw [if_pos ei, ← ei, HQT.out, HE.out]
                      · rw [if_neg ei]; exact HQ1.out i (by omega)
                    · rw [getD_setH _ _ _ _ hjd, if_neg (by omega)]; exact HQ2.out i (by omega)
                  | false =>
                    have HC := Lib.hid (of_decide_eq_false HBBX.out)
                    have HE : Hid (t0 = tj) := by have := HTJ.out; rw [if_neg HC.out] at this; exact this.symm
                    go_wp2
                    go_meet
                    refine ⟨H3, rfl, HA7.out, HO7.out, HD7.out, HDL3.out, HT0.out.trans HE.out, fun i hi => ?_, fun i hi => HQ2.out i (by omega), HB7.out⟩
                    by_cases ei : i = j
                    · rw [ei, HQT.out, HT0.out]; exact HE.out
                    · exact HQ1.out i (by omega)
                 case rest =>
                  clear HBBX
                  obtain ⟨H4, rfl, hA, ho, hd, hdl, hjt, hq1, hq2, hb⟩ := hcut
                  obtain ⟨w8, rfl⟩ : ∃ w8 : World, w8 = wc := ⟨_, rfl⟩
                  have HA8 := Lib.hid hA
                  have HO8 := Lib.hid ho
                  have HD8 := Lib.hid hd
                  have HDL4 := Lib.hid hdl
                  have HJT := Lib.hid hjt
                  have HR1 := Lib.hid hq1
                  have HR2 := Lib.hid hq2
                  have HB8 := Lib.hid hb
                  clear hA ho hd hdl hjt hq1 hq2 hb HA7 HO7 HD7 HB7 HDL3 HQ1 HQ2 HT0 HTJ HQT hjd
                  have HIS := Lib.hid (fun (W : World) (hA : AR W w.heap.size a s st' S2) => aris_any w.heap.size a s st' S2 W hA y HXR.out.1 HXR.out.2)
                  have K0 : Hid (SH w8 gu gd j y tj w8) := ⟨Below.refl _ _, KU.out _ HO8.out, by rw [← HJT.out]; exact (KD.out _ _ HDL4.out HD8.out).1⟩
                  have HEND : Hid (∀ W, Below w8.heap.size w8 W → ∃ (j' : Nat) (H3 : List ByteArray), j' ≤ U2.length ∧ ((j : Int) + 1 = (j' : Int)) ∧ j < j' ∧ AR W w.heap.size a s st' S2 ∧ Ow hv W w.heap.size 24 (.slice (some ⟨gu, 0, none⟩) U2.length cV) U2.length U2 ∧ Ow sv W w.heap.size 9 (.slice (some ⟨gd, 0, none⟩) H2.length cD) H2.length H3 ∧ H3.length = H2.length ∧ (∀ i, i < j' → H3.getD i ByteArray.empty = hasOf s (kd, m, rw_, tx) own U2 H2 i) ∧ (∀ i, j' ≤ i → H3.getD i ByteArray.empty = H2.getD i ByteArray.empty) ∧ Below w.heap.size w W) := fun W hW =>
                    ⟨j + 1, H4, by omega, by omega, by omega, HA8.out.later hW, Ow.later HO8.out hW, Ow.later HD8.out hW, HDL4.out, HR1.out, HR2.out, stepB HB8.out hW⟩
                  have KW : Hid (∀ W, Below w8.heap.size w8 W → W.cell? ⟨gu, j, none⟩ = some (.int .u64 y) ∧ W.cell? ⟨gd, j, none⟩ = some (.string tj) ∧ W.cell? ⟨g, off + k * 4, none⟩ = some (.int .u8 kd)) := fun W hW => ⟨(K0.out.later hW).2.1, (K0.out.later hW).2.2, (KC.out W (stepB HB8.out hW)).c0⟩
                  obtain ⟨nm, hnm⟩ : ∃ nm, isA st' y = nm := ⟨_, rfl⟩
                  rw [hnm] at HIS HHJ
                  have HNM := Lib.hid hnm
                  clear hnm
                  cases nm with
                  | true =>
                    have HRD : Hid (∀ W, SH w8 gu gd j y tj W → Calls Try.prog 21 #[.pointer (some ⟨a, 0, none⟩), .int .u64 y, .string tj] W fun e w' => e = .returned (.bool true) ∧ Below W.heap.size W w') := fun W hW =>
                      reads_yes w.heap.size a s st' S2 W (HA8.out.later hW.1) y tj HXR.out.1 HXR.out.2 HNM.out (HHJ.out rfl).1 (HHJ.out rfl).2 h4
                    have KI : Hid (∀ W, SH w8 gu gd j y tj W → Calls Try.prog 15 #[.pointer (some ⟨a, 0, none⟩), .int .u64 y] W fun e w' => e = .returned (.bool true) ∧ Below W.heap.size W w') := fun W hW => HIS.out W (HA8.out.later hW.1)
                    go_upto_region 21 with (fail)
                    go_region_held3 (SH w8 gu gd j y tj) (first | assumption | exact K0.out | exact SH.later (by assumption) (by assumption) | exact SH.later (by assumption) (below_drewN (Below.refl _ _) _)) (first
                      | (go_at_call 15; refine (KI.out _ (by assumption)).mono ?_; rintro e w9 ⟨rfl, hb⟩)
                      | (go_at_call 21; refine (HRD.out _ (by assumption)).mono ?_; rintro e w9 ⟨rfl, hb⟩))
                    rename SH _ _ _ _ _ _ _ => hS
                    have HZ := Lib.hid hS.1
                    clear hS
                    obtain ⟨k1, k2, x0⟩ := KW.out _ HZ.out
                    go_wp2_with fail
                    refine (HIS.out _ (HA8.out.later HZ.out)).mono ?_
                    rintro e w10 ⟨rfl, hb⟩
                    replace HZ := Lib.hid (stepB HZ.out hb)
                    clear hb k1 k2 x0
                    obtain ⟨k1, k2, x0⟩ := KW.out _ HZ.out
                    go_wp2_with fail
                    refine (HIS.out _ (HA8.out.later HZ.out)).mono ?_
                    rintro e w11 ⟨rfl, hb⟩
                    replace HZ := Lib.hid (stepB HZ.out hb)
                    clear hb k1 k2 x0
                    go_wp2
                    all_goals (
                      go_roundw
                      case rel =>
                        obtain ⟨j', H3, e1, e2, e3, e4⟩ := HEND.out _ HZ.out
                        exact ⟨j', H3, e1, by first | rw [← e2] | (rw [← e2]; go_num), e4⟩
                      case measure => simp [intOf]; omega)
                  | false =>
                    have KI : Hid (∀ W, SH w8 gu gd j y tj W → Calls Try.prog 15 #[.pointer (some ⟨a, 0, none⟩), .int .u64 y] W fun e w' => e = .returned (.bool false) ∧ Below W.heap.size W w') := fun W hW => HIS.out W (HA8.out.later hW.1)
                    go_upto_region 21 with (fail)
                    refine wp_region_noPanic ?_
                    have K1 : Hid (SH w8 gu gd j y tj w8.drew) := Lib.hid (SH.later K0.out (Below.drew (Below.refl _ _)))
                    refine wp_region_held_drew (S := SH w8 gu gd j y tj) (by kernel_rfl) K1.out (fun hHeld => ?_)
                    refine wpAnyH_take (i := 0) (oi := { dst := some 96, op := Op.move (Operand.tmp 5), type := 22, pos := "outright.go:159", after := #[], guard := none }) (v := ?_) rfl (by kernel_rfl) (by kernel_rfl) (by kernel_rfl) (fun _ _ _ h => h) (Or.inl ⟨by rfl, ?_⟩) (by assumption) ?_
                    rotate_left
                    · intro W hSw
                      obtain ⟨k0, k1, k2⟩ := hSw
                      go_simp
                      try with_reducible rfl
                    simp only [Act.put, List.setIfInBounds_toArray, List.set_cons_zero, List.set_cons_succ]
                    refine wpAnyH_take (i := 1) (oi := { dst := some 97, op := Op.move (Operand.tmp 7), type := 48, pos := "outright.go:159", after := #[], guard := none }) (v := ?_) rfl (by kernel_rfl) (by kernel_rfl) (by kernel_rfl) (fun _ _ _ h => h) (Or.inl ⟨by rfl, ?_⟩) (by assumption) ?_
                    rotate_left
                    · intro W hSw
                      obtain ⟨k0, k1, k2⟩ := hSw
                      go_simp
                      try with_reducible rfl
                    simp only [Act.put, List.setIfInBounds_toArray, List.set_cons_zero, List.set_cons_succ]
                    refine wpAnyH_take (i := 2) (oi := { dst := some 98, op := Op.move (Operand.tmp 13), type := 3, pos := "outright.go:159", after := #[], guard := none }) (v := ?_) rfl (by kernel_rfl) (by kernel_rfl) (by kernel_rfl) (fun _ _ _ h => h) (Or.inl ⟨by rfl, ?_⟩) (by assumption) ?_
                    rotate_left
                    · intro W hSw
                      obtain ⟨k0, k1, k2⟩ := hSw
                      go_simp
                      try with_reducible rfl
                    simp only [Act.put, List.setIfInBounds_toArray, List.set_cons_zero, List.set_cons_succ]
                    refine wpAnyH_take (i := 3) (oi := { dst := some 99, op := Op.indexAddr 48 (Operand.tmp 97) (Operand.tmp 98), type := 0, pos := "outright.go:159", after := #[{ on := 1, ground := Ground.data }, { on := 2, ground := Ground.data }], guard := none }) (v := ?_) rfl (by kernel_rfl) (by kernel_rfl) (by kernel_rfl) (fun _ _ _ h => h) (Or.inl ⟨by rfl, ?_⟩) (by assumption) ?_
                    rotate_left
                    · intro W hSw
                      obtain ⟨k0, k1, k2⟩ := hSw
                      go_simp
                      try with_reducible rfl
                    simp only [Act.put, List.setIfInBounds_toArray, List.set_cons_zero, List.set_cons_succ]
                    refine wpAnyH_take (i := 4) (oi := { dst := some 100, op := Op.load 24 (Operand.tmp 99), type := 24, pos := "outright.go:159", after := #[{ on := 3, ground := Ground.data }], guard := none }) (v := ?_) rfl (by kernel_rfl) (by kernel_rfl) (by kernel_rfl) (fun _ _ _ h => h) (Or.inl ⟨by rfl, ?_⟩) (by assumption) ?_
                    rotate_left
                    · intro W hSw
                      obtain ⟨k0, k1, k2⟩ := hSw
                      go_simp
                      try with_reducible rfl
                    simp only [Act.put, List.setIfInBounds_toArray, List.set_cons_zero, List.set_cons_succ]
                    refine wpAnyH_ready (rs := [5]) (by kernel_rfl) (by simp) (AllReadyH.cons (o := { dst := some 101, op := Op.call { callee := Callee.value (Operand.func 15), args := #[Operand.tmp 96, Operand.tmp 100], argTypes := #[22, 24] }, type := 4, pos := "outright.go:159", after := #[{ on := 0, ground := Ground.data }, { on := 4, ground := Ground.data }], guard := none }) rfl (fun K hK => ?_) AllReadyH.nil)
                    refine step_callw (by rfl) 15 #[.pointer (some ⟨a, 0, none⟩), .int .u64 y] (by go_simp) ?_
                    refine (KI.out _ K1.out).mono ?_
                    rintro z w9 ⟨rfl, hb⟩
                    have K2 : Hid (SH w8 gu gd j y tj w9) := Lib.hid (SH.later K1.out hb)
                    refine ⟨_, rfl, hK.out _ _ K2.out (fun hHeld2 => ?_)⟩
                    clear hK K hHeld hb
                    simp only [Act.put, List.setIfInBounds_toArray, List.set_cons_zero, List.set_cons_succ]
                    refine wpAnyH_take (i := 6) (oi := { dst := some 102, op := Op.move (Operand.tmp 101), type := 4, pos := "outright.go:159", after := #[{ on := 5, ground := Ground.data }, { on := 5, ground := Ground.chain }], guard := none }) (v := ?_) rfl (by kernel_rfl) (by kernel_rfl) (by kernel_rfl) (fun _ _ _ h => h) (Or.inl ⟨by rfl, ?_⟩) (by assumption) ?_
                    rotate_left
                    · intro W hSw
                      obtain ⟨k0, k1, k2⟩ := hSw
                      go_simp
                      try with_reducible rfl
                    simp only [Act.put, List.setIfInBounds_toArray, List.set_cons_zero, List.set_cons_succ]
                    refine wpAnyH_take (i := 7) (oi := { dst := some 103, op := Op.move (Operand.tmp 5), type := 22, pos := "outright.go:159", after := #[{ on := 6, ground := Ground.guard }], guard := some (6, true) }) (v := undef) rfl (by kernel_rfl) (by kernel_rfl) (by kernel_rfl) (fun _ _ _ h => h) (Or.inr ⟨by rfl, rfl⟩) (by assumption) ?_
                    simp only [Act.put, List.setIfInBounds_toArray, List.set_cons_zero, List.set_cons_succ]
                    refine wpAnyH_take (i := 8) (oi := { dst := some 104, op := Op.move (Operand.tmp 7), type := 48, pos := "outright.go:159", after := #[{ on := 6, ground := Ground.guard }], guard := some (6, true) }) (v := undef) rfl (by kernel_rfl) (by kernel_rfl) (by kernel_rfl) (fun _ _ _ h => h) (Or.inr ⟨by rfl, rfl⟩) (by assumption) ?_
                    simp only [Act.put, List.setIfInBounds_toArray, List.set_cons_zero, List.set_cons_succ]
                    refine wpAnyH_take (i := 9) (oi := { dst := some 105, op := Op.move (Operand.tmp 13), type := 3, pos := "outright.go:159", after := #[{ on := 6, ground := Ground.guard }], guard := some (6, true) }) (v := undef) rfl (by kernel_rfl) (by kernel_rfl) (by kernel_rfl) (fun _ _ _ h => h) (Or.inr ⟨by rfl, rfl⟩) (by assumption) ?_
                    simp only [Act.put, List.setIfInBounds_toArray, List.set_cons_zero, List.set_cons_succ]
                    refine wpAnyH_take (i := 10) (oi := { dst := some 106, op := Op.indexAddr 48 (Operand.tmp 104) (Operand.tmp 105), type := 0, pos := "outright.go:159", after := #[{ on := 8, ground := Ground.data }, { on := 9, ground := Ground.data }, { on := 6, ground := Ground.guard }], guard := some (6, true) }) (v := undef) rfl (by kernel_rfl) (by kernel_rfl) (by kernel_rfl) (fun _ _ _ h => h) (Or.inr ⟨by rfl, rfl⟩) (by assumption) ?_
                    simp only [Act.put, List.setIfInBounds_toArray, List.set_cons_zero, List.set_cons_succ]
                    refine wpAnyH_take (i := 11) (oi := { dst := some 107, op := Op.load 24 (Operand.tmp 106), type := 24, pos := "outright.go:159", after := #[{ on := 10, ground := Ground.data }, { on := 6, ground := Ground.guard }], guard := some (6, true) }) (v := undef) rfl (by kernel_rfl) (by kernel_rfl) (by kernel_rfl) (fun _ _ _ h => h) (Or.inr ⟨by rfl, rfl⟩) (by assumption) ?_
                    simp only [Act.put, List.setIfInBounds_toArray, List.set_cons_zero, List.set_cons_succ]
                    refine wpAnyH_take (i := 12) (oi := { dst := some 108, op := Op.move (Operand.tmp 8), type := 61, pos := "outright.go:159", after := #[{ on := 6, ground := Ground.guard }], guard := some (6, true) }) (v := undef) rfl (by kernel_rfl) (by kernel_rfl) (by kernel_rfl) (fun _ _ _ h => h) (Or.inr ⟨by rfl, rfl⟩) (by assumption) ?_
                    simp only [Act.put, List.setIfInBounds_toArray, List.set_cons_zero, List.set_cons_succ]
                    refine wpAnyH_take (i := 13) (oi := { dst := some 109, op := Op.move (Operand.tmp 13), type := 3, pos := "outright.go:159", after := #[{ on := 6, ground := Ground.guard }], guard := some (6, true) }) (v := undef) rfl (by kernel_rfl) (by kernel_rfl) (by kernel_rfl) (fun _ _ _ h => h) (Or.inr ⟨by rfl, rfl⟩) (by assumption) ?_
                    simp only [Act.put, List.setIfInBounds_toArray, List.set_cons_zero, List.set_cons_succ]
                    refine wpAnyH_take (i := 14) (oi := { dst := some 110, op := Op.indexAddr 61 (Operand.tmp 108) (Operand.tmp 109), type := 0, pos := "outright.go:159", after := #[{ on := 12, ground := Ground.data }, { on := 13, ground := Ground.data }, { on := 6, ground := Ground.guard }], guard := some (6, true) }) (v := undef) rfl (by kernel_rfl) (by kernel_rfl) (by kernel_rfl) (fun _ _ _ h => h) (Or.inr ⟨by rfl, rfl⟩) (by assumption) ?_
                    simp only [Act.put, List.setIfInBounds_toArray, List.set_cons_zero, List.set_cons_succ]
                    refine wpAnyH_take (i := 15) (oi := { dst := some 111, op := Op.load 9 (Operand.tmp 110), type := 9, pos := "outright.go:159", after := #[{ on := 14, ground := Ground.data }, { on := 6, ground := Ground.guard }], guard := some (6, true) }) (v := undef) rfl (by kernel_rfl) (by kernel_rfl) (by kernel_rfl) (fun _ _ _ h => h) (Or.inr ⟨by rfl, rfl⟩) (by assumption) ?_
                    simp only [Act.put, List.setIfInBounds_toArray, List.set_cons_zero, List.set_cons_succ]
                    refine wpAnyH_take (i := 16) (oi := { dst := some 112, op := Op.call { callee := Callee.value (Operand.func 21), args := #[Operand.tmp 103, Operand.tmp 107, Operand.tmp 111], argTypes := #[22, 24, 9] }, type := 4, pos := "outright.go:159", after := #[{ on := 7, ground := Ground.data }, { on := 11, ground := Ground.data }, { on := 15, ground := Ground.data }, { on := 6, ground := Ground.chain }, { on := 6, ground := Ground.guard }], guard := some (6, true) }) (v := undef) rfl (by kernel_rfl) (by kernel_rfl) (by kernel_rfl) (fun _ _ _ h => h) (Or.inr ⟨by rfl, rfl⟩) (by assumption) ?_
                    simp only [Act.put, List.setIfInBounds_toArray, List.set_cons_zero, List.set_cons_succ]
                    refine wpAnyH_take (i := 17) (oi := { dst := some 113, op := Op.unOp UnOp.not 4 (Operand.tmp 112), type := 4, pos := "outright.go:159", after := #[{ on := 16, ground := Ground.data }, { on := 6, ground := Ground.guard }], guard := some (6, true) }) (v := undef) rfl (by kernel_rfl) (by kernel_rfl) (by kernel_rfl) (fun _ _ _ h => h) (Or.inr ⟨by rfl, rfl⟩) (by assumption) ?_
                    simp only [Act.put, List.setIfInBounds_toArray, List.set_cons_zero, List.set_cons_succ]
                    refine wpAnyH_take (i := 18) (oi := { dst := some 114, op := Op.pick (Operand.tmp 102) (Operand.tmp 113) (Operand.const (Value.bool false)), type := 4, pos := "outright.go:159", after := #[{ on := 6, ground := Ground.data }, { on := 17, ground := Ground.data }], guard := none }) (v := ?_) rfl (by kernel_rfl) (by kernel_rfl) (by kernel_rfl) (fun _ _ _ h => h) (Or.inl ⟨by rfl, ?_⟩) (by assumption) ?_
                    rotate_left
                    · intro W hSw
                      obtain ⟨k0, k1, k2⟩ := hSw
                      go_simp
                      try with_reducible rfl
                    simp only [Act.put, List.setIfInBounds_toArray, List.set_cons_zero, List.set_cons_succ]
                    refine wpAnyH_done (by kernel_rfl) (NoPanic.normal ?_) _
                    clear hHeld2
                    have hS9 : SH w8 gu gd j y tj w9 := K2.out
                    rename SH _ _ _ _ _ _ _ => hS
                    have HZ := Lib.hid hS.1
                    clear hS
                    obtain ⟨k1, k2, x0⟩ := KW.out _ HZ.out
                    go_wp2_with fail
                    refine (HIS.out _ (HA8.out.later HZ.out)).mono ?_
                    rintro e w10 ⟨rfl, hb⟩
                    replace HZ := Lib.hid (stepB HZ.out hb)
                    clear hb k1 k2 x0
                    obtain ⟨k1, k2, x0⟩ := KW.out _ HZ.out
                    by_cases c0 : kd = 0
                    · have b0 : (kd == 0) = true := by rw [c0]; rfl
                      clear c0
                      go_wp2
                      all_goals (
                        go_roundw
                        case rel =>
                          obtain ⟨j', H3, e1, e2, e3, e4⟩ := HEND.out _ HZ.out
                          exact ⟨j', H3, e1, by first | rw [← e2] | (rw [← e2]; go_num), e4⟩
                        case measure => simp [intOf]; omega)
                    · have b0 : (kd == 0) = false := by rw [beq_eq_false_iff_ne]; exact c0
                      clear c0
                      go_wp2_with fail
                      refine (HIS.out _ (HA8.out.later HZ.out)).mono ?_
                      rintro e w11 ⟨rfl, hb⟩
                      replace HZ := Lib.hid (stepB HZ.out hb)
                      clear hb k1 k2 x0
                      obtain ⟨k1, k2, x0⟩ := KW.out _ HZ.out
                      go_wp2
                      all_goals (
                        go_roundw
                        case rel =>
                          obtain ⟨j', H3, e1, e2, e3, e4⟩ := HEND.out _ HZ.out
                          exact ⟨j', H3, e1, by first | rw [← e2] | (rw [← e2]; go_num), e4⟩
                        case measure => simp [intOf]; omega)
              · obtain rfl : j = U2.length := by omega
                have d2 : decide ((U2.length : Int) < (U2.length : Int)) = false := decide_eq_false (by omega)
                have HDE : Hid (H2.length = H3.length ∧ H3.length = U2.length) := ⟨HDL3.out.symm, HDL3.out.trans HLE.out⟩
                rw [HDE.out.1] at HD7
                go_wp2
                go_roundw
                case rel =>
                  refine ⟨k + 1, st', S2, U2, H3, _, _, by omega, by go_num, rfl, by rw [HDE.out.1], HA7.out, HTI.out, HUL2.out, HO7.out, HD7.out, HDE.out.2, fun j hj hi => ?_, HB7.out⟩
                  rw [HQ1.out j hj]
                  exact HHAS.out j hj hi
                case measure => simp [intOf]; omega
        · obtain rfl : k = n := by omega
          have d1 : decide ((k : Int) < (k : Int)) = false := decide_eq_false (by omega)
          go_wp2
          go_ret
          exact ⟨rfl, HB.out⟩


set_option maxRecDepth 100000 in
theorem lifted (os : Os) (started : os.Started) (H : Type) (enc : TypeId × Value → H) :
    ReturnsInHanded {} Try.checked os 6 .any (Rows.arenaApartSpec.pre6 enc Try.prog Try.f6 Rows.arenaApartRow.domain false) (Rows.arenaApartSpec.post enc Try.prog Try.f6 false true false false) := by
  refine returnsInHanded_of_change_sized (C := Try.checked) own started (by kernel_rfl) Try.func6
    (ChangeSpec.witness6 (enc := enc) (C := Try.checked) false ⟨#[], #[.int .i64 0, .slice none 0 0], []⟩ 8 (by kernel_rfl) (by kernel_rfl) (by kernel_rfl) (by kernel_rfl)) ?_
  intro W base args ds gs before hval0 hW _ hsz _
  have hval : ∀ (j : Nat) t v, Try.f6.params[j]? = some t → args[j]? = some v → Value.okWide Try.prog W .any base t v := hval0
  have hW' := hW
  obtain ⟨p, q, hA0, hV, hbef, _, _⟩ := hW
  have hA : DataW.TrodAll enc Try.prog W 0 (fun _ => true) true Try.f6.params.toList args.toList ds p := hA0
  rw [Try.params6] at hA hval
  obtain ⟨v0, vs0, d0, ds0, p0, q0, hargs, rfl, rfl, h0, r0⟩ := trodAll_cons hA
  obtain ⟨v1, vs1, d1, ds1, p1, q1, rfl, rfl, rfl, h1, r1⟩ := trodAll_cons r0
  obtain ⟨rfl, rfl, rfl⟩ := trodAll_nil r1
  obtain rfl : args = #[v0, v1] := by cases args; simp_all
  obtain ⟨rfl, rfl⟩ := trodVars_none hV
  obtain ⟨a0, rfl, _, _, w0⟩ := open_int Try.underlying3 (hval 0 3 v0 rfl rfl) h0
  obtain ⟨A1, n1, c1, S1, rfl, st1, mx1, _, _⟩ := open_steps (hval 1 43 v1 rfl rfl) h1
  refine (walk a0 A1 n1 c1 S1 W st1 mx1).mono fun e W' ⟨he, hb⟩ => ?_
  subst he
  exact ⟨_, rfl, law_post laidOut (of_decide_eq_true (by kernel_rfl)) rfl Try.underlying4 rfl rfl hW' hb⟩

theorem over : Rows.arenaApartRow.holds Try.pinned (OpenSpec.ofChange Rows.arenaApartSpec) :=
  OpenClaim.holds_of_wide 6 Try.f6 rfl rfl rfl rfl rfl rfl rfl ⟨rfl, rfl, rfl, rfl, rfl⟩ rfl rfl rfl rfl rfl (by kernel_rfl) Try.func6 (by kernel_rfl)
    (of_decide_eq_true (by kernel_rfl)) (by unfold Func.isWrapper; first | (rw [if_pos (by decide +kernel)]; kernel_rfl) | (rw [if_neg (by decide +kernel)]; exact ⟨rfl, rfl⟩))
    (fun os started H enc _ => lifted os started H enc)

end Go.Proofs.Ytbnbhhmgfogjeaa.arenaApart
namespace Go.Proofs.Ytbnbhhmgfogjeaa
theorem arenaApart_holds : Rows.ArenaApartSaid := arenaApart.over
end Go.Proofs.Ytbnbhhmgfogjeaa
