/-
What is done to a copy is not seen; done to both the same comes of both. For any config, any steps ahead, any behind.
-/
import Derived.Test.YtbncpfkoeahhpaaDA
import Derived.Test.YtbncpfkoeahhpaaOA
import Derived.Test.YtbncpfkoeahhpaaRows
import Derived.Test.YtbncpfkoeahhpaaLF
namespace Go.Proofs.Ytbncpfkoeahhpaa.chainCopies
open Go.ChangeShapes Go.WideShapes Go.ChangeAt Go.RowKit Go.Maps
set_option linter.unusedVariables false
set_option linter.unusedSimpArgs false

theorem own : ownKnob Try.prog.godebug = none := by kernel_rfl
theorem laidOut : laidOutB Try.prog = true := by kernel_rfl

theorem idx62 (g off m c k : Nat) (i : Int) (hi : i = (k : Int)) (h : k < m) (W : World) : (Instr.indexAt 62 (.slice (some ⟨g, off, none⟩) m c) (.int .i64 i)).run Try.prog W = .ok (.pointer (some ⟨g, off + k * 5, none⟩)) W := by
  subst hi
  have h1 : (0 : Int) ≤ (k : Int) ∧ (k : Int) < (m : Int) := by omega
  go_simp
theorem idx63 (g m c k : Nat) (i : Int) (hi : i = (k : Int)) (h : k < m) (W : World) : (Instr.indexAt 63 (.slice (some ⟨g, 0, none⟩) m c) (.int .i64 i)).run Try.prog W = .ok (.pointer (some ⟨g, k, none⟩)) W := by
  subst hi
  have h1 : (0 : Int) ≤ (k : Int) ∧ (k : Int) < (m : Int) := by omega
  go_simp
theorem err0 {W : World} {B n : Nat} {vU : Value} {us : List Int} (h : Ow ev_ W B 25 vU n us) (hn : 0 < n) : ∃ g c, vU = .slice (some ⟨g, 0, none⟩) n c := by
  obtain ⟨h1, hc⟩ := h
  rcases hc with ⟨rfl, rfl⟩ | ⟨g, cap, cur, rfl, _⟩
  · omega
  · exact ⟨g, cap, rfl⟩
theorem err_at {W : World} {B g c n : Nat} {us : List Int} (h : Ow ev_ W B 25 (.slice (some ⟨g, 0, none⟩) n c) n us) {j : Nat} {x : Int} (hj : us[j]? = some x) : W.cell? ⟨g, j, none⟩ = some (.int .i64 x) := by
  obtain ⟨A5, c5, e5, hsl⟩ := Ow.sl h
  cases e5
  have hl := (List.getElem?_eq_some_iff.1 hj).1
  obtain ⟨g2, o, e2, _, hc⟩ := hsl.rd.2 (by have := hsl.rd.1; omega)
  cases e2
  have := hc j _ hj
  rw [Nat.zero_add] at this
  exact this
theorem nd_at {W : World} {A : Option Addr} {n k : Nat} {L : List Nd} (h : RSl ndc 5 W A n L) {x : Nd} (hx : L[k]? = some x) : ∃ g off, A = some ⟨g, off, none⟩ ∧ W.cell? ⟨g, off + k * 5, none⟩ = some (.int .i64 x.1.1) ∧ W.cell? ⟨g, off + k * 5 + 1, none⟩ = some (.int .i64 x.1.2.1) ∧ W.cell? ⟨g, off + k * 5 + 2, none⟩ = some (.bool x.1.2.2.1) ∧ W.cell? ⟨g, off + k * 5 + 3, none⟩ = some (.string x.1.2.2.2) ∧ W.cell? ⟨g, off + k * 5 + 4, none⟩ = some (.int .u64 x.2) := by
  have hl := (List.getElem?_eq_some_iff.1 hx).1
  obtain ⟨g, off, hA, hg, hc⟩ := h.2 (by have := h.1; omega)
  exact ⟨g, off, hA, hc k _ hx 0 (by decide), hc k _ hx 1 (by decide), hc k _ hx 2 (by decide), hc k _ hx 3 (by decide), hc k _ hx 4 (by decide)⟩
set_option maxRecDepth 100000 in
set_option maxHeartbeats 16000000 in
theorem walk (cf : Conf) (A : Option Addr) (n c : Nat) (L1 : List Sq) (A2 : Option Addr) (n2 c2 : Nat) (L2 : List Sq) (w : World) (hS : RSl sqc 9 w A n L1) (hz : ∀ v ∈ L1, SqOk v) (hn : n ≤ maxLen) (hS2 : RSl sqc 9 w A2 n2 L2) (hz2 : ∀ v ∈ L2, SqOk v) (hn2 : n2 ≤ maxLen) : Calls Try.prog 7 #[.agg #[.int .i64 cf.ta, .int .i64 cf.ac, .int .i64 cf.ke, .int .i64 cf.de, .int .i64 cf.ts, .int .i64 cf.kl, .int .i64 cf.vl, .int .i64 cf.fa], .slice A n c, .slice A2 n2 c2] w (fun e w' => e = .returned (.bool true) ∧ Below w.heap.size w w') := by
  have HS1 : Hid (∀ W, Below w.heap.size w W → RSl sqc 9 W A n L1) := fun W hb => hS.later hb
  have HS2 : Hid (∀ W, Below w.heap.size w W → RSl sqc 9 W A2 n2 L2) := fun W hb => hS2.later hb
  have L1ok : Hid (∀ v ∈ L1, SqOk v) := hz
  have L2ok : Hid (∀ v ∈ L2, SqOk v) := hz2
  have HN := Lib.hid hn
  have HN2 := Lib.hid hn2
  clear hS hz hS2 hz2 hn hn2
  go_enter Try.func7, Try.ntmps7
  go_upto_region 1 with (fail)
  have HB0 : Hid (Below w.heap.size w (w.alloc (.cells #[.int .i64 cf.ta, .int .i64 cf.ac, .int .i64 cf.ke, .int .i64 cf.de, .int .i64 cf.ts, .int .i64 cf.kl, .int .i64 cf.vl, .int .i64 cf.fa] 43))) := ((Below.refl _ _).alloc (Nat.le_refl _) _)
  have HC : Hid (Blk (w.alloc (.cells #[.int .i64 cf.ta, .int .i64 cf.ac, .int .i64 cf.ke, .int .i64 cf.de, .int .i64 cf.ts, .int .i64 cf.kl, .int .i64 cf.vl, .int .i64 cf.fa] 43)) w.heap.size #[.int .i64 cf.ta, .int .i64 cf.ac, .int .i64 cf.ke, .int .i64 cf.de, .int .i64 cf.ts, .int .i64 cf.kl, .int .i64 cf.vl, .int .i64 cf.fa] 43) := (Blk.new w _ _)
  generalize w.alloc (.cells #[.int .i64 cf.ta, .int .i64 cf.ac, .int .i64 cf.ke, .int .i64 cf.de, .int .i64 cf.ts, .int .i64 cf.kl, .int .i64 cf.vl, .int .i64 cf.fa] 43) = w0 at *
  obtain ⟨pc, hpc⟩ : ∃ p, w.heap.size = p := ⟨_, rfl⟩
  rw [hpc] at HC ⊢
  clear hpc
  go_wp2_with fail
  refine (long_any A n c L1 _ (HS1.out _ HB0.out) HN.out).mono ?_
  rintro e w1 ⟨r, rfl, hb⟩
  have HB1 := Lib.hid (stepB HB0.out hb)
  replace HC := Lib.hid (HC.out.later hb)
  clear hb HB0
  cases r with
  | true =>
    go_wp2_with fail
    refine (awake_any _).mono ?_
    rintro e wz2 ⟨rfl, hb⟩
    have HBz := Lib.hid (stepB HB1.out hb)
    clear hb
    go_wp2
    go_ret
    exact ⟨rfl, HBz.out⟩
  | false =>
    go_wp2_with fail
    refine (long_any A2 n2 c2 L2 _ (HS2.out _ HB1.out) HN2.out).mono ?_
    rintro e w2 ⟨r, rfl, hb⟩
    have HB2 := Lib.hid (stepB HB1.out hb)
    replace HC := Lib.hid (HC.out.later hb)
    clear hb HB1
    cases r with
    | true =>
      go_wp2_with fail
      refine (awake_any _).mono ?_
      rintro e wz3 ⟨rfl, hb⟩
      have HBz := Lib.hid (stepB HB2.out hb)
      clear hb
      go_wp2
      go_ret
      exact ⟨rfl, HBz.out⟩
    | false =>
      by_cases h6 : 60 < n
      · have d6 : decide ((60 : Int) < (n : Int)) = true := decide_eq_true (by omega)
        clear h6
        go_wp2_with fail
        refine (awake_any _).mono ?_
        rintro e wz4 ⟨rfl, hb⟩
        have HBz := Lib.hid (stepB HB2.out hb)
        clear hb
        go_wp2
        go_ret
        exact ⟨rfl, HBz.out⟩
      · have d6 : decide ((60 : Int) < (n : Int)) = false := decide_eq_false (by omega)
        by_cases h3 : 30 < n2
        · have d3 : decide ((30 : Int) < (n2 : Int)) = true := decide_eq_true (by omega)
          clear h3
          go_wp2_with fail
          refine (awake_any _).mono ?_
          rintro e wz5 ⟨rfl, hb⟩
          have HBz := Lib.hid (stepB HB2.out hb)
          clear hb
          go_wp2
          go_ret
          exact ⟨rfl, HBz.out⟩
        · have d3 : decide ((30 : Int) < (n2 : Int)) = false := decide_eq_false (by omega)
          go_wp2_with fail
          refine (awake_any _).mono ?_
          rintro e w3 ⟨rfl, hb⟩
          have HB3 := Lib.hid (stepB HB2.out hb)
          replace HC := Lib.hid (HC.out.later hb)
          clear hb HB2
          have c0 := HC.out.cell 0
          have c1 := HC.out.cell 1
          have c2 := HC.out.cell 2
          have c3 := HC.out.cell 3
          have c4 := HC.out.cell 4
          have c5 := HC.out.cell 5
          have c6 := HC.out.cell 6
          have c7 := HC.out.cell 7
          simp only [List.getElem?_toArray, List.getElem?_cons_zero, List.getElem?_cons_succ] at c0 c1 c2 c3 c4 c5 c6 c7
          cases hm : mayB cf with
          | false =>
            go_wp2_with fail
            refine (show Calls Try.prog 19 #[.agg #[.int .i64 cf.ta, .int .i64 cf.ac, .int .i64 cf.ke, .int .i64 cf.de, .int .i64 cf.ts, .int .i64 cf.kl, .int .i64 cf.vl, .int .i64 cf.fa]] w3 _ from chnew_no cf w3 hm).mono ?_
            rintro e w4 ⟨rfl, hb⟩
            have HB4 := Lib.hid (stepB HB3.out hb)
            clear hb
            go_wp2
            go_ret
            exact ⟨rfl, HB4.out⟩
          | true =>
            have h0 : 0 ≤ cf.vl := by
              have h1 := hm
              unfold mayB at h1
              rw [List.all_eq_true] at h1
              have h2 := h1 6 (by simp)
              rw [decide_eq_true_eq] at h2
              exact h2.1
            obtain ⟨m, hmm⟩ : ∃ m : Nat, cf.vl = (m : Int) := ⟨cf.vl.toNat, by omega⟩
            have HNW := Lib.hid (xnew cf m w3 hm hmm (fun _ => nd0))
            clear hm h0 hmm
            go_wp2_with fail
            refine (show Calls Try.prog 19 #[.agg #[.int .i64 cf.ta, .int .i64 cf.ac, .int .i64 cf.ke, .int .i64 cf.de, .int .i64 cf.ts, .int .i64 cf.kl, .int .i64 cf.vl, .int .i64 cf.fa]] w3 _ from HNW.out).mono ?_
            rintro e w4 ⟨q, a, S0, rfl, hx, hb⟩
            have HQ4 : Hid (CQ_ w4 w.heap.size q cf a m S0 ([], (0, [], []), fun _ => nd0)) := ⟨hx.base HB3.out.size, fun x h => by cases h⟩
            have HB4 := Lib.hid (stepB HB3.out hb)
            clear hx hb HNW HB3 HC c0 c1 c2 c3 c4 c5 c6 c7 d6 d3
            go_wp2
            go_loopw [9, 10] (fun tv ix W => ∃ (k : Nat) (ZX : QS) (S : Nat → Prop), k ≤ n ∧ ix = .int .i64 k ∧ CQ_ W w.heap.size q cf a m S ZX ∧ Ow hv W w.heap.size 24 tv ZX.1.length ZX.1 ∧ ZX.1.length ≤ k ∧ Below w.heap.size w W) (fun _ ix _ => n - (intOf ix).toNat)
            case atStart => exact ⟨0, _, S0, Nat.zero_le _, rfl, HQ4.out, Ow.none _ _ _, Nat.le_refl _, HB4.out⟩
            case round =>
              obtain ⟨k, ZX, S, hk, rfl, hq, ho, hl, hb⟩ := hrel
              clear HQ4 HB4
              have HQ := Lib.hid hq
              have HO := Lib.hid ho
              have HB := Lib.hid hb
              clear hq ho hb
              by_cases hlt : k < n
              · have d2 : decide ((k : Int) < (n : Int)) = true := decide_eq_true (by omega)
                have w3_ : IntKind.i64.wrap ((k : Int) + 1) = (k : Int) + 1 := IntWalk.i64_in _ (by omega)
                obtain ⟨AV, cV, hv1, _⟩ := Ow.sl HO.out
                subst hv1
                obtain ⟨g, off, rfl, hmem, hc⟩ := sq_at (HS1.out _ HB.out) hlt
                have i57 := index57 g off n c k (k : Int) rfl hlt
                obtain ⟨s, hs⟩ : ∃ s, L1.getD k sq0 = s := ⟨_, rfl⟩
                rw [hs] at hmem hc
                have HSE := Lib.hid hs
                have HOK := Lib.hid (L1ok.out s hmem)
                clear hmem hs
                have x0 := hc 0 _ rfl
                have x1 := hc 1 _ rfl
                have x2 := hc 2 _ rfl
                have x3 := hc 3 _ rfl
                have x4 := hc 4 _ rfl
                have x5 := hc 5 _ rfl
                have x6 := hc 6 _ rfl
                have x7 := hc 7 _ rfl
                have x8 := hc 8 _ rfl
                clear hc
                have HDO := Lib.hid (do_any s w.heap.size q cf a m S ZX w.heap.size _ wr HQ.out HOK.out HO.out (by omega))
                obtain ⟨sk, sh, sn, sy, ⟨sv0, sv1, sv2, sv3⟩, sts⟩ := s
                simp only [Nat.add_zero] at x0 x1 x2 x3 x4 x5 x6 x7 x8
                obtain ⟨hh, hhe⟩ : ∃ hh, (doQ m (sk, sh, sn, sy, (sv0, sv1, sv2, sv3), sts) ZX).1.1 = hh := ⟨_, rfl⟩
                obtain ⟨er, here⟩ : ∃ er, (doQ m (sk, sh, sn, sy, (sv0, sv1, sv2, sv3), sts) ZX).1.2 = er := ⟨_, rfl⟩
                have HZT : Hid ((stQ m (sk, sh, sn, sy, (sv0, sv1, sv2, sv3), sts) ZX).1 = tT ZX.1 hh) := by show _ = _; rw [← hhe]; rfl
                rw [hhe, here] at HDO
                have HER := Lib.hid here
                clear hhe here
                go_wp2_with fail
                refine HDO.out.mono ?_
                rintro e w5 ⟨rfl, S5, hq5, hs5, hf5⟩
                have HQ5 := Lib.hid hq5
                have HO5 := Lib.hid (HQ.out.1.cr.ar.ow hf5 HO.out (by decide))
                have HB5 : Hid (Below w.heap.size w w5) := HQ.out.1.cr.ar.frBelow hf5 HB.out (Nat.le_refl _) HB.out.size
                clear hq5 hs5 hf5 HDO HQ HO HB x0 x1 x2 x3 x4 x5 x6 x7 x8 i57
                by_cases h0 : hh = 0
                · have e0 : (hh != 0) = false := by rw [h0]; rfl
                  have HZ2 : Hid ((stQ m (sk, sh, sn, sy, (sv0, sv1, sv2, sv3), sts) ZX).1 = ZX.1) := by show _ = _; rw [HZT.out, h0]; exact st_nil
                  clear h0
                  go_wp2
                  go_roundw
                  case rel => exact ⟨k + 1, _, S5, by omega, by go_num, HQ5.out, by rw [HZ2.out]; exact HO5.out, by rw [HZ2.out]; omega, HB5.out⟩
                  case measure => simp [intOf]; omega
                · have e0 : (hh != 0) = true := by rw [bne_iff_ne]; exact h0
                  have HZ2 : Hid ((stQ m (sk, sh, sn, sy, (sv0, sv1, sv2, sv3), sts) ZX).1 = ZX.1 ++ [hh]) := by show _ = _; rw [HZT.out]; unfold tT; rw [if_neg h0]
                  clear h0
                  have hbx : Below w5.heap.size w5 (w5.alloc (.cells #[.int .u64 hh] 24)) := (Below.refl _ _).alloc (Nat.le_refl _) _
                  have HY6 : Hid (Sl hv (w5.alloc (.cells #[.int .u64 hh] 24)) (some ⟨w5.heap.size, 0, none⟩) 1 1 [hh]) := Blk.sl (enc := hv) (xs := [hh]) (Blk.new w5 #[.int .u64 hh] 24)
                  have HQ6 : Hid (CQ_ (w5.alloc (.cells #[.int .u64 hh] 24)) w.heap.size q cf a m S5 (stQ m (sk, sh, sn, sy, (sv0, sv1, sv2, sv3), sts) ZX)) := ⟨HQ5.out.1.later hbx, HQ5.out.2⟩
                  have HO6 := Lib.hid (HO5.out.later hbx)
                  have HB6 := Lib.hid (stepB HB5.out hbx)
                  clear hbx
                  go_wp2_with (first
                    | (at_builtin; refine wpList_append_sl elemH rfl (.tmp 81) (.tmp 83) rfl w.heap.size (.slice AV ZX.1.length cV) ZX.1.length ZX.1 rfl HO6.out (some ⟨w5.heap.size, 0, none⟩) 1 1 [hh] rfl HY6.out (by omega) (by decide) HB6.out.size ?_; intro vn7 w7 ho7)
                    | fail)
                  intro hg7
                  have HQ7 : Hid (CQ_ w7 w.heap.size q cf a m S5 (stQ m (sk, sh, sn, sy, (sv0, sv1, sv2, sv3), sts) ZX)) := ⟨HQ6.out.1.grown HO6.out (by decide) (by decide) hg7, HQ6.out.2⟩
                  have HB7 := Lib.hid (ow_below HO6.out HB6.out HB6.out.size hg7)
                  have HO7 := Lib.hid ho7
                  clear ho7 hg7 HY6 HQ6 HO6 HB6 HQ5 HO5 HB5
                  go_wp2
                  go_roundw
                  case rel => exact ⟨k + 1, _, S5, by omega, by go_num, HQ7.out, by rw [HZ2.out, List.length_append]; exact HO7.out, by rw [HZ2.out, List.length_append]; show _ + 1 ≤ _; omega, HB7.out⟩
                  case measure => simp [intOf]; omega
              · obtain rfl : k = n := by omega
                have d2 : decide ((k : Int) < (k : Int)) = false := decide_eq_false (by omega)
                obtain ⟨AT, cT, hv1, _⟩ := Ow.sl HO.out
                subst hv1
                clear d2
                obtain ⟨nT, hnT⟩ : ∃ nT, ZX.1.length = nT := ⟨_, rfl⟩
                have HNT := Lib.hid hnT
                rw [hnT] at HO hl ⊢
                have HTR := Lib.hid HQ.out.2
                clear hnT
                go_wp2
                go_loopw [13, 14] (fun wv ix W => ∃ j : Nat, j ≤ nT ∧ ix = .int .i64 j ∧ CQ_ W w.heap.size q cf a m S ZX ∧ Ow hv W w.heap.size 24 (.slice AT nT cT) nT ZX.1 ∧ ROwn ndc 5 W w.heap.size 31 wv j ((ZX.1.take j).map (rdN ZX)) ∧ Below w.heap.size w W) (fun _ ix _ => nT - (intOf ix).toNat)
                case atStart => exact ⟨0, Nat.zero_le _, rfl, HQ.out, HO.out, ROwn.nil0 _ _ _, HB.out⟩
                case round =>
                  obtain ⟨j, hj, rfl, hq, ho, hr, hb⟩ := hrel
                  clear HQ HO HB
                  have HQ := Lib.hid hq
                  have HO := Lib.hid ho
                  have HR := Lib.hid hr
                  have HB := Lib.hid hb
                  clear hq ho hr hb
                  obtain ⟨AW, cW, hv1, _⟩ := HR.out.sl
                  subst hv1
                  by_cases hlt : j < nT
                  · have d2 : decide ((j : Int) < (nT : Int)) = true := decide_eq_true (by omega)
                    have wj : IntKind.i64.wrap ((j : Int) + 1) = (j : Int) + 1 := IntWalk.i64_in _ (by omega)
                    obtain ⟨gU, cV, e9⟩ := own0 HO.out (by omega)
                    cases e9
                    have i1 := idx48 gU nT cT j (j : Int) rfl hlt
                    have x1 := own_at HO.out hlt
                    have hlu : j < ZX.1.length := by rw [HNT.out]; exact hlt
                    have hxr := (HTR.out _ (getD_in hlu)).1
                    have hxs : ZX.1[j]? = some (ZX.1.getD j 0) := by rw [List.getD_eq_getElem?_getD, List.getElem?_eq_getElem hlu]; rfl
                    obtain ⟨X, hX⟩ : ∃ X, ZX.1.getD j 0 = X := ⟨_, rfl⟩
                    rw [hX] at x1 hxr hxs
                    obtain ⟨Nn, hNn⟩ : ∃ Nn, rdN ZX X = Nn := ⟨_, rfl⟩
                    have HTK : Hid ((ZX.1.take (j + 1)).map (rdN ZX) = (ZX.1.take j).map (rdN ZX) ++ [Nn]) := by
                      show _ = _
                      rw [List.take_add_one, hxs, List.map_append, ← hNn]; rfl
                    have HRD := Lib.hid (read_q HQ.out.1 hxr hNn)
                    obtain ⟨⟨nw, nt, nb, ns⟩, nx⟩ := Nn
                    obtain ⟨isx, hisx⟩ : ∃ b, isA ZX.2.1 X = b := ⟨_, rfl⟩
                    rw [hisx] at HRD
                    clear hX hNn hxr hxs hlu hisx
                    go_wp2_with fail
                    refine HRD.out.mono ?_
                    rintro e w5 ⟨rfl, hb⟩
                    simp only
                    have hby : Below w5.heap.size w5 (w5.alloc (.cells #[.int .i64 nw, .int .i64 nt, .bool nb, .string ns, .int .u64 nx] 31)) := (Below.refl _ _).alloc (Nat.le_refl _) _
                    have HB6 := Lib.hid (stepB (stepB HB.out hb |> Lib.hid).out hby)
                    have HQ6 : Hid (CQ_ (w5.alloc (.cells #[.int .i64 nw, .int .i64 nt, .bool nb, .string ns, .int .u64 nx] 31)) w.heap.size q cf a m S ZX) := ⟨(HQ.out.1.later hb).later hby, HTR.out⟩
                    have HO6 := Lib.hid ((HO.out.later hb).later hby)
                    have HR6 := Lib.hid ((HR.out.later hb).later hby)
                    have HN6 : Hid (Blk (w5.alloc (.cells #[.int .i64 nw, .int .i64 nt, .bool nb, .string ns, .int .u64 nx] 31)) w5.heap.size #[.int .i64 nw, .int .i64 nt, .bool nb, .string ns, .int .u64 nx] 31) := Blk.new _ _ _
                    clear hb hby HRD HQ HO HR HB x1
                    go_upto_region 18 with (fail)
                    generalize w5.alloc (.cells #[.int .i64 nw, .int .i64 nt, .bool nb, .string ns, .int .u64 nx] 31) = w6 at *
                    obtain ⟨pn, hpn⟩ : ∃ p, w5.heap.size = p := ⟨_, rfl⟩
                    rw [hpn] at HN6 ⊢
                    clear hpn
                    have b0 := HN6.out.cell 0
                    have b1 := HN6.out.cell 1
                    have b2 := HN6.out.cell 2
                    have b3 := HN6.out.cell 3
                    have b4 := HN6.out.cell 4
                    simp only [List.getElem?_toArray, List.getElem?_cons_zero, List.getElem?_cons_succ] at b0 b1 b2 b3 b4
                    have hby : Below w6.heap.size w6 (w6.alloc (.cells #[.int .i64 nw, .int .i64 nt, .bool nb, .string ns, .int .u64 nx] 31)) := (Below.refl _ _).alloc (Nat.le_refl _) _
                    have HX7 : Hid (RSl ndc 5 (w6.alloc (.cells #[.int .i64 nw, .int .i64 nt, .bool nb, .string ns, .int .u64 nx] 31)) (some ⟨w6.heap.size, 0, none⟩) 1 [((nw, nt, nb, ns), nx)]) := Blk.rsl (x := (((nw, nt, nb, ns), nx) : Nd)) (Blk.new w6 _ 31)
                    have HB7 := Lib.hid (stepB HB6.out hby)
                    have HQ7 : Hid (CQ_ (w6.alloc (.cells #[.int .i64 nw, .int .i64 nt, .bool nb, .string ns, .int .u64 nx] 31)) w.heap.size q cf a m S ZX) := ⟨HQ6.out.1.later hby, HTR.out⟩
                    have HO7 := Lib.hid (HO6.out.later hby)
                    have HR7 := Lib.hid (HR6.out.later hby)
                    clear hby HB6 HQ6 HO6 HR6
                    go_wp2_with (first
                      | (at_builtin; refine append_row1 elemN rfl (.tmp 100) (.tmp 102) rfl w.heap.size (.slice AW j cW) j ((ZX.1.take j).map (rdN ZX)) rfl HR7.out w6.heap.size 1 ((nw, nt, nb, ns), nx) rfl HX7.out (by omega) (by decide) HB7.out.size ?_; intro A8 c8 w8 ho8 hg8 hn8)
                      | fail)
                    intro hl8
                    have HQ8 : Hid (CQ_ w8 w.heap.size q cf a m S ZX) := ⟨cx_row HQ7.out.1 HR7.out (by decide) (by decide) hg8, HTR.out⟩
                    have HO8 := Lib.hid (ow_beside HO7.out hg8 (row_tags HO7.out HR7.out (by decide)))
                    have HR8 := Lib.hid ho8
                    have HB8 : Hid (Below w.heap.size w w8) := HB7.out.grown hg8 HB7.out.size (fun j e => (HR7.out.lt j e).1)
                    clear ho8 hg8 hn8 hl8 HX7 HB7 HQ7 HO7 HR7 b0 b1 b2 b3 b4
                    go_wp2
                    go_roundw
                    case rel => exact ⟨j + 1, by omega, by go_num, HQ8.out, HO8.out, by rw [HTK.out]; exact HR8.out, HB8.out⟩
                    case measure => simp [intOf]; omega
                  · obtain rfl : j = nT := by omega
                    have d2 : decide ((j : Int) < (j : Int)) = false := decide_eq_false (by omega)
                    obtain ⟨Wn, hWn⟩ : ∃ Wn, (ZX.1.take j).map (rdN ZX) = Wn := ⟨_, rfl⟩
                    rw [hWn] at HR
                    have HWN : Hid (∀ i, i < j → Wn[i]? = some (rdN ZX (ZX.1.getD i 0))) := fun i hi => by
                      have hl : i < ZX.1.length := by rw [HNT.out]; exact hi
                      rw [← hWn, List.getElem?_map, List.getElem?_take_of_lt hi, List.getD_eq_getElem?_getD, List.getElem?_eq_getElem hl]; rfl
                    clear hWn
                    have HCP := Lib.hid (xcopy HQ.out.1 HB.out.size)
                    go_wp2_with fail
                    refine HCP.out.mono ?_
                    rintro e w5 ⟨q2, a2, S2, rfl, htw, hb⟩
                    have hby : Below w5.heap.size w5 (w5.alloc (.cells #[] 24)) := (Below.refl _ _).alloc (Nat.le_refl _) _
                    have HF6 : Hid (Ow hv (w5.alloc (.cells #[] 24)) w5.heap.size 24 (.slice (some ⟨w5.heap.size, 0, none⟩) 0 0) 0 []) := Ow.fresh w5 24 (Nat.le_refl _) rfl
                    have HT6 := Lib.hid (htw.later hby)
                    have HO6 := Lib.hid ((HO.out.later hb).later hby)
                    have HOL := Lib.hid (fun k ek => (Ow.lt (HO.out.later hb) k ek).2)
                    have HR6 := Lib.hid ((HR.out.later hb).later hby)
                    have HRL := Lib.hid (fun k ek => ((HR.out.later hb).lt k ek).2)
                    have HB5 := Lib.hid (stepB HB.out hb)
                    have HB6 := Lib.hid (stepB HB5.out hby)
                    have HSZ := Lib.hid hby.size
                    obtain ⟨AT', cT', e9, hsl⟩ := Ow.sl HO6.out
                    cases e9
                    have HSL := Lib.hid hsl
                    clear htw hb hby hsl HCP HQ HO HR HB d2
                    go_wp2_with (first
                      | (at_builtin; refine wpList_append_sl elemH rfl (.tmp 106) (.tmp 107) rfl w5.heap.size (.slice (some ⟨w5.heap.size, 0, none⟩) 0 0) 0 [] rfl HF6.out AT j cT ZX.1 rfl HSL.out (by omega) (by decide) HSZ.out ?_; intro v1 w7 ho7)
                      | fail)
                    intro hg7
                    have HT7 : Hid (TwoE w7 w.heap.size cf m q a ZX.2.1 S ZX.2.2 ZX.1 ZX.1.length q2 a2 ZX.2.1 S2 ZX.2.2 ZX.1 ZX.1.length) := ⟨HT6.out.a.grown HF6.out (by decide) (by decide) hg7, HT6.out.b.grown HF6.out (by decide) (by decide) hg7, HT6.out.dis⟩
                    have HO7 := Lib.hid (ow_beside HO6.out hg7 (fun k ek e => by
                      have h1 := HOL.out k ek
                      have h2 := (Ow.lt HF6.out k e).1
                      omega))
                    have HR7 := Lib.hid (HR6.out.kept hg7 (fun k ek e => by
                      have h1 := HRL.out k ek
                      have h2 := (Ow.lt HF6.out k e.symm).1
                      omega))
                    have HB7 : Hid (Below w.heap.size w w7) := HB6.out.grown hg7 HB6.out.size (fun k e => Nat.le_trans HB5.out.size (Ow.lt HF6.out k e).1)
                    have HU7 : Hid (Ow hv w7 w5.heap.size 24 v1 j ZX.1) := by rw [Nat.zero_add, List.nil_append] at ho7; exact ho7
                    have HS7 : Hid (w5.heap.size ≤ w7.heap.size) := Nat.le_trans HSZ.out hg7.size
                    clear ho7 hg7 HF6 HT6 HO6 HR6 HB6 HSL HSZ
                    have hby : Below w7.heap.size w7 (w7.alloc (.cells #[] 24)) := (Below.refl _ _).alloc (Nat.le_refl _) _
                    have HF8 : Hid (Ow hv (w7.alloc (.cells #[] 24)) w7.heap.size 24 (.slice (some ⟨w7.heap.size, 0, none⟩) 0 0) 0 []) := Ow.fresh w7 24 (Nat.le_refl _) rfl
                    have HT8 := Lib.hid (HT7.out.later hby)
                    have HO8 := Lib.hid (HO7.out.later hby)
                    have HO7L := Lib.hid (fun k ek => (Ow.lt HO7.out k ek).2)
                    have HR8 := Lib.hid (HR7.out.later hby)
                    have HR7L := Lib.hid (fun k ek => (HR7.out.lt k ek).2)
                    have HU8 := Lib.hid (HU7.out.later hby)
                    have HU7L := Lib.hid (fun k ek => (Ow.lt HU7.out k ek))
                    have HB8 := Lib.hid (stepB HB7.out hby)
                    have HSZ := Lib.hid hby.size
                    obtain ⟨AT', cT', e9, hsl⟩ := Ow.sl HO8.out
                    cases e9
                    have HSL := Lib.hid hsl
                    clear hby hsl HT7 HO7 HR7 HU7
                    go_wp2_with (first
                      | (at_builtin; refine wpList_append_sl elemH rfl (.tmp 109) (.tmp 110) rfl w7.heap.size (.slice (some ⟨w7.heap.size, 0, none⟩) 0 0) 0 [] rfl HF8.out AT j cT ZX.1 rfl HSL.out (by omega) (by decide) HSZ.out ?_; intro v2 w9 ho9)
                      | fail)
                    intro hg9
                    have HC9 : Hid (C7 w w9 cf m q a q2 a2 ZX.1 (.slice AT j cT) Wn (.slice AW j cW) ZX S ZX S2 ZX.1 v1 ZX.1 v2 [] (.slice none 0 0)) := by
                      have ho9' : Ow hv w9 w7.heap.size 24 v2 j ZX.1 := by rw [Nat.zero_add, List.nil_append] at ho9; exact ho9
                      refine ⟨⟨HT8.out.a.grown HF8.out (by decide) (by decide) hg9, HT8.out.b.grown HF8.out (by decide) (by decide) hg9, HT8.out.dis⟩, HTR.out, HTR.out, ?_, ?_, ?_, ?_, Ow.none _ _ _, fun k ek => ⟨fun e => ?_, fun e => ?_⟩, fun k ek e => ?_, ?_⟩
                      · rw [HNT.out]
                        exact ow_beside HO8.out hg9 (fun k ek e => by
                          have h1 := HO7L.out k ek
                          have h2 := (Ow.lt HF8.out k e).1
                          omega)
                      · rw [HNT.out]
                        exact HR8.out.kept hg9 (fun k ek e => by
                          have h1 := HR7L.out k ek
                          have h2 := (Ow.lt HF8.out k e.symm).1
                          omega)
                      · rw [HNT.out]
                        exact (ow_beside HU8.out hg9 (fun k ek e => by
                          have h1 := (HU7L.out k ek).2
                          have h2 := (Ow.lt HF8.out k e).1
                          omega)).base HB5.out.size
                      · rw [HNT.out]
                        exact ho9'.base (Nat.le_trans HB5.out.size HS7.out)
                      · have h1 := (HU7L.out k ek).1
                        have h2 := HOL.out k e
                        omega
                      · have h1 := (HU7L.out k ek).2
                        have h2 := (Ow.lt ho9' k e).1
                        omega
                      · have h1 := (Ow.lt ho9' k ek).1
                        have h2 := HOL.out k e
                        have h3 := HS7.out
                        omega
                      · exact HB8.out.grown hg9 HB8.out.size (fun k e => Nat.le_trans (Nat.le_trans HB5.out.size HS7.out) (Ow.lt HF8.out k e).1)
                    clear ho9 hg9 HF8 HT8 HO8 HR8 HU8 HB8 HSL HSZ HS7 HB7 HB5 HOL HRL HO7L HR7L HU7L
                    go_wp2
                    obtain ⟨Z0, rfl⟩ : ∃ Z, Z = ZX := ⟨_, rfl⟩
                    go_loopw [18, 20, 21] (fun ov ev ix W => ∃ (k : Nat) (SB : Nat → Prop), k ≤ n2 ∧ ix = .int .i64 k ∧ C7 w W cf m q a q2 a2 Z0.1 (.slice AT j cT) Wn (.slice AW j cW) Z0 S (rq m L2 Z0 k) SB (rq m L2 Z0 k).1 ov Z0.1 v2 (erL m L2 Z0 k) ev) (fun _ _ ix _ => n2 - (intOf ix).toNat)
                    case atStart => exact ⟨0, S2, Nat.zero_le _, rfl, HC9.out⟩
                    case round =>
                      obtain ⟨k, SB, hk, rfl, hc⟩ := hrel
                      clear HC9
                      by_cases hlt : k < n2
                      · have d2 : decide ((k : Int) < (n2 : Int)) = true := decide_eq_true (by omega)
                        have w3_ : IntKind.i64.wrap ((k : Int) + 1) = (k : Int) + 1 := IntWalk.i64_in _ (by omega)
                        obtain ⟨ZX, hZX⟩ : ∃ ZX, rq m L2 Z0 k = ZX := ⟨_, rfl⟩
                        rw [hZX] at hc
                        have HZX := Lib.hid hZX
                        have HLQ : Hid (ZX.1.length ≤ 95) := by
                          have h := rq_len (m := m) (L := L2) (Z := Z0) k
                          rw [hZX, HNT.out] at h
                          show _ ≤ _
                          omega
                        have HC := Lib.hid hc
                        obtain ⟨AV, cV, hv1, _⟩ := Ow.sl hc.one
                        subst hv1
                        clear hZX hc
                        obtain ⟨g, off, rfl, hmem, hc⟩ := sq_at (HS2.out _ HC.out.lo) hlt
                        have i57 := index57 g off n2 c2 k (k : Int) rfl hlt
                        obtain ⟨s, hs⟩ : ∃ s, L2.getD k sq0 = s := ⟨_, rfl⟩
                        rw [hs] at hmem hc
                        have HSE := Lib.hid hs
                        have HOK := Lib.hid (L2ok.out s hmem)
                        clear hmem hs
                        have x0 := hc 0 _ rfl
                        have x1 := hc 1 _ rfl
                        have x2 := hc 2 _ rfl
                        have x3 := hc 3 _ rfl
                        have x4 := hc 4 _ rfl
                        have x5 := hc 5 _ rfl
                        have x6 := hc 6 _ rfl
                        have x7 := hc 7 _ rfl
                        have x8 := hc 8 _ rfl
                        clear hc
                        have HDO := Lib.hid (do_any s w.heap.size q2 cf a2 m SB ZX w.heap.size _ wr ⟨HC.out.tw.b, HC.out.hB⟩ HOK.out HC.out.one (by have := HLQ.out; omega))
                        obtain ⟨sk, sh, sn, sy, ⟨sv0, sv1, sv2, sv3⟩, sts⟩ := s
                        simp only [Nat.add_zero] at x0 x1 x2 x3 x4 x5 x6 x7 x8
                        obtain ⟨hh, hhe⟩ : ∃ hh, (doQ m (sk, sh, sn, sy, (sv0, sv1, sv2, sv3), sts) ZX).1.1 = hh := ⟨_, rfl⟩
                        obtain ⟨er, here⟩ : ∃ er, (doQ m (sk, sh, sn, sy, (sv0, sv1, sv2, sv3), sts) ZX).1.2 = er := ⟨_, rfl⟩
                        have HZT : Hid ((stQ m (sk, sh, sn, sy, (sv0, sv1, sv2, sv3), sts) ZX).1 = tT ZX.1 hh) := by show _ = _; rw [← hhe]; rfl
                        rw [hhe, here] at HDO
                        have HER := Lib.hid here
                        clear hhe here
                        go_wp2_with fail
                        refine HDO.out.mono ?_
                        intro e w5 hx5
                        obtain ⟨rfl, S5, hc5⟩ := HC.out.stepB hx5
                        have HC5 := Lib.hid hc5
                        clear hx5 hc5 HDO HC x0 x1 x2 x3 x4 x5 x6 x7 x8 i57
                        have HST : Hid (stQ m (sk, sh, sn, sy, (sv0, sv1, sv2, sv3), sts) ZX = rq m L2 Z0 (k + 1)) := by
                          show _ = stQ m (L2.getD k sq0) (rq m L2 Z0 k)
                          rw [HSE.out, HZX.out]
                        have HEQ : Hid (erQ m L2 Z0 k = er) := by
                          show (doQ m (L2.getD k sq0) (rq m L2 Z0 k)).1.2 = er
                          rw [HSE.out, HZX.out]
                          exact HER.out
                        rw [HST.out] at HC5 HZT
                        have HEL : Hid (erL m L2 Z0 (k + 1) = erL m L2 Z0 k ++ [er]) := by show _ = _; rw [erL_succ, HEQ.out]
                        obtain ⟨AE, cE, hv1, _⟩ := Ow.sl HC5.out.errs
                        subst hv1
                        have hbx : Below w5.heap.size w5 (w5.alloc (.cells #[.int .i64 er] 25)) := (Below.refl _ _).alloc (Nat.le_refl _) _
                        have HY6 : Hid (Sl ev_ (w5.alloc (.cells #[.int .i64 er] 25)) (some ⟨w5.heap.size, 0, none⟩) 1 1 [er]) := Blk.sl (enc := ev_) (xs := [er]) (Blk.new w5 #[.int .i64 er] 25)
                        have HC7 := Lib.hid (HC5.out.later hbx)
                        clear hbx HC5
                        go_wp2_with (first
                          | (at_builtin; refine wpList_append_sl elemE rfl (.tmp 128) (.tmp 130) rfl w.heap.size (.slice AE (erL m L2 Z0 k).length cE) (erL m L2 Z0 k).length (erL m L2 Z0 k) rfl HC7.out.errs (some ⟨w5.heap.size, 0, none⟩) 1 1 [er] rfl HY6.out (by rw [erL_len]; omega) (by decide) HC7.out.lo.size ?_; intro v6 w6 ho6)
                          | fail)
                        intro hg6
                        have HC6 := Lib.hid (HC7.out.grow3 (E' := erL m L2 Z0 (k + 1)) (by rw [HEL.out, List.length_append]; exact ho6) hg6)
                        clear ho6 hg6 HC7 HY6
                        by_cases h0 : hh = 0
                        · have e0 : (hh != 0) = false := by rw [h0]; rfl
                          have HZ2 : Hid (ZX.1 = (rq m L2 Z0 (k + 1)).1) := by show _ = _; rw [HZT.out, h0]; exact st_nil.symm
                          clear h0
                          rw [HZ2.out] at HC6
                          have HC8 := HC6
                          clear HC6
                          go_wp2
                          go_roundw
                          case rel => exact ⟨k + 1, S5, by omega, by go_num, by have h := HC8.out; rw [← HZ2.out] at h ⊢; exact h⟩
                          case measure => simp [intOf]; omega
                        · have e0 : (hh != 0) = true := by rw [bne_iff_ne]; exact h0
                          have HZ2 : Hid ((rq m L2 Z0 (k + 1)).1 = ZX.1 ++ [hh]) := by show _ = _; rw [HZT.out]; unfold tT; rw [if_neg h0]
                          clear h0
                          have hbx : Below w6.heap.size w6 (w6.alloc (.cells #[.int .u64 hh] 24)) := (Below.refl _ _).alloc (Nat.le_refl _) _
                          have HY7 : Hid ((w6.alloc (.cells #[.int .u64 hh] 24)).cell? ⟨w6.heap.size, 0, none⟩ = some (hv hh)) := (Blk.new w6 #[.int .u64 hh] 24).cell 0
                          have HC7 := Lib.hid (HC6.out.later hbx)
                          clear hbx HC6
                          go_wp2_with (first
                            | (at_builtin; refine append_lies_sl elemH rfl (.tmp 134) (.tmp 136) rfl w.heap.size (.slice AV ZX.1.length cV) ZX.1.length ZX.1 rfl HC7.out.one w6.heap.size hh rfl HY7.out (by have := HLQ.out; omega) (by decide) HC7.out.lo.size ?_; intro A8 c8 w8 ho8 hg8)
                            | fail)
                          intro hn8
                          have HC8 := Lib.hid (HC7.out.grow1 (by rw [show (ZX.1 ++ [hh]).length = ZX.1.length + 1 by rw [List.length_append]; rfl]; exact ho8) hg8 hn8)
                          clear ho8 hg8 hn8 HC7 HY7
                          go_wp2
                          go_roundw
                          case rel => exact ⟨k + 1, S5, by omega, by go_num, by have h := HC8.out; rw [← HZ2.out] at h; exact h⟩
                          case measure => simp [intOf]; omega
                      · obtain rfl : k = n2 := by omega
                        have d2 : decide ((k : Int) < (k : Int)) = false := decide_eq_false (by omega)
                        have HC := Lib.hid hc
                        clear hc
                        obtain ⟨ZF, hZF⟩ : ∃ ZF, rq m L2 Z0 k = ZF := ⟨_, rfl⟩
                        rw [hZF] at HC
                        have HZF := Lib.hid hZF
                        have HLF : Hid (ZF.1.length ≤ 95) := by
                          have h := rq_len (m := m) (L := L2) (Z := Z0) k
                          rw [hZF, HNT.out] at h
                          show _ ≤ _
                          omega
                        clear hZF
                        obtain ⟨AO, cO, hv1, _⟩ := Ow.sl HC.out.one
                        subst hv1
                        obtain ⟨AE, cE, hv1, _⟩ := Ow.sl HC.out.errs
                        subst hv1
                        go_wp2
                        go_loopw [24] (fun ix W => ∃ i : Nat, i ≤ j ∧ ix = .int .i64 i ∧ C7 w W cf m q a q2 a2 Z0.1 (.slice AT j cT) Wn (.slice AW j cW) Z0 S ZF SB ZF.1 (.slice AO ZF.1.length cO) Z0.1 v2 (erL m L2 Z0 k) (.slice AE (erL m L2 Z0 k).length cE)) (fun ix _ => j - (intOf ix).toNat)
                        case atStart => exact ⟨0, Nat.zero_le _, rfl, HC.out⟩
                        case round =>
                          obtain ⟨i, hi, rfl, hc⟩ := hrel
                          clear HC d2
                          have HC := Lib.hid hc
                          clear hc
                          by_cases hlt : i < j
                          · have d2 : decide ((i : Int) < (j : Int)) = true := decide_eq_true (by omega)
                            have wj : IntKind.i64.wrap ((i : Int) + 1) = (i : Int) + 1 := IntWalk.i64_in _ (by omega)
                            have hto := HC.out.told
                            rw [HNT.out] at hto
                            obtain ⟨gU, cV, e9⟩ := own0 hto (by omega)
                            cases e9
                            have i1 := idx48 gU j cT i (i : Int) rfl hlt
                            have x1 := own_at hto hlt
                            have hxr := (HTR.out _ (getD_in (us := Z0.1) (j := i) (by rw [HNT.out]; exact hlt))).1
                            have hwn := HWN.out i hlt
                            obtain ⟨X, hX⟩ : ∃ X, Z0.1.getD i 0 = X := ⟨_, rfl⟩
                            rw [hX] at x1 hxr hwn
                            obtain ⟨Nn, hNn⟩ : ∃ Nn, rdN Z0 X = Nn := ⟨_, rfl⟩
                            rw [hNn] at hwn
                            have HRD := Lib.hid (read_q HC.out.tw.a hxr hNn)
                            have HWI := Lib.hid hwn
                            obtain ⟨⟨nw, nt, nb, ns⟩, nx⟩ := Nn
                            obtain ⟨isx, hisx⟩ : ∃ b, isA Z0.2.1 X = b := ⟨_, rfl⟩
                            rw [hisx] at HRD
                            clear hX hNn hxr hwn hisx hto
                            go_wp2_with fail
                            refine HRD.out.mono ?_
                            rintro e w5 ⟨rfl, hb⟩
                            simp only
                            have hby : Below w5.heap.size w5 (w5.alloc (.cells #[.int .i64 nw, .int .i64 nt, .bool nb, .string ns, .int .u64 nx] 31)) := (Below.refl _ _).alloc (Nat.le_refl _) _
                            have HC6 := Lib.hid ((HC.out.later hb).later hby)
                            have HN6 : Hid (Blk (w5.alloc (.cells #[.int .i64 nw, .int .i64 nt, .bool nb, .string ns, .int .u64 nx] 31)) w5.heap.size #[.int .i64 nw, .int .i64 nt, .bool nb, .string ns, .int .u64 nx] 31) := Blk.new _ _ _
                            clear hb hby HRD HC x1 i1
                            go_upto_region 33 with (fail)
                            generalize w5.alloc (.cells #[.int .i64 nw, .int .i64 nt, .bool nb, .string ns, .int .u64 nx] 31) = w6 at *
                            obtain ⟨pn, hpn⟩ : ∃ p, w5.heap.size = p := ⟨_, rfl⟩
                            rw [hpn] at HN6 ⊢
                            clear hpn
                            have b0 := HN6.out.cell 0
                            have b1 := HN6.out.cell 1
                            have b2 := HN6.out.cell 2
                            have b3 := HN6.out.cell 3
                            have b4 := HN6.out.cell 4
                            simp only [List.getElem?_toArray, List.getElem?_cons_zero, List.getElem?_cons_succ] at b0 b1 b2 b3 b4
                            have hwr := HC6.out.was
                            rw [HNT.out] at hwr
                            obtain ⟨g, off, rfl, a0, a1, a2, a3, a4⟩ := nd_at (hwr.rsl ndc_len) HWI.out
                            simp only at a0 a1 a2 a3 a4
                            have i2 := idx62 g off j cW i (i : Int) rfl hlt
                            clear hwr
                            go_wp2
                            go_quiet (fail)
                            have HC7 := Lib.hid (HC6.out.later (below_drewN (Below.refl _ _) nq))
                            generalize w6.drewN nq = w7 at *
                            clear HC6 HN6 a0 a1 a2 a3 a4 b0 b1 b2 b3 b4 i2
                            go_wp2
                            go_roundw
                            case rel => exact ⟨i + 1, by omega, by go_num, HC7.out⟩
                            case measure => simp [intOf]; omega
                          · obtain rfl : i = j := by omega
                            have d2 : decide ((i : Int) < (i : Int)) = false := decide_eq_false (by omega)
                            obtain ⟨nn, rfl⟩ : ∃ x, x = k := ⟨_, rfl⟩
                            go_wp2
                            go_loopw [19, 27] (fun tv ix W => ∃ (k : Nat) (SA : Nat → Prop), k ≤ nn ∧ ix = .int .i64 k ∧ C7 w W cf m q a q2 a2 Z0.1 (.slice AT i cT) Wn (.slice AW i cW) (rq m L2 Z0 k) SA ZF SB ZF.1 (.slice AO ZF.1.length cO) (rq m L2 Z0 k).1 tv (erL m L2 Z0 nn) (.slice AE (erL m L2 Z0 nn).length cE)) (fun _ ix _ => nn - (intOf ix).toNat)
                            case atStart => exact ⟨0, S, Nat.zero_le _, rfl, HC.out⟩
                            case round =>
                              obtain ⟨k, SA, hk, rfl, hc⟩ := hrel
                              clear HC d2
                              by_cases hlt : k < nn
                              · have d2 : decide ((k : Int) < (nn : Int)) = true := decide_eq_true (by omega)
                                have w3_ : IntKind.i64.wrap ((k : Int) + 1) = (k : Int) + 1 := IntWalk.i64_in _ (by omega)
                                obtain ⟨ZX, hZX⟩ : ∃ ZX, rq m L2 Z0 k = ZX := ⟨_, rfl⟩
                                rw [hZX] at hc
                                have HZX := Lib.hid hZX
                                have HLQ : Hid (ZX.1.length ≤ 95) := by
                                  have h := rq_len (m := m) (L := L2) (Z := Z0) k
                                  rw [hZX, HNT.out] at h
                                  show _ ≤ _
                                  omega
                                have HC := Lib.hid hc
                                obtain ⟨AV, cV, hv1, _⟩ := Ow.sl hc.two
                                subst hv1
                                clear hZX hc
                                obtain ⟨g, off, rfl, hmem, hc⟩ := sq_at (HS2.out _ HC.out.lo) hlt
                                have i57 := index57 g off nn c2 k (k : Int) rfl hlt
                                obtain ⟨s, hs⟩ : ∃ s, L2.getD k sq0 = s := ⟨_, rfl⟩
                                rw [hs] at hmem hc
                                have HSE := Lib.hid hs
                                have HOK := Lib.hid (L2ok.out s hmem)
                                clear hmem hs
                                have x0 := hc 0 _ rfl
                                have x1 := hc 1 _ rfl
                                have x2 := hc 2 _ rfl
                                have x3 := hc 3 _ rfl
                                have x4 := hc 4 _ rfl
                                have x5 := hc 5 _ rfl
                                have x6 := hc 6 _ rfl
                                have x7 := hc 7 _ rfl
                                have x8 := hc 8 _ rfl
                                clear hc
                                have HDO := Lib.hid (do_any s w.heap.size q cf a m SA ZX w.heap.size _ wr ⟨HC.out.tw.a, HC.out.hA⟩ HOK.out HC.out.two (by have := HLQ.out; omega))
                                obtain ⟨sk, sh, sn, sy, ⟨sv0, sv1, sv2, sv3⟩, sts⟩ := s
                                simp only [Nat.add_zero] at x0 x1 x2 x3 x4 x5 x6 x7 x8
                                obtain ⟨hh, hhe⟩ : ∃ hh, (doQ m (sk, sh, sn, sy, (sv0, sv1, sv2, sv3), sts) ZX).1.1 = hh := ⟨_, rfl⟩
                                obtain ⟨er, here⟩ : ∃ er, (doQ m (sk, sh, sn, sy, (sv0, sv1, sv2, sv3), sts) ZX).1.2 = er := ⟨_, rfl⟩
                                have HZT : Hid ((stQ m (sk, sh, sn, sy, (sv0, sv1, sv2, sv3), sts) ZX).1 = tT ZX.1 hh) := by show _ = _; rw [← hhe]; rfl
                                rw [hhe, here] at HDO
                                have HER := Lib.hid here
                                clear hhe here
                                go_wp2_with fail
                                refine HDO.out.mono ?_
                                intro e w5 hx5
                                obtain ⟨rfl, S5, hc5⟩ := HC.out.stepA hx5
                                have HC6 := Lib.hid hc5
                                clear hx5 hc5 HDO HC x0 x1 x2 x3 x4 x5 x6 x7 x8 i57
                                have HST : Hid (stQ m (sk, sh, sn, sy, (sv0, sv1, sv2, sv3), sts) ZX = rq m L2 Z0 (k + 1)) := by
                                  show _ = stQ m (L2.getD k sq0) (rq m L2 Z0 k)
                                  rw [HSE.out, HZX.out]
                                have HEQ : Hid (erQ m L2 Z0 k = er) := by
                                  show (doQ m (L2.getD k sq0) (rq m L2 Z0 k)).1.2 = er
                                  rw [HSE.out, HZX.out]
                                  exact HER.out
                                rw [HST.out] at HC6 HZT
                                obtain ⟨gE, cE', e9⟩ := err0 HC6.out.errs (by rw [erL_len]; omega)
                                cases e9
                                have x1 := err_at HC6.out.errs (erL_at (m := m) (L := L2) (Z := Z0) hlt)
                                rw [HEQ.out] at x1
                                have i3 := idx63 gE (erL m L2 Z0 nn).length cE k (k : Int) rfl (by rw [erL_len]; exact hlt)
                                have q3 : (er != er) = false := by simp
                                obtain ⟨w6, rfl⟩ : ∃ w6 : World, w6 = w5 := ⟨_, rfl⟩
                                by_cases h0 : hh = 0
                                · have e0 : (hh != 0) = false := by rw [h0]; rfl
                                  have HZ2 : Hid (ZX.1 = (rq m L2 Z0 (k + 1)).1) := by show _ = _; rw [HZT.out, h0]; exact st_nil.symm
                                  clear h0
                                  have HC8 := HC6
                                  clear HC6
                                  go_wp2
                                  go_roundw
                                  case rel => exact ⟨k + 1, S5, by omega, by go_num, by have h := HC8.out; rw [← HZ2.out]; exact h⟩
                                  case measure => simp [intOf]; omega
                                · have e0 : (hh != 0) = true := by rw [bne_iff_ne]; exact h0
                                  have HZ2 : Hid ((rq m L2 Z0 (k + 1)).1 = ZX.1 ++ [hh]) := by show _ = _; rw [HZT.out]; unfold tT; rw [if_neg h0]
                                  clear h0
                                  go_upto_region 42 with (fail)
                                  clear x1 i3
                                  have hbx : Below w6.heap.size w6 (w6.alloc (.cells #[.int .u64 hh] 24)) := (Below.refl _ _).alloc (Nat.le_refl _) _
                                  have HY7 : Hid ((w6.alloc (.cells #[.int .u64 hh] 24)).cell? ⟨w6.heap.size, 0, none⟩ = some (hv hh)) := (Blk.new w6 #[.int .u64 hh] 24).cell 0
                                  have HC7 := Lib.hid (HC6.out.later hbx)
                                  clear hbx HC6
                                  go_wp2_with (first
                                    | (at_builtin; refine append_lies_sl elemH rfl (.tmp 183) (.tmp 185) rfl w.heap.size (.slice AV ZX.1.length cV) ZX.1.length ZX.1 rfl HC7.out.two w6.heap.size hh rfl HY7.out (by have := HLQ.out; omega) (by decide) HC7.out.lo.size ?_; intro A8 c8 w8 ho8 hg8)
                                    | fail)
                                  intro hn8
                                  have HC8 := Lib.hid (HC7.out.grow2 (by rw [show (ZX.1 ++ [hh]).length = ZX.1.length + 1 by rw [List.length_append]; rfl]; exact ho8) hg8 hn8)
                                  clear ho8 hg8 hn8 HC7 HY7
                                  go_wp2
                                  go_roundw
                                  case rel => exact ⟨k + 1, S5, by omega, by go_num, by have h := HC8.out; rw [← HZ2.out] at h; exact h⟩
                                  case measure => simp [intOf]; omega
                              · obtain rfl : k = nn := by omega
                                have d2 : decide ((k : Int) < (k : Int)) = false := decide_eq_false (by omega)
                                have HC := Lib.hid hc
                                clear hc
                                rw [HZF.out] at HC
                                obtain ⟨AD, cD, hv1, _⟩ := Ow.sl HC.out.two
                                subst hv1
                                obtain ⟨nF, hnF⟩ : ∃ nF, ZF.1.length = nF := ⟨_, rfl⟩
                                rw [hnF] at HC ⊢
                                have HNF := Lib.hid hnF
                                have hlf := HLF.out
                                rw [hnF] at hlf
                                clear hnF
                                go_wp2
                                go_loopw [30] (fun ix W => ∃ r : Nat, r ≤ nF ∧ ix = .int .i64 r ∧ C7 w W cf m q a q2 a2 Z0.1 (.slice AT i cT) Wn (.slice AW i cW) ZF SA ZF SB ZF.1 (.slice AO nF cO) ZF.1 (.slice AD nF cD) (erL m L2 Z0 k) (.slice AE (erL m L2 Z0 k).length cE)) (fun ix _ => nF - (intOf ix).toNat)
                                case atStart => exact ⟨0, Nat.zero_le _, rfl, HC.out⟩
                                case round =>
                                  obtain ⟨r, hr, rfl, hc⟩ := hrel
                                  clear HC d2
                                  have HC := Lib.hid hc
                                  clear hc
                                  by_cases hlt : r < nF
                                  · have d2 : decide ((r : Int) < (nF : Int)) = true := decide_eq_true (by omega)
                                    have d5 : decide ((nF : Int) ≤ (r : Int)) = false := decide_eq_false (by omega)
                                    have wj : IntKind.i64.wrap ((r : Int) + 1) = (r : Int) + 1 := IntWalk.i64_in _ (by omega)
                                    have hon := HC.out.one
                                    rw [HNF.out] at hon
                                    obtain ⟨gO, cV, e9⟩ := own0 hon (by omega)
                                    cases e9
                                    have htw := HC.out.two
                                    rw [HNF.out] at htw
                                    obtain ⟨gD, cV, e9⟩ := own0 htw (by omega)
                                    cases e9
                                    have i1 := idx48 gO nF cO r (r : Int) rfl hlt
                                    have i2 := idx48 gD nF cD r (r : Int) rfl hlt
                                    have x1 := own_at hon hlt
                                    have hxr := (HC.out.hA _ (getD_in (us := ZF.1) (j := r) (by rw [HNF.out]; exact hlt))).1
                                    obtain ⟨X, hX⟩ : ∃ X, ZF.1.getD r 0 = X := ⟨_, rfl⟩
                                    rw [hX] at x1 hxr
                                    have HXX := Lib.hid hX
                                    obtain ⟨Nn, hNn⟩ : ∃ Nn, rdN ZF X = Nn := ⟨_, rfl⟩
                                    have HRA := Lib.hid (read_q HC.out.tw.a hxr hNn)
                                    have HRB : Hid (∀ W, C7 w W cf m q a q2 a2 Z0.1 (.slice AT i cT) Wn (.slice AW i cW) ZF SA ZF SB ZF.1 (.slice (some ⟨gO, 0, none⟩) nF cO) ZF.1 (.slice (some ⟨gD, 0, none⟩) nF cD) (erL m L2 Z0 k) (.slice AE (erL m L2 Z0 k).length cE) → _) := Lib.hid (fun W (h : C7 w W cf m q a q2 a2 Z0.1 (.slice AT i cT) Wn (.slice AW i cW) ZF SA ZF SB ZF.1 (.slice (some ⟨gO, 0, none⟩) nF cO) ZF.1 (.slice (some ⟨gD, 0, none⟩) nF cD) (erL m L2 Z0 k) (.slice AE (erL m L2 Z0 k).length cE)) => read_q h.tw.b hxr hNn)
                                    obtain ⟨⟨nw, nt, nb, ns⟩, nx⟩ := Nn
                                    obtain ⟨isx, hisx⟩ : ∃ b, isA ZF.2.1 X = b := ⟨_, rfl⟩
                                    rw [hisx] at HRA HRB
                                    have q4 : (isx != isx) = false := by simp
                                    have q5 : (X != X) = false := by simp
                                    clear hX hNn hxr hisx hon htw
                                    go_wp2_with fail
                                    refine HRA.out.mono ?_
                                    rintro e w5 ⟨rfl, hb⟩
                                    simp only
                                    have hby : Below w5.heap.size w5 (w5.alloc (.cells #[.int .i64 nw, .int .i64 nt, .bool nb, .string ns, .int .u64 nx] 31)) := (Below.refl _ _).alloc (Nat.le_refl _) _
                                    have HC6 := Lib.hid ((HC.out.later hb).later hby)
                                    have HN6 : Hid (Blk (w5.alloc (.cells #[.int .i64 nw, .int .i64 nt, .bool nb, .string ns, .int .u64 nx] 31)) w5.heap.size #[.int .i64 nw, .int .i64 nt, .bool nb, .string ns, .int .u64 nx] 31) := Blk.new _ _ _
                                    clear hb hby HRA HC x1
                                    go_upto_region 47 with (fail)
                                    generalize w5.alloc (.cells #[.int .i64 nw, .int .i64 nt, .bool nb, .string ns, .int .u64 nx] 31) = w6 at *
                                    obtain ⟨pn, hpn⟩ : ∃ p, w5.heap.size = p := ⟨_, rfl⟩
                                    rw [hpn] at HN6 ⊢
                                    clear hpn
                                    have hon := HC6.out.one
                                    rw [HNF.out] at hon
                                    have x1 := own_at hon hlt
                                    rw [HXX.out] at x1
                                    clear hon
                                    go_wp2_with fail
                                    refine (HRB.out _ HC6.out).mono ?_
                                    rintro e w7 ⟨rfl, hb⟩
                                    simp only
                                    have hby : Below w7.heap.size w7 (w7.alloc (.cells #[.int .i64 nw, .int .i64 nt, .bool nb, .string ns, .int .u64 nx] 31)) := (Below.refl _ _).alloc (Nat.le_refl _) _
                                    have HC8 := Lib.hid ((HC6.out.later hb).later hby)
                                    have HN8 := Lib.hid ((HN6.out.later hb).later hby)
                                    have HM8 : Hid (Blk (w7.alloc (.cells #[.int .i64 nw, .int .i64 nt, .bool nb, .string ns, .int .u64 nx] 31)) w7.heap.size #[.int .i64 nw, .int .i64 nt, .bool nb, .string ns, .int .u64 nx] 31) := Blk.new _ _ _
                                    clear hb hby HRB HC6 HN6 x1
                                    go_upto_region 48 with (fail)
                                    generalize w7.alloc (.cells #[.int .i64 nw, .int .i64 nt, .bool nb, .string ns, .int .u64 nx] 31) = w8 at *
                                    obtain ⟨pm, hpm⟩ : ∃ p, w7.heap.size = p := ⟨_, rfl⟩
                                    rw [hpm] at HM8 ⊢
                                    clear hpm
                                    have hon := HC8.out.one
                                    rw [HNF.out] at hon
                                    have x1 := own_at hon hlt
                                    have htw := HC8.out.two
                                    rw [HNF.out] at htw
                                    have x2 := own_at htw hlt
                                    rw [HXX.out] at x1 x2
                                    clear hon htw
                                    have b0 := HN8.out.cell 0
                                    have b1 := HN8.out.cell 1
                                    have b2 := HN8.out.cell 2
                                    have b3 := HN8.out.cell 3
                                    have b4 := HN8.out.cell 4
                                    simp only [List.getElem?_toArray, List.getElem?_cons_zero, List.getElem?_cons_succ] at b0 b1 b2 b3 b4
                                    have e0 := HM8.out.cell 0
                                    have e1 := HM8.out.cell 1
                                    have e2 := HM8.out.cell 2
                                    have e3 := HM8.out.cell 3
                                    have e4 := HM8.out.cell 4
                                    simp only [List.getElem?_toArray, List.getElem?_cons_zero, List.getElem?_cons_succ] at e0 e1 e2 e3 e4
                                    go_wp2
                                    go_quiet (fail)
                                    have HC9 := Lib.hid (HC8.out.later (below_drewN (Below.refl _ _) nq))
                                    generalize w8.drewN nq = w9 at *
                                    clear HC8 HN8 HM8 x1 x2 b0 b1 b2 b3 b4 e0 e1 e2 e3 e4 i1 i2
                                    go_wp2
                                    go_roundw
                                    case rel => exact ⟨r + 1, by omega, by go_num, HC9.out⟩
                                    case measure => simp [intOf]; omega
                                  · obtain rfl : r = nF := by omega
                                    have d2 : decide ((r : Int) < (r : Int)) = false := decide_eq_false (by omega)
                                    obtain ⟨u, hu⟩ : ∃ u, usA ZF.2.1 = u := ⟨_, rfl⟩
                                    have HUA := Lib.hid (used_is HC.out.tw.a hu)
                                    have HUB := Lib.hid (used_is HC.out.tw.b hu)
                                    clear hu
                                    go_wp2_with fail
                                    refine HUA.out.mono ?_
                                    rintro e w5 ⟨rfl, rfl⟩
                                    go_wp2_with fail
                                    refine HUB.out.mono ?_
                                    rintro e w6 ⟨rfl, rfl⟩
                                    have q6 : ((u : Int) == (u : Int)) = true := by simp
                                    clear HUA HUB
                                    go_wp2
                                    go_ret
                                    exact ⟨rfl, HC.out.lo⟩


set_option maxRecDepth 100000 in
theorem lifted (os : Os) (started : os.Started) (H : Type) (enc : TypeId × Value → H) :
    ReturnsInHanded {} Try.checked os 7 .any (Rows.chainCopiesSpec.pre6 enc Try.prog Try.f7 Rows.chainCopiesRow.domain false) (Rows.chainCopiesSpec.post enc Try.prog Try.f7 false true false false) := by
  refine returnsInHanded_of_change_sized (C := Try.checked) own started (by kernel_rfl) Try.func7
    (ChangeSpec.witness6 (enc := enc) (C := Try.checked) false ⟨#[], #[.agg #[.int .i64 0, .int .i64 0, .int .i64 0, .int .i64 0, .int .i64 0, .int .i64 0, .int .i64 0, .int .i64 0], .slice none 0 0, .slice none 0 0], []⟩ 8 (by kernel_rfl) (by kernel_rfl) (by kernel_rfl) (by kernel_rfl)) ?_
  intro W base args ds gs before hval0 hW _ hsz _
  have hval : ∀ (j : Nat) t v, Try.f7.params[j]? = some t → args[j]? = some v → Value.okWide Try.prog W .any base t v := hval0
  have hW' := hW
  obtain ⟨p, q, hA0, hV, hbef, _, _⟩ := hW
  have hA : DataW.TrodAll enc Try.prog W 0 (fun _ => true) true Try.f7.params.toList args.toList ds p := hA0
  rw [Try.params7] at hA hval
  obtain ⟨v0, vs0, d0, ds0, p0, q0, hargs, rfl, rfl, h0, r0⟩ := trodAll_cons hA
  obtain ⟨v1, vs1, d1, ds1, p1, q1, rfl, rfl, rfl, h1, r1⟩ := trodAll_cons r0
  obtain ⟨v2, vs2, d2, ds2, p2, q2, rfl, rfl, rfl, h2, r2⟩ := trodAll_cons r1
  obtain ⟨rfl, rfl, rfl⟩ := trodAll_nil r2
  obtain rfl : args = #[v0, v1, v2] := by cases args; simp_all
  obtain ⟨rfl, rfl⟩ := trodVars_none hV
  obtain ⟨a0, rfl⟩ := open_conf (hval 0 43 v0 rfl rfl) h0
  obtain ⟨A1, n1, c1, L1, rfl, st1, ok1, mx1⟩ := open_sqs (hval 1 57 v1 rfl rfl) h1
  obtain ⟨A2, n2, c2, L2, rfl, st2, ok2, mx2⟩ := open_sqs (hval 2 57 v2 rfl rfl) h2
  refine (walk a0 A1 n1 c1 L1 A2 n2 c2 L2 W st1 ok1 mx1 st2 ok2 mx2).mono fun e W' ⟨he, hb⟩ => ?_
  subst he
  exact ⟨_, rfl, law_post laidOut (of_decide_eq_true (by kernel_rfl)) rfl Try.underlying4 rfl rfl hW' hb⟩

theorem over : Rows.chainCopiesRow.holds Try.pinned (OpenSpec.ofChange Rows.chainCopiesSpec) :=
  OpenClaim.holds_of_wide 7 Try.f7 rfl rfl rfl rfl rfl rfl rfl ⟨rfl, rfl, rfl, rfl, rfl⟩ rfl rfl rfl rfl rfl (by kernel_rfl) Try.func7 (by kernel_rfl)
    (of_decide_eq_true (by kernel_rfl)) (by unfold Func.isWrapper; first | (rw [if_pos (by decide +kernel)]; kernel_rfl) | (rw [if_neg (by decide +kernel)]; exact ⟨rfl, rfl⟩))
    (fun os started H enc _ => lifted os started H enc)

end Go.Proofs.Ytbncpfkoeahhpaa.chainCopies
namespace Go.Proofs.Ytbncpfkoeahhpaa
theorem chainCopies_holds : Rows.ChainCopiesSaid := chainCopies.over
end Go.Proofs.Ytbncpfkoeahhpaa
