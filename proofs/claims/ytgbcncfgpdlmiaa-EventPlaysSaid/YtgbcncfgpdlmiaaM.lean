/- Without. -/
import Derived.Test.YtgbcncfgpdlmiaaL
namespace Go.Proofs.Ytgbcncfgpdlmiaa
open Go.ChangeShapes Go.WideShapes Go.ChangeAt Go.RowKit Go.Maps
set_option linter.unusedVariables false
set_option linter.unusedSimpArgs false

set_option maxRecDepth 100000 in
set_option maxHeartbeats 4000000 in
theorem owned44 (A : Option Addr) (n c : Nat) (Rs : List RE) (w : World) (AP : Option Addr) (cP : Nat) (P : List Pl) (pl : Nat) (hs : Srt P) (hPl : RSl plc 2 w AP P.length P) (hPn : P.length ≤ 100000) (hpb : Blk w pl #[.slice AP P.length cP] 46) (hcr : ∀ r ∈ Rs, -9223372036854775808 ≤ r.1.2.2.1 ∧ r.1.2.2.1 ≤ 9223372036854775807) (h : EvS w A n Rs) (hn : n ≤ 100000) (hp : ∀ r ∈ Rs, r.2.2.1 ≤ 100000) : Calls Try.prog 35 #[.slice A n c, .func (.func 44) #[] #[.pointer (some ⟨pl, 0, none⟩)]] w (OwdEnd (woL P (Rs.map Prod.fst)) w) := by
  have HS := Lib.hid h
  have HP0 := Lib.hid hp
  have HLN : Hid (Rs.length = n) := h.rd.1
  have HSR := Lib.hid hs
  have HPL : Hid (∀ W, Below w.heap.size w W → RSl plc 2 W AP P.length P ∧ Blk W pl #[.slice AP P.length cP] 46) := fun W hb => ⟨hPl.later hb, hpb.later hb⟩
  have HCR := Lib.hid hcr
  clear h hp hs hPl hpb hcr
  go_enter Try.func35, Try.ntmps35
  go_wp2
  go_loopw [5, 10] (fun o i W => ∃ (k : Nat) (v : Value) (Rs' : List RE), k ≤ n ∧ i = .int .i64 k ∧ v = o ∧ EvO W w.heap.size v Rs'.length Rs' ∧ Rs'.map Prod.fst = woL P ((Rs.map Prod.fst).take k) ∧ Rs'.length ≤ k ∧ Below w.heap.size w W) (fun _ i _ => n - (intOf i).toNat)
  case atStart => exact ⟨0, _, [], Nat.zero_le _, rfl, rfl, EvO.nil _ _, rfl, Nat.le_refl _, Below.refl _ _⟩
  case round =>
    obtain ⟨k, v, Rs', hk, rfl, rfl, ho, hm, hrl, hb⟩ := hrel
    have HO := Lib.hid ho
    have HMR := Lib.hid hm
    have HBW := Lib.hid hb
    clear ho hm hb
    by_cases hlt : k < n
    · have d1 : decide ((k : Int) < (n : Int)) = true := decide_eq_true (by omega)
      have wk : IntKind.i64.wrap ((k : Int) + 1) = (k : Int) + 1 := IntWalk.i64_in _ (by omega)
      obtain ⟨g, off, rfl, hg, hc⟩ := (HS.out.later HBW.out).rd.2 (by omega)
      have i5 := idx32 g off n c k (k : Int) rfl hlt
      have hrk : Rs[k]? = some (Rs[k]'(by rw [HLN.out]; exact hlt)) := List.getElem?_eq_getElem _
      have HPK := Lib.hid ((HS.out.later HBW.out).po _ (List.mem_of_getElem? hrk))
      have hn1 := HP0.out _ (List.mem_of_getElem? hrk)
      have hcl := HCR.out _ (List.mem_of_getElem? hrk)
      have HKS := Lib.hid (woL_succ P (Rs.map Prod.fst) k _ (by rw [List.getElem?_map, hrk]; rfl))
      generalize Rs[k]'(by rw [HLN.out]; exact hlt) = r at *
      obtain ⟨⟨wh, t, cl, er, fo, va, ps⟩, A1, n1, c1⟩ := r
      have x0 := hc k _ hrk 0 (by decide)
      have x1 := hc k _ hrk 1 (by decide)
      have x2 := hc k _ hrk 2 (by decide)
      have x3 := hc k _ hrk 3 (by decide)
      have x4 := hc k _ hrk 4 (by decide)
      have x5 := hc k _ hrk 5 (by decide)
      have x6 := hc k _ hrk 6 (by decide)
      simp only [evc, hdv, List.getElem?_cons_zero, List.getElem?_cons_succ, Nat.add_zero] at x0 x1 x2 x3 x4 x5 x6
      simp only at hn1 hcl
      have hbx : Below wr.heap.size wr (wr.alloc (.cells #[.int .u8 wh, .int .i64 t, .int .i64 cl, .int .i64 er, .bool fo, .string va, .slice A1 n1 c1] 40)) := (Below.refl _ _).alloc (Nat.le_refl _) _
      have HP : Hid (PO (wr.alloc (.cells #[.int .u8 wh, .int .i64 t, .int .i64 cl, .int .i64 er, .bool fo, .string va, .slice A1 n1 c1] 40)) (A1, n1, c1) ps) := HPK.out.later hbx
      have HPK0 : Hid (∀ W, Below wr.heap.size wr W → PO W (A1, n1, c1) ps) := fun W hb => HPK.out.later hb
      clear hc hrk hg HPK
      have HCLO := Lib.hid (clo44 AP cP P pl wr.heap.size wh t cl er fo va ps A1 n1 c1 (wr.alloc (.cells #[.int .u8 wh, .int .i64 t, .int .i64 cl, .int .i64 er, .bool fo, .string va, .slice A1 n1 c1] 40)) HSR.out (HPL.out _ (stepB HBW.out hbx)).1 hPn (HPL.out _ (stepB HBW.out hbx)).2 (Blk.new _ _ _) hcl.1 hcl.2)
      obtain ⟨gb, hgb⟩ : ∃ gb, goneB P (wh, t, cl, er, fo, va, ps) = gb := ⟨_, rfl⟩
      have HGB := Lib.hid hgb
      rw [hgb] at HKS
      obtain ⟨cl2, hcl2⟩ : ∃ cl2, cl - lessI P (wh, t, cl, er, fo, va, ps) = cl2 := ⟨_, rfl⟩
      have HC2 : Hid (woE P (wh, t, cl, er, fo, va, ps) = (wh, t, cl2, er, fo, va, ps)) := by show _ = _; unfold woE; rw [hcl2]
      rw [HC2.out] at HKS
      clear hgb hcl2 hcl
      go_wp2_with fail
      refine HCLO.out.mono ?_
      rintro e w9 ⟨rfl, hb9, hg9⟩
      have hbz : Below wr.heap.size wr w9 := Below.grown hbx hg9 hbx.size (fun j e => by have := Option.some.inj e; omega)
      have HB9 := Lib.hid (stepB HBW.out hbz)
      have HO9 := Lib.hid (HO.out.later hbz)
      have HP9 : Hid (PO w9 (A1, n1, c1) ps) := HPK0.out _ hbz
      rw [HC2.out] at hb9
      have HE9 : Hid (Blk w9 wr.heap.size #[.int .u8 wh, .int .i64 t, .int .i64 cl2, .int .i64 er, .bool fo, .string va, .slice A1 n1 c1] 40) := hb9
      rw [HGB.out]
      obtain ⟨qe, hqe⟩ : ∃ q, wr.heap.size = q := ⟨_, rfl⟩
      rw [hqe] at HE9
      rw [hqe]
      clear hqe hb9 hg9 hbz hbx HO HBW HCLO HP x0 x1 x2 x3 x4 x5 x6 i5 HPK0
      cases gb with
      | true =>
        have HKE : Hid (woL P ((Rs.map Prod.fst).take (k + 1)) = woL P ((Rs.map Prod.fst).take k)) := HKS.out.trans (by simp)
        clear HKS
        go_wp2
        go_roundw
        case rel => exact ⟨k + 1, _, _, by omega, by go_num, rfl, HO9.out, HMR.out.trans HKE.out.symm, by omega, HB9.out⟩
        case measure => simp [intOf]; omega
      | false =>
        have HKE : Hid (woL P ((Rs.map Prod.fst).take (k + 1)) = woL P ((Rs.map Prod.fst).take k) ++ [(wh, t, cl2, er, fo, va, ps)]) := HKS.out.trans (by simp)
        clear HKS
        have z0 := HE9.out.cell 0
        have z1 := HE9.out.cell 1
        have z2 := HE9.out.cell 2
        have z3 := HE9.out.cell 3
        have z4 := HE9.out.cell 4
        have z5 := HE9.out.cell 5
        have z6 := HE9.out.cell 6
        simp only [List.getElem?_toArray, List.getElem?_cons_zero, List.getElem?_cons_succ] at z0 z1 z2 z3 z4 z5 z6
        have hn19 : n1 ≤ 100000 := hn1
        go_wp2_with fail
        refine (own_x wh t cl2 er fo va ps A1 n1 c1 w9 HP9.out hn1).mono ?_
        rintro e w2 ⟨A2, n2, c2, rfl, hpo, hl2, hb⟩
        have HPO := Lib.hid (hpo.base (B' := w.heap.size) HB9.out.size)
        have HBW2 := Lib.hid (stepB HB9.out hb)
        have HO2 := Lib.hid (HO9.out.later hb)
        clear hpo hl2 hb HO9 HB9 z0 z1 z2 z3 z4 z5 z6
        have hby : Below w2.heap.size w2 (w2.alloc (.cells #[.int .u8 wh, .int .i64 t, .int .i64 cl2, .int .i64 er, .bool fo, .string va, .slice A2 n2 c2] 40)) := (Below.refl _ _).alloc (Nat.le_refl _) _
        have HX3 : Hid (RSl evc 7 (w2.alloc (.cells #[.int .u8 wh, .int .i64 t, .int .i64 cl2, .int .i64 er, .bool fo, .string va, .slice A2 n2 c2] 40)) (some ⟨w2.heap.size, 0, none⟩) 1 [((wh, t, cl2, er, fo, va, ps), (A2, n2, c2))]) := Blk.rsl (x := ((wh, t, cl2, er, fo, va, ps), (A2, n2, c2))) (Blk.new w2 _ 40)
        have HO3 := Lib.hid (HO2.out.later hby)
        have HP3 := Lib.hid (HPO.out.later hby)
        have HB3 := Lib.hid (stepB HBW2.out hby)
        clear hby
        obtain ⟨Av, cv, hv, _, _⟩ := HO3.out.row.sl
        subst hv
        go_wp2_with (first
          | (at_builtin; refine append_row1 elemEv rfl (.tmp 16) (.tmp 19) rfl w.heap.size (.slice Av Rs'.length cv) Rs'.length Rs' rfl HO3.out.row w2.heap.size 1 ((wh, t, cl2, er, fo, va, ps), (A2, n2, c2)) rfl HX3.out (by omega) (by decide) HB3.out.size ?_; intro A4 c4 w4 ho4 hg4 hn4)
          | fail)
        intro hl4
        have HO4 := Lib.hid (HO3.out.more hg4 HP3.out ho4)
        have HB4 : Hid (Below w.heap.size w w4) := HB3.out.grown hg4 HB3.out.size (fun j e => (HO3.out.lt j e).1)
        clear ho4 hg4 hn4 hl4 HX3 HO3 HP3 HB3 HO2 HPO HBW2
        go_wp2
        go_roundw
        case rel => exact ⟨k + 1, _, Rs' ++ [((wh, t, cl2, er, fo, va, ps), (A2, n2, c2))], by omega, by go_num, rfl, by rw [List.length_append]; exact HO4.out, by rw [List.map_append, HMR.out, HKE.out]; rfl, by simp; omega, HB4.out⟩
        case measure => simp [intOf]; omega
    · obtain rfl : k = n := by omega
      have d1 : decide ((k : Int) < (k : Int)) = false := decide_eq_false (by omega)
      have HME : Hid (Rs'.map Prod.fst = woL P (Rs.map Prod.fst)) := by
        show _ = _
        rw [HMR.out, List.take_of_length_le (by rw [List.length_map, HLN.out]; exact Nat.le_refl _)]
      obtain ⟨Av, cv, hv, _, _⟩ := HO.out.row.sl
      subst hv
      go_wp2
      go_ret
      exact ⟨Av, cv, _, Rs', rfl, HO.out, HME.out, HBW.out⟩
set_option maxRecDepth 100000 in
set_option maxHeartbeats 4000000 in
theorem without1_any (A : Option Addr) (n c g : Nat) (z : Pl) (Rs : List RE) (w : World) (h : EvS w A n Rs) (hn : n ≤ 100000) (hp : ∀ r ∈ Rs, r.2.2.1 ≤ 100000) (hcr : ∀ r ∈ Rs, -9223372036854775808 ≤ r.1.2.2.1 ∧ r.1.2.2.1 ≤ 9223372036854775807) (hz : RSl plc 2 w (some ⟨g, 0, none⟩) 1 [z]) : Calls Try.prog 20 #[.slice A n c, .slice (some ⟨g, 0, none⟩) 1 1] w (OwdEnd (woL [z] (Rs.map Prod.fst)) w) := by
  have HZ := Lib.hid hz
  have HS := Lib.hid h
  have HN := Lib.hid hp
  have HCR := Lib.hid hcr
  clear h hp hcr hz
  go_enter Try.func20, Try.ntmps20
  go_wp2_with fail
  refine (clonep_any ⟨g, 0, none⟩ 1 1 [z] w HZ.out (by decide)).mono ?_
  rintro e w1 ⟨A1, c1, rfl, ho, hb⟩
  have hbx : Below w1.heap.size w1 (w1.alloc (.cells #[.slice A1 1 c1] 46)) := (Below.refl _ _).alloc (Nat.le_refl _) _
  have HO := Lib.hid ((ho.later hbx).rsl plc_len)
  have HB := Lib.hid (stepB hb hbx)
  have HK : Hid (Blk (w1.alloc (.cells #[.slice A1 1 c1] 46)) w1.heap.size #[.slice A1 1 c1] 46) := Blk.new _ _ _
  clear ho hb hbx
  go_wp2_with fail
  refine (sort_1 A1 c1 _ _).mono ?_
  rintro e w2 ⟨rfl, rfl⟩
  go_wp2_with fail
  refine (compact_1 A1 c1 _).mono ?_
  rintro e w2 ⟨rfl, rfl⟩
  have HW := Lib.hid (owned44 A n c Rs (w1.alloc (.cells #[.slice A1 1 c1] 46)) A1 c1 [z] w1.heap.size (srt_one z) HO.out (by simp) HK.out HCR.out (HS.out.later HB.out) hn HN.out)
  go_wp2_with fail
  refine HW.out.mono ?_
  rintro e w3 ⟨A3, c3, n3, Rs3, rfl, h1, h2, h3⟩
  have HH : Hid (OwdEnd (woL [z] (Rs.map Prod.fst)) w (.returned (.slice A3 n3 c3)) w3) := ⟨A3, c3, n3, Rs3, rfl, h1.base HB.out.size, h2, stepB HB.out h3⟩
  clear h1 h2 h3
  go_wp2
  go_ret
  exact HH.out
end Go.Proofs.Ytgbcncfgpdlmiaa
