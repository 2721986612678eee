/-
The examples, the bounds, what may not come, what is not legal, and what is asked of nil.
-/
import Derived.Test.YtgbcncfgpdlmiaaEN
import Derived.Test.YtgbcncfgpdlmiaaRows
import Derived.Test.YtgbcncfgpdlmiaaLF
namespace Go.Proofs.Ytgbcncfgpdlmiaa.eventNames
open Go.ChangeShapes Go.WideShapes Go.ChangeAt Go.RowKit Go.Maps
set_option linter.unusedVariables false
set_option linter.unusedSimpArgs false

theorem own : ownKnob Try.prog.godebug = none := by kernel_rfl
theorem laidOut : laidOutB Try.prog = true := by kernel_rfl

theorem works_x (w : World) : Calls Try.prog 11 #[] w (Bl true w) := works_any w
theorem legalL_bad {tasks : Int} {L : List Ev} (h : ¬ (1 ≤ tasks ∧ tasks ≤ 6)) : legalL tasks L = false := by
  unfold legalL
  rw [decide_eq_false h]; rfl
theorem built40k (k : Int) : Try.prog.built 40 [(0, .int .u8 k)] = some #[.int .u8 k, .int .i64 0, .int .i64 0, .int .i64 0, .bool false, .string { data := #[] }, .slice none 0 0] := by kernel_rfl
theorem built45b (b : Int) : Try.prog.built 45 [(1, .int .i64 b)] = some #[.int .i64 0, .int .i64 b] := by kernel_rfl
theorem built45c (a : Int) : Try.prog.built 45 [(0, .int .i64 a)] = some #[.int .i64 a, .int .i64 0] := by kernel_rfl
theorem mkR_rg (L : List Eb) (h : ∀ x ∈ L, -9223372036854775808 ≤ x.2.2.1 ∧ x.2.2.1 ≤ 9223372036854775807) : ∀ r ∈ L.map mkR, -9223372036854775808 ≤ r.1.2.2.1 ∧ r.1.2.2.1 ≤ 9223372036854775807 := fun r hr => by
  obtain ⟨x, hx, rfl⟩ := List.mem_map.1 hr
  exact h x hx
theorem _root_.Go.Proofs.Ytgbcncfgpdlmiaa.WoEnd.is {P : List Pl} {L : List Ev} {w w' : World} {e : Ending} {E0 : List Pl} (h : WoEnd P L w e w') (h1 : Ris E0) (h2 : ∀ x, x ∈ E0 ↔ x ∈ P) : OwdEnd (woL E0 L) w e w' := by
  obtain ⟨E, k1, k2, k3⟩ := h
  obtain rfl := ris_eq k1 h1 (fun x => (k2 x).trans (h2 x).symm)
  exact k3
theorem built40z : Try.prog.built 40 [] = some #[.int .u8 0, .int .i64 0, .int .i64 0, .int .i64 0, .bool false, .string { data := #[] }, .slice none 0 0] := by kernel_rfl
section
variable {w0 W : World} {p : Nat} {L L2 : List Ev} {c t : Int}
theorem r6_of {W' : World} {v : Value} {Rs : List RE} {e : Ending} {wh : Int} {a : An} (h : RcAt W w0.heap.size p 6 v Rs) (hm : Rs.map Prod.fst = L) (hb : Below w0.heap.size w0 W) (hc : addC 6 L wh t = c) (hL : addL 6 L wh t a = L2) (hh : AdEnd w0.heap.size p 6 v Rs wh t a W e W') : e = .returned (.int .i64 c) ∧ R1 w0 6 p L2 W' := by
  obtain ⟨rfl, v', Rs', k1, k2, k3, _⟩ := hh
  rw [hm] at k2 ⊢
  rw [hc]
  exact ⟨rfl, v', Rs', k1, k2.trans hL, FrR.bel2 h hb k3⟩
theorem r6_inv (h : R1 w0 6 p L W) (hl : L.length ≤ 100000) (hc : addC 6 L 1 t = c) (hL : addL 6 L 1 t an0 = L2) : Calls Try.prog 12 #[.pointer (some ⟨p, 0, none⟩), .int .i64 t] W fun e W' => e = .returned (.int .i64 c) ∧ R1 w0 6 p L2 W' := by
  obtain ⟨v, Rs, h1, h2, h3⟩ := h
  exact (invoke_any _ p 6 v Rs W h1 h3.size (by decide) t (kr_len (v := v) h2 hl)).mono (fun e W' hh => r6_of h1 h2 h3 hc hL hh)
theorem r6_mark (h : R1 w0 6 p L W) (hl : L.length ≤ 100000) (hc : addC 6 L 2 t = c) (hL : addL 6 L 2 t an0 = L2) : Calls Try.prog 13 #[.pointer (some ⟨p, 0, none⟩), .int .i64 t] W fun e W' => e = .returned (.int .i64 c) ∧ R1 w0 6 p L2 W' := by
  obtain ⟨v, Rs, h1, h2, h3⟩ := h
  exact (mark_any _ p 6 v Rs W h1 h3.size (by decide) t (kr_len (v := v) h2 hl)).mono (fun e W' hh => r6_of h1 h2 h3 hc hL hh)
theorem r6_ret (h : R1 w0 6 p L W) (hl : L.length ≤ 100000) (hc : addC 6 L 3 t = c) (hL : addL 6 L 3 t an0 = L2) : Calls Try.prog 14 #[.pointer (some ⟨p, 0, none⟩), .int .i64 t, .agg #[.int .i64 0, .bool false, .string { data := #[] }, .slice none 0 0]] W fun e W' => e = .returned (.int .i64 c) ∧ R1 w0 6 p L2 W' := by
  obtain ⟨v, Rs, h1, h2, h3⟩ := h
  exact (return_any _ p 6 v Rs W h1 h3.size (by decide) t 0 false { data := #[] } [] none 0 0 (fun W _ => PO.empty W) (by decide) (kr_len (v := v) h2 hl)).mono (fun e W' hh => r6_of h1 h2 h3 hc hL hh)
theorem r6_under {r : Int × Bool × Bool} (h : R1 w0 6 p L W) (hl : L.length ≤ 100000) (hr : undV 6 L t = r) : Calls Try.prog 10 #[.pointer (some ⟨p, 0, none⟩), .int .i64 t] W fun e W' => e = .returned (.tuple #[.int .i64 r.1, .bool r.2.1, .bool r.2.2]) ∧ R1 w0 6 p L W' := by
  obtain ⟨v, Rs, h1, h2, h3⟩ := h
  refine (under_any _ p 6 v Rs W h1 (by decide) (kr_len (v := v) h2 hl) t).mono (fun e W' hh => ?_)
  obtain ⟨rfl, hb⟩ := hh
  rw [h2, hr]
  exact ⟨rfl, v, Rs, h1.later hb, h2, stepB h3 hb⟩
end
set_option maxRecDepth 100000 in
set_option maxHeartbeats 16000000 in
theorem walk (w : World) : Calls Try.prog 3 #[] w (Bl true w) := by
  go_enter Try.func3, Try.ntmps3
  go_wp2_with fail
  refine (under_nil 0 _).mono ?_
  rintro e w1 ⟨rfl, hb⟩
  have HB1 := Lib.hid (hb)
  clear hb
  go_wp2_with fail
  refine (works_x _).mono ?_
  rintro e w2 ⟨rfl, hb⟩
  have HB2 := Lib.hid (stepB HB1.out hb)
  clear hb
  go_wp2_with fail
  refine (inv_nil 0 _).mono ?_
  rintro e w3 ⟨rfl, hb⟩
  have HB3 := Lib.hid (stepB HB2.out hb)
  clear hb
  go_wp2_with fail
  refine (mark_nil 0 _).mono ?_
  rintro e w4 ⟨rfl, hb⟩
  have HB4 := Lib.hid (stepB HB3.out hb)
  clear hb
  go_wp2_with (first
    | (refine wpl_build rfl 31 _ rfl _ built31 ?_)
    | fail)
  refine (ret_nil 0 0 false _ none 0 0 _).mono ?_
  rintro e w5 ⟨rfl, hb⟩
  have HB5 := Lib.hid (stepB HB4.out hb)
  clear hb
  go_wp2_with fail
  refine (events_nil _).mono ?_
  rintro e w6 ⟨rfl, hb⟩
  have HB6 := Lib.hid (stepB HB5.out hb)
  clear hb
  go_wp2_with fail
  refine (copy_nil _).mono ?_
  rintro e w7 ⟨rfl, hb⟩
  have HB7 := Lib.hid (stepB HB6.out hb)
  clear hb
  obtain ⟨g, hgg⟩ : ∃ g, w7.heap.size = g := ⟨_, rfl⟩
  have hbx : Below w7.heap.size w7 (w7.alloc (.cells #[.int .i64 0, .int .i64 (-1), .int .i64 7] 3)) := (Below.refl _ _).alloc (Nat.le_refl _) _
  have HN0 : Hid (Blk (w7.alloc (.cells #[.int .i64 0, .int .i64 (-1), .int .i64 7] 3)) g #[.int .i64 0, .int .i64 (-1), .int .i64 7] 3) := Blk.new2 _ _ _ hgg
  have HBX := Lib.hid (stepB HB7.out hbx)
  clear hbx
  go_wp2
  clear hgg
  go_loopw [75] (fun i W => ∃ k : Nat, k ≤ 3 ∧ i = .int .i64 k ∧ Blk W g #[.int .i64 0, .int .i64 (-1), .int .i64 7] 3 ∧ Below w.heap.size w W) (fun i _ => 3 - (intOf i).toNat)
  case atStart => exact ⟨0, by decide, rfl, HN0.out, HBX.out⟩
  case round =>
    obtain ⟨k, hk, rfl, hb0, hb1⟩ := hrel
    have HN1 := Lib.hid hb0
    have HBW := Lib.hid hb1
    clear hb0 hb1 HN0 HBX
    by_cases hlt : k < 3
    · have d1 : decide ((k : Int) < 3) = true := decide_eq_true (by omega)
      have wk : IntKind.i64.wrap ((k : Int) + 1) = (k : Int) + 1 := IntWalk.i64_in _ (by omega)
      have i5 := idx35 g 3 3 k (k : Int) rfl hlt
      obtain ⟨x, hx, hbad⟩ : ∃ x : Int, (#[Value.int .i64 0, .int .i64 (-1), .int .i64 7] : Array Value)[k]? = some (.int .i64 x) ∧ ¬ (1 ≤ x ∧ x ≤ 6) := by
        match k, hlt with
        | 0, _ => exact ⟨0, rfl, by decide⟩
        | 1, _ => exact ⟨-1, rfl, by decide⟩
        | 2, _ => exact ⟨7, rfl, by decide⟩
      have x0 := HN1.out.cell k
      rw [hx] at x0
      have HLG := Lib.hid (legal_any x none 0 0 [] wr ⟨RSl.nil wr none, fun r hr => (nomatch hr)⟩ (fun r hr => (nomatch hr)) (by decide))
      rw [legalL_bad hbad] at HLG
      have HBAD := Lib.hid hbad
      clear hbad hx
      go_wp2_with fail
      refine (new_no x wr HBAD.out).mono ?_
      rintro e w9 ⟨rfl, rfl⟩
      go_wp2_with fail
      refine HLG.out.mono ?_
      rintro e w9 ⟨rfl, hb⟩
      have HN2 := Lib.hid (HN1.out.later hb)
      have HB2 := Lib.hid (stepB HBW.out hb)
      clear hb HN1 HBW HLG HBAD x0 i5
      go_wp2
      go_roundw
      case rel => exact ⟨k + 1, by omega, by go_num, HN2.out, HB2.out⟩
      case measure => simp [intOf]; omega
    · obtain rfl : k = 3 := by omega
      clear HN1 hlt hk
      go_wp2_with fail
      refine (new_any 6 wr (by decide) (by decide)).mono ?_
      rintro e v0 ⟨p, rfl, hr, hb⟩
      have HK0 : Hid (R1 w 6 p [] v0) := ⟨_, _, hr.base HBW.out.size, rfl, stepB HBW.out hb⟩
      clear hr hb HBW
      go_wp2_with (first
        | (refine wpl_build rfl 31 _ rfl _ built31 ?_)
        | fail)
      refine (r6_mark (L := []) (L2 := []) (c := 7) (t := 5) HK0.out (by decide) (by decide +kernel) (by decide +kernel)).mono ?_
      rintro e v1 ⟨rfl, hk⟩
      have HK1 := Lib.hid hk
      clear hk HK0
      go_wp2_with (first
        | (refine wpl_build rfl 31 _ rfl _ built31 ?_)
        | fail)
      refine (r6_ret (L := []) (L2 := []) (c := 7) (t := 5) HK1.out (by decide) (by decide +kernel) (by decide +kernel)).mono ?_
      rintro e v2 ⟨rfl, hk⟩
      have HK2 := Lib.hid hk
      clear hk HK1
      go_wp2_with (first
        | (refine wpl_build rfl 31 _ rfl _ built31 ?_)
        | fail)
      refine (r6_mark (L := []) (L2 := []) (c := 1) (t := (-1)) HK2.out (by decide) (by decide +kernel) (by decide +kernel)).mono ?_
      rintro e v3 ⟨rfl, hk⟩
      have HK3 := Lib.hid hk
      clear hk HK2
      go_wp2_with (first
        | (refine wpl_build rfl 31 _ rfl _ built31 ?_)
        | fail)
      refine (r6_ret (L := []) (L2 := []) (c := 1) (t := 6) HK3.out (by decide) (by decide +kernel) (by decide +kernel)).mono ?_
      rintro e v4 ⟨rfl, hk⟩
      have HK4 := Lib.hid hk
      clear hk HK3
      go_wp2_with (first
        | (refine wpl_build rfl 31 _ rfl _ built31 ?_)
        | fail)
      refine (r6_inv (L := []) (L2 := [(1, 5, 0, an0)]) (c := 0) (t := 5) HK4.out (by decide) (by decide +kernel) (by decide +kernel)).mono ?_
      rintro e v5 ⟨rfl, hk⟩
      have HK5 := Lib.hid hk
      clear hk HK4
      go_wp2_with (first
        | (refine wpl_build rfl 31 _ rfl _ built31 ?_)
        | fail)
      refine (r6_mark (L := [(1, 5, 0, an0)]) (L2 := [(1, 5, 0, an0), (2, 5, 0, an0)]) (c := 0) (t := 5) HK5.out (by decide) (by decide +kernel) (by decide +kernel)).mono ?_
      rintro e v6 ⟨rfl, hk⟩
      have HK6 := Lib.hid hk
      clear hk HK5
      go_wp2_with (first
        | (refine wpl_build rfl 31 _ rfl _ built31 ?_)
        | fail)
      refine (r6_mark (L := [(1, 5, 0, an0), (2, 5, 0, an0)]) (L2 := [(1, 5, 0, an0), (2, 5, 0, an0)]) (c := 7) (t := 5) HK6.out (by decide) (by decide +kernel) (by decide +kernel)).mono ?_
      rintro e v7 ⟨rfl, hk⟩
      have HK7 := Lib.hid hk
      clear hk HK6
      go_wp2_with (first
        | (refine wpl_build rfl 31 _ rfl _ built31 ?_)
        | fail)
      refine (r6_inv (L := [(1, 5, 0, an0), (2, 5, 0, an0)]) (L2 := [(1, 5, 0, an0), (2, 5, 0, an0)]) (c := 7) (t := 5) HK7.out (by decide) (by decide +kernel) (by decide +kernel)).mono ?_
      rintro e v8 ⟨rfl, hk⟩
      have HK8 := Lib.hid hk
      clear hk HK7
      go_wp2_with (first
        | (refine wpl_build rfl 31 _ rfl _ built31 ?_)
        | fail)
      refine (r6_under (L := [(1, 5, 0, an0), (2, 5, 0, an0)]) (t := 5) (r := (0, true, true)) HK8.out (by decide) (by decide +kernel)).mono ?_
      rintro e v9 ⟨rfl, hk⟩
      have HK9 := Lib.hid hk
      clear hk HK8
      go_wp2_with (first
        | (refine wpl_build rfl 31 _ rfl _ built31 ?_)
        | fail)
      refine (r6_under (L := [(1, 5, 0, an0), (2, 5, 0, an0)]) (t := 0) (r := (0, false, false)) HK9.out (by decide) (by decide +kernel)).mono ?_
      rintro e v10 ⟨rfl, hk⟩
      have HK10 := Lib.hid hk
      clear hk HK9
      go_wp2_with (first
        | (refine wpl_build rfl 31 _ rfl _ built31 ?_)
        | fail)
      refine (r6_under (L := [(1, 5, 0, an0), (2, 5, 0, an0)]) (t := 9) (r := (0, false, false)) HK10.out (by decide) (by decide +kernel)).mono ?_
      rintro e v11 ⟨rfl, hk⟩
      have HK11 := Lib.hid hk
      clear hk HK10
      have HB0 := Lib.hid HK11.out.below
      clear HK11
      generalize v11 = u at *
      go_upto_region 27 with (first
        | (refine wpl_build rfl 40 _ rfl _ (built40k 1) ?_)
        | (refine wpl_build rfl 40 _ rfl _ (built40k 2) ?_)
        | (refine wpl_build rfl 40 _ rfl _ (built40k 3) ?_)
        | fail)
      go_wp2_with (first
        | (refine wpl_build rfl 40 _ rfl _ built40z ?_)
        | (refine wpl_build rfl 40 _ rfl _ (built40k 4) ?_)
        | fail)
      go_loopw [230] (fun i W => ∃ k : Nat, k ≤ 13 ∧ i = .int .i64 k ∧ Fa u.heap.size W ∧ Below w.heap.size w W) (fun i _ => 13 - (intOf i).toNat)
      case atStart => exact ⟨0, by decide, rfl, (fa_chain u).1, stepB HB0.out (fa_chain u).2⟩
      case round =>
        obtain ⟨k, hk, rfl, hf, hb⟩ := hrel
        have HF := Lib.hid hf
        have HB := Lib.hid hb
        clear hf hb HB0
        by_cases hlt : k < 13
        · have d1 : decide ((k : Int) < 13) = true := decide_eq_true (by omega)
          have wk : IntKind.i64.wrap ((k : Int) + 1) = (k : Int) + 1 := IntWalk.i64_in _ (by omega)
          have i5 := idx41 (u.heap.size + 1 + 1 + 1 + 1 + 1 + 1 + 1 + 1 + 1 + 1 + 1 + 1 + 1 + 1 + 1 + 1 + 1 + 1 + 1) 13 13 k (k : Int) rfl hlt
          obtain ⟨bk, L, hx, hev, hlg, hl5⟩ := hist HF.out k hlt
          have x0 : wr.cell? ⟨u.heap.size + 1 + 1 + 1 + 1 + 1 + 1 + 1 + 1 + 1 + 1 + 1 + 1 + 1 + 1 + 1 + 1 + 1 + 1 + 1, k, none⟩ = some (.slice (some ⟨bk, 0, none⟩) L.length L.length) := hx
          have HLG := Lib.hid (lg_any 1 false hev (by omega) hlg)
          clear hx hev hlg hl5
          generalize L.length = n at *
          go_wp2_with fail
          refine HLG.out.mono ?_
          rintro e w9 ⟨rfl, hb⟩
          have HF9 := Lib.hid (HF.out.later hb)
          have HB9 := Lib.hid (stepB HB.out hb)
          clear hb HLG HF HB x0 i5
          go_wp2
          go_roundw
          case rel => exact ⟨k + 1, by omega, by go_num, HF9.out, HB9.out⟩
          case measure => simp [intOf]; omega
        · obtain rfl : k = 13 := by omega
          clear hlt hk
          have x0_0 : (wr).cell? ⟨u.heap.size, 0, none⟩ = some (.int .u8 1) := (fa_ev (x := (1, 0, 0, false)) HF.out 0 rfl).1.1
          have x0_1 : (wr).cell? ⟨u.heap.size, 1, none⟩ = some (.int .i64 0) := (fa_ev (x := (1, 0, 0, false)) HF.out 0 rfl).1.2.1
          have x0_2 : (wr).cell? ⟨u.heap.size, 2, none⟩ = some (.int .i64 0) := (fa_ev (x := (1, 0, 0, false)) HF.out 0 rfl).1.2.2.1
          have x0_3 : (wr).cell? ⟨u.heap.size, 3, none⟩ = some (.int .i64 0) := (fa_ev (x := (1, 0, 0, false)) HF.out 0 rfl).1.2.2.2
          have x0_4 : (wr).cell? ⟨u.heap.size, 4, none⟩ = some (.bool false) := (fa_ev (x := (1, 0, 0, false)) HF.out 0 rfl).2.1
          have x0_5 : (wr).cell? ⟨u.heap.size, 5, none⟩ = some (.string { data := #[] }) := (fa_ev (x := (1, 0, 0, false)) HF.out 0 rfl).2.2.1
          have x0_6 : (wr).cell? ⟨u.heap.size, 6, none⟩ = some (.slice none 0 0) := (fa_ev (x := (1, 0, 0, false)) HF.out 0 rfl).2.2.2
          have x1_0 : (wr).cell? ⟨u.heap.size + 1, 0, none⟩ = some (.int .u8 2) := (fa_ev (x := (2, 0, 0, false)) HF.out 1 rfl).1.1
          have x1_1 : (wr).cell? ⟨u.heap.size + 1, 1, none⟩ = some (.int .i64 0) := (fa_ev (x := (2, 0, 0, false)) HF.out 1 rfl).1.2.1
          have x1_2 : (wr).cell? ⟨u.heap.size + 1, 2, none⟩ = some (.int .i64 0) := (fa_ev (x := (2, 0, 0, false)) HF.out 1 rfl).1.2.2.1
          have x1_3 : (wr).cell? ⟨u.heap.size + 1, 3, none⟩ = some (.int .i64 0) := (fa_ev (x := (2, 0, 0, false)) HF.out 1 rfl).1.2.2.2
          have x1_4 : (wr).cell? ⟨u.heap.size + 1, 4, none⟩ = some (.bool false) := (fa_ev (x := (2, 0, 0, false)) HF.out 1 rfl).2.1
          have x1_5 : (wr).cell? ⟨u.heap.size + 1, 5, none⟩ = some (.string { data := #[] }) := (fa_ev (x := (2, 0, 0, false)) HF.out 1 rfl).2.2.1
          have x1_6 : (wr).cell? ⟨u.heap.size + 1, 6, none⟩ = some (.slice none 0 0) := (fa_ev (x := (2, 0, 0, false)) HF.out 1 rfl).2.2.2
          have x2_0 : (wr).cell? ⟨u.heap.size + 1 + 1, 0, none⟩ = some (.int .u8 3) := (fa_ev (x := (3, 0, 0, false)) HF.out 2 rfl).1.1
          have x2_1 : (wr).cell? ⟨u.heap.size + 1 + 1, 1, none⟩ = some (.int .i64 0) := (fa_ev (x := (3, 0, 0, false)) HF.out 2 rfl).1.2.1
          have x2_2 : (wr).cell? ⟨u.heap.size + 1 + 1, 2, none⟩ = some (.int .i64 0) := (fa_ev (x := (3, 0, 0, false)) HF.out 2 rfl).1.2.2.1
          have x2_3 : (wr).cell? ⟨u.heap.size + 1 + 1, 3, none⟩ = some (.int .i64 0) := (fa_ev (x := (3, 0, 0, false)) HF.out 2 rfl).1.2.2.2
          have x2_4 : (wr).cell? ⟨u.heap.size + 1 + 1, 4, none⟩ = some (.bool false) := (fa_ev (x := (3, 0, 0, false)) HF.out 2 rfl).2.1
          have x2_5 : (wr).cell? ⟨u.heap.size + 1 + 1, 5, none⟩ = some (.string { data := #[] }) := (fa_ev (x := (3, 0, 0, false)) HF.out 2 rfl).2.2.1
          have x2_6 : (wr).cell? ⟨u.heap.size + 1 + 1, 6, none⟩ = some (.slice none 0 0) := (fa_ev (x := (3, 0, 0, false)) HF.out 2 rfl).2.2.2
          have x3_0 : (wr).cell? ⟨u.heap.size + 1 + 1 + 1, 0, none⟩ = some (.int .u8 1) := (fa_ev (x := (1, 0, 1, false)) HF.out 3 rfl).1.1
          have x3_1 : (wr).cell? ⟨u.heap.size + 1 + 1 + 1, 1, none⟩ = some (.int .i64 0) := (fa_ev (x := (1, 0, 1, false)) HF.out 3 rfl).1.2.1
          have x3_2 : (wr).cell? ⟨u.heap.size + 1 + 1 + 1, 2, none⟩ = some (.int .i64 1) := (fa_ev (x := (1, 0, 1, false)) HF.out 3 rfl).1.2.2.1
          have x3_3 : (wr).cell? ⟨u.heap.size + 1 + 1 + 1, 3, none⟩ = some (.int .i64 0) := (fa_ev (x := (1, 0, 1, false)) HF.out 3 rfl).1.2.2.2
          have x3_4 : (wr).cell? ⟨u.heap.size + 1 + 1 + 1, 4, none⟩ = some (.bool false) := (fa_ev (x := (1, 0, 1, false)) HF.out 3 rfl).2.1
          have x3_5 : (wr).cell? ⟨u.heap.size + 1 + 1 + 1, 5, none⟩ = some (.string { data := #[] }) := (fa_ev (x := (1, 0, 1, false)) HF.out 3 rfl).2.2.1
          have x3_6 : (wr).cell? ⟨u.heap.size + 1 + 1 + 1, 6, none⟩ = some (.slice none 0 0) := (fa_ev (x := (1, 0, 1, false)) HF.out 3 rfl).2.2.2
          go_wp2_with fail
          refine (lg_any 1 (L := [(1, 0, 0, false), (2, 0, 0, false), (3, 0, 0, false), (1, 0, 1, false)]) true (evs_new wr [(1, 0, 0, false), (2, 0, 0, false), (3, 0, 0, false), (1, 0, 1, false)]) (by decide) (by decide +kernel)).mono ?_
          rintro e z1 ⟨rfl, hb⟩
          have HF1 : Hid (Fa u.heap.size z1) := HF.out.later (stepB ((Below.refl _ wr).alloc (Nat.le_refl _) (evs [(1, 0, 0, false), (2, 0, 0, false), (3, 0, 0, false), (1, 0, 1, false)])) hb)
          have HB1 := Lib.hid (stepB HB.out (stepB ((Below.refl _ wr).alloc (Nat.le_refl _) (evs [(1, 0, 0, false), (2, 0, 0, false), (3, 0, 0, false), (1, 0, 1, false)])) hb))
          clear hb HF HB
          clear x0_0 x0_1 x0_2 x0_3 x0_4 x0_5 x0_6 x1_0 x1_1 x1_2 x1_3 x1_4 x1_5 x1_6 x2_0 x2_1 x2_2 x2_3 x2_4 x2_5 x2_6 x3_0 x3_1 x3_2 x3_3 x3_4 x3_5 x3_6
          have x5_0 : (z1).cell? ⟨u.heap.size + 1 + 1 + 1 + 1 + 1, 0, none⟩ = some (.int .u8 1) := (fa_ev (x := (1, 1, 0, false)) HF1.out 5 rfl).1.1
          have x5_1 : (z1).cell? ⟨u.heap.size + 1 + 1 + 1 + 1 + 1, 1, none⟩ = some (.int .i64 1) := (fa_ev (x := (1, 1, 0, false)) HF1.out 5 rfl).1.2.1
          have x5_2 : (z1).cell? ⟨u.heap.size + 1 + 1 + 1 + 1 + 1, 2, none⟩ = some (.int .i64 0) := (fa_ev (x := (1, 1, 0, false)) HF1.out 5 rfl).1.2.2.1
          have x5_3 : (z1).cell? ⟨u.heap.size + 1 + 1 + 1 + 1 + 1, 3, none⟩ = some (.int .i64 0) := (fa_ev (x := (1, 1, 0, false)) HF1.out 5 rfl).1.2.2.2
          have x5_4 : (z1).cell? ⟨u.heap.size + 1 + 1 + 1 + 1 + 1, 4, none⟩ = some (.bool false) := (fa_ev (x := (1, 1, 0, false)) HF1.out 5 rfl).2.1
          have x5_5 : (z1).cell? ⟨u.heap.size + 1 + 1 + 1 + 1 + 1, 5, none⟩ = some (.string { data := #[] }) := (fa_ev (x := (1, 1, 0, false)) HF1.out 5 rfl).2.2.1
          have x5_6 : (z1).cell? ⟨u.heap.size + 1 + 1 + 1 + 1 + 1, 6, none⟩ = some (.slice none 0 0) := (fa_ev (x := (1, 1, 0, false)) HF1.out 5 rfl).2.2.2
          have x0_0 : (z1).cell? ⟨u.heap.size, 0, none⟩ = some (.int .u8 1) := (fa_ev (x := (1, 0, 0, false)) HF1.out 0 rfl).1.1
          have x0_1 : (z1).cell? ⟨u.heap.size, 1, none⟩ = some (.int .i64 0) := (fa_ev (x := (1, 0, 0, false)) HF1.out 0 rfl).1.2.1
          have x0_2 : (z1).cell? ⟨u.heap.size, 2, none⟩ = some (.int .i64 0) := (fa_ev (x := (1, 0, 0, false)) HF1.out 0 rfl).1.2.2.1
          have x0_3 : (z1).cell? ⟨u.heap.size, 3, none⟩ = some (.int .i64 0) := (fa_ev (x := (1, 0, 0, false)) HF1.out 0 rfl).1.2.2.2
          have x0_4 : (z1).cell? ⟨u.heap.size, 4, none⟩ = some (.bool false) := (fa_ev (x := (1, 0, 0, false)) HF1.out 0 rfl).2.1
          have x0_5 : (z1).cell? ⟨u.heap.size, 5, none⟩ = some (.string { data := #[] }) := (fa_ev (x := (1, 0, 0, false)) HF1.out 0 rfl).2.2.1
          have x0_6 : (z1).cell? ⟨u.heap.size, 6, none⟩ = some (.slice none 0 0) := (fa_ev (x := (1, 0, 0, false)) HF1.out 0 rfl).2.2.2
          go_wp2_with fail
          refine (lg_any 2 (L := [(1, 1, 0, false), (1, 0, 0, false)]) true (evs_new z1 [(1, 1, 0, false), (1, 0, 0, false)]) (by decide) (by decide +kernel)).mono ?_
          rintro e z2 ⟨rfl, hb⟩
          have HF2 : Hid (Fa u.heap.size z2) := HF1.out.later (stepB ((Below.refl _ z1).alloc (Nat.le_refl _) (evs [(1, 1, 0, false), (1, 0, 0, false)])) hb)
          have HB2 := Lib.hid (stepB HB1.out (stepB ((Below.refl _ z1).alloc (Nat.le_refl _) (evs [(1, 1, 0, false), (1, 0, 0, false)])) hb))
          clear hb HF1 HB1
          clear x5_0 x5_1 x5_2 x5_3 x5_4 x5_5 x5_6 x0_0 x0_1 x0_2 x0_3 x0_4 x0_5 x0_6
          go_wp2_with fail
          refine (legal_any 1 none 0 0 [] z2 ⟨RSl.nil z2 none, fun r hr => (nomatch hr)⟩ (fun r hr => (nomatch hr)) (by decide)).mono ?_
          rw [show legalL 1 (([] : List RE).map Prod.fst) = true from by decide +kernel]
          rintro e z3 ⟨rfl, hb⟩
          have HF3 := Lib.hid (HF2.out.later hb)
          have HB3 := Lib.hid (stepB HB2.out hb)
          clear hb HF2 HB2
          have x1_0 : (z3).cell? ⟨u.heap.size + 1, 0, none⟩ = some (.int .u8 2) := (fa_ev (x := (2, 0, 0, false)) HF3.out 1 rfl).1.1
          have x1_1 : (z3).cell? ⟨u.heap.size + 1, 1, none⟩ = some (.int .i64 0) := (fa_ev (x := (2, 0, 0, false)) HF3.out 1 rfl).1.2.1
          have x1_2 : (z3).cell? ⟨u.heap.size + 1, 2, none⟩ = some (.int .i64 0) := (fa_ev (x := (2, 0, 0, false)) HF3.out 1 rfl).1.2.2.1
          have x1_3 : (z3).cell? ⟨u.heap.size + 1, 3, none⟩ = some (.int .i64 0) := (fa_ev (x := (2, 0, 0, false)) HF3.out 1 rfl).1.2.2.2
          have x1_4 : (z3).cell? ⟨u.heap.size + 1, 4, none⟩ = some (.bool false) := (fa_ev (x := (2, 0, 0, false)) HF3.out 1 rfl).2.1
          have x1_5 : (z3).cell? ⟨u.heap.size + 1, 5, none⟩ = some (.string { data := #[] }) := (fa_ev (x := (2, 0, 0, false)) HF3.out 1 rfl).2.2.1
          have x1_6 : (z3).cell? ⟨u.heap.size + 1, 6, none⟩ = some (.slice none 0 0) := (fa_ev (x := (2, 0, 0, false)) HF3.out 1 rfl).2.2.2
          have HF3b : Hid (Fa u.heap.size (z3.alloc (.cells #[.int .u8 2, .int .i64 0, .int .i64 0, .int .i64 0, .bool false, .string { data := #[] }, .slice none 0 0] 40))) := HF3.out.later ((Below.refl _ z3).alloc (Nat.le_refl _) (.cells #[.int .u8 2, .int .i64 0, .int .i64 0, .int .i64 0, .bool false, .string { data := #[] }, .slice none 0 0] 40))
          have x4_0 : (z3.alloc (.cells #[.int .u8 2, .int .i64 0, .int .i64 0, .int .i64 0, .bool false, .string { data := #[] }, .slice none 0 0] 40)).cell? ⟨u.heap.size + 1 + 1 + 1 + 1, 0, none⟩ = some (.int .u8 2) := (fa_ev (x := (2, 0, 0, true)) HF3b.out 4 rfl).1.1
          have x4_1 : (z3.alloc (.cells #[.int .u8 2, .int .i64 0, .int .i64 0, .int .i64 0, .bool false, .string { data := #[] }, .slice none 0 0] 40)).cell? ⟨u.heap.size + 1 + 1 + 1 + 1, 1, none⟩ = some (.int .i64 0) := (fa_ev (x := (2, 0, 0, true)) HF3b.out 4 rfl).1.2.1
          have x4_2 : (z3.alloc (.cells #[.int .u8 2, .int .i64 0, .int .i64 0, .int .i64 0, .bool false, .string { data := #[] }, .slice none 0 0] 40)).cell? ⟨u.heap.size + 1 + 1 + 1 + 1, 2, none⟩ = some (.int .i64 0) := (fa_ev (x := (2, 0, 0, true)) HF3b.out 4 rfl).1.2.2.1
          have x4_3 : (z3.alloc (.cells #[.int .u8 2, .int .i64 0, .int .i64 0, .int .i64 0, .bool false, .string { data := #[] }, .slice none 0 0] 40)).cell? ⟨u.heap.size + 1 + 1 + 1 + 1, 3, none⟩ = some (.int .i64 0) := (fa_ev (x := (2, 0, 0, true)) HF3b.out 4 rfl).1.2.2.2
          have x4_4 : (z3.alloc (.cells #[.int .u8 2, .int .i64 0, .int .i64 0, .int .i64 0, .bool false, .string { data := #[] }, .slice none 0 0] 40)).cell? ⟨u.heap.size + 1 + 1 + 1 + 1, 4, none⟩ = some (.bool true) := (fa_ev (x := (2, 0, 0, true)) HF3b.out 4 rfl).2.1
          have x4_5 : (z3.alloc (.cells #[.int .u8 2, .int .i64 0, .int .i64 0, .int .i64 0, .bool false, .string { data := #[] }, .slice none 0 0] 40)).cell? ⟨u.heap.size + 1 + 1 + 1 + 1, 5, none⟩ = some (.string { data := #[] }) := (fa_ev (x := (2, 0, 0, true)) HF3b.out 4 rfl).2.2.1
          have x4_6 : (z3.alloc (.cells #[.int .u8 2, .int .i64 0, .int .i64 0, .int .i64 0, .bool false, .string { data := #[] }, .slice none 0 0] 40)).cell? ⟨u.heap.size + 1 + 1 + 1 + 1, 6, none⟩ = some (.slice none 0 0) := (fa_ev (x := (2, 0, 0, true)) HF3b.out 4 rfl).2.2.2
          go_wp2_with fail
          refine (same_any (some ⟨z3.heap.size, 0, none⟩) (some ⟨z3.heap.size + 1, 0, none⟩) 1 1 1 1 ([(2, 0, 0, false)].map mkR) ([(2, 0, 0, true)].map mkR) ((z3.alloc (evs [(2, 0, 0, false)])).alloc (evs [(2, 0, 0, true)])) ((evs_new z3 [(2, 0, 0, false)]).later ((Below.refl _ (z3.alloc (evs [(2, 0, 0, false)]))).alloc (Nat.le_refl _) (evs [(2, 0, 0, true)]))) (evs_of (Blk.new2 _ _ 40 (by simp))) (mkR_np _) (by decide)).mono ?_
          rw [mkR_fst, mkR_fst, show decide ([(2, 0, 0, false)].map evb = [(2, 0, 0, true)].map evb) = false from by decide +kernel]
          rintro e z4 ⟨rfl, hb⟩
          have HF4 := Lib.hid ((HF3b.out.later ((Below.refl _ (z3.alloc (evs [(2, 0, 0, false)]))).alloc (Nat.le_refl _) (evs [(2, 0, 0, true)]))).later hb)
          have HB4 := Lib.hid (stepB HB3.out (stepB (stepB ((Below.refl _ z3).alloc (Nat.le_refl _) (evs [(2, 0, 0, false)])) ((Below.refl _ (z3.alloc (evs [(2, 0, 0, false)]))).alloc (Nat.le_refl _) (evs [(2, 0, 0, true)]))) hb))
          clear hb HF3 HF3b HB3
          clear x1_0 x1_1 x1_2 x1_3 x1_4 x1_5 x1_6 x4_0 x4_1 x4_2 x4_3 x4_4 x4_5 x4_6
          have x0_0 : (z4).cell? ⟨u.heap.size, 0, none⟩ = some (.int .u8 1) := (fa_ev (x := (1, 0, 0, false)) HF4.out 0 rfl).1.1
          have x0_1 : (z4).cell? ⟨u.heap.size, 1, none⟩ = some (.int .i64 0) := (fa_ev (x := (1, 0, 0, false)) HF4.out 0 rfl).1.2.1
          have x0_2 : (z4).cell? ⟨u.heap.size, 2, none⟩ = some (.int .i64 0) := (fa_ev (x := (1, 0, 0, false)) HF4.out 0 rfl).1.2.2.1
          have x0_3 : (z4).cell? ⟨u.heap.size, 3, none⟩ = some (.int .i64 0) := (fa_ev (x := (1, 0, 0, false)) HF4.out 0 rfl).1.2.2.2
          have x0_4 : (z4).cell? ⟨u.heap.size, 4, none⟩ = some (.bool false) := (fa_ev (x := (1, 0, 0, false)) HF4.out 0 rfl).2.1
          have x0_5 : (z4).cell? ⟨u.heap.size, 5, none⟩ = some (.string { data := #[] }) := (fa_ev (x := (1, 0, 0, false)) HF4.out 0 rfl).2.2.1
          have x0_6 : (z4).cell? ⟨u.heap.size, 6, none⟩ = some (.slice none 0 0) := (fa_ev (x := (1, 0, 0, false)) HF4.out 0 rfl).2.2.2
          have x1_0 : (z4).cell? ⟨u.heap.size + 1, 0, none⟩ = some (.int .u8 2) := (fa_ev (x := (2, 0, 0, false)) HF4.out 1 rfl).1.1
          have x1_1 : (z4).cell? ⟨u.heap.size + 1, 1, none⟩ = some (.int .i64 0) := (fa_ev (x := (2, 0, 0, false)) HF4.out 1 rfl).1.2.1
          have x1_2 : (z4).cell? ⟨u.heap.size + 1, 2, none⟩ = some (.int .i64 0) := (fa_ev (x := (2, 0, 0, false)) HF4.out 1 rfl).1.2.2.1
          have x1_3 : (z4).cell? ⟨u.heap.size + 1, 3, none⟩ = some (.int .i64 0) := (fa_ev (x := (2, 0, 0, false)) HF4.out 1 rfl).1.2.2.2
          have x1_4 : (z4).cell? ⟨u.heap.size + 1, 4, none⟩ = some (.bool false) := (fa_ev (x := (2, 0, 0, false)) HF4.out 1 rfl).2.1
          have x1_5 : (z4).cell? ⟨u.heap.size + 1, 5, none⟩ = some (.string { data := #[] }) := (fa_ev (x := (2, 0, 0, false)) HF4.out 1 rfl).2.2.1
          have x1_6 : (z4).cell? ⟨u.heap.size + 1, 6, none⟩ = some (.slice none 0 0) := (fa_ev (x := (2, 0, 0, false)) HF4.out 1 rfl).2.2.2
          go_wp2_with (first
            | (refine wpl_build rfl 45 _ rfl _ (built45b 0) ?_)
            | (refine wpl_build rfl 45 _ rfl _ (built45b (-1)) ?_)
            | (refine wpl_build rfl 45 _ rfl _ (built45c 1) ?_)
            | fail)
          refine (without_any (some ⟨z4.heap.size, 0, none⟩) 2 2 ⟨z4.heap.size + 1, 0, none⟩ 2 [(0, 0), (0, 0)] ([(1, 0, 0, false), (2, 0, 0, false)].map mkR) ((z4.alloc (evs [(1, 0, 0, false), (2, 0, 0, false)])).alloc (.cells #[.int .i64 0, .int .i64 0, .int .i64 0, .int .i64 0] 45)) ((evs_new z4 [(1, 0, 0, false), (2, 0, 0, false)]).later ((Below.refl _ (z4.alloc (evs [(1, 0, 0, false), (2, 0, 0, false)]))).alloc (Nat.le_refl _) (.cells #[.int .i64 0, .int .i64 0, .int .i64 0, .int .i64 0] 45))) (by decide) (mkR_np _) (mkR_rg _ (by decide)) (blk_rs plc_len (t := 45) (L := [((0 : Int), (0 : Int)), (0, 0)]) (Blk.new2 _ _ 45 (by simp))) (by decide) (by decide)).mono ?_
          rintro e z5 hwo
          obtain ⟨A5, c5, Rs5, rfl, ho5, hm5, hb⟩ := told_of (n := 0) (by decide +kernel) (hwo.is (E0 := [(0, 0)]) (by unfold Ris; simp) (by intro x; simp))
          have HF5 := Lib.hid (HF4.out.later (stepB (stepB ((Below.refl _ z4).alloc (Nat.le_refl _) (evs [(1, 0, 0, false), (2, 0, 0, false)])) ((Below.refl _ (z4.alloc (evs [(1, 0, 0, false), (2, 0, 0, false)]))).alloc (Nat.le_refl _) (.cells #[.int .i64 0, .int .i64 0, .int .i64 0, .int .i64 0] 45))) hb))
          have HB5 := Lib.hid (stepB HB4.out (stepB (stepB ((Below.refl _ z4).alloc (Nat.le_refl _) (evs [(1, 0, 0, false), (2, 0, 0, false)])) ((Below.refl _ (z4.alloc (evs [(1, 0, 0, false), (2, 0, 0, false)]))).alloc (Nat.le_refl _) (.cells #[.int .i64 0, .int .i64 0, .int .i64 0, .int .i64 0] 45))) hb))
          clear hb hwo HF4 HB4 ho5 hm5
          clear x0_0 x0_1 x0_2 x0_3 x0_4 x0_5 x0_6 x1_0 x1_1 x1_2 x1_3 x1_4 x1_5 x1_6
          have x3_0 : (z5).cell? ⟨u.heap.size + 1 + 1 + 1, 0, none⟩ = some (.int .u8 1) := (fa_ev (x := (1, 0, 1, false)) HF5.out 3 rfl).1.1
          have x3_1 : (z5).cell? ⟨u.heap.size + 1 + 1 + 1, 1, none⟩ = some (.int .i64 0) := (fa_ev (x := (1, 0, 1, false)) HF5.out 3 rfl).1.2.1
          have x3_2 : (z5).cell? ⟨u.heap.size + 1 + 1 + 1, 2, none⟩ = some (.int .i64 1) := (fa_ev (x := (1, 0, 1, false)) HF5.out 3 rfl).1.2.2.1
          have x3_3 : (z5).cell? ⟨u.heap.size + 1 + 1 + 1, 3, none⟩ = some (.int .i64 0) := (fa_ev (x := (1, 0, 1, false)) HF5.out 3 rfl).1.2.2.2
          have x3_4 : (z5).cell? ⟨u.heap.size + 1 + 1 + 1, 4, none⟩ = some (.bool false) := (fa_ev (x := (1, 0, 1, false)) HF5.out 3 rfl).2.1
          have x3_5 : (z5).cell? ⟨u.heap.size + 1 + 1 + 1, 5, none⟩ = some (.string { data := #[] }) := (fa_ev (x := (1, 0, 1, false)) HF5.out 3 rfl).2.2.1
          have x3_6 : (z5).cell? ⟨u.heap.size + 1 + 1 + 1, 6, none⟩ = some (.slice none 0 0) := (fa_ev (x := (1, 0, 1, false)) HF5.out 3 rfl).2.2.2
          go_wp2_with (first
            | (refine wpl_build rfl 45 _ rfl _ (built45b 0) ?_)
            | (refine wpl_build rfl 45 _ rfl _ (built45b (-1)) ?_)
            | (refine wpl_build rfl 45 _ rfl _ (built45c 1) ?_)
            | fail)
          refine (without_any (some ⟨z5.heap.size, 0, none⟩) 1 1 ⟨z5.heap.size + 1, 0, none⟩ 4 [(0, 0), (0, 0), (0, -1), (1, 0)] ([(1, 0, 1, false)].map mkR) ((z5.alloc (evs [(1, 0, 1, false)])).alloc (.cells #[.int .i64 0, .int .i64 0, .int .i64 0, .int .i64 0, .int .i64 0, .int .i64 (-1), .int .i64 1, .int .i64 0] 45)) ((evs_new z5 [(1, 0, 1, false)]).later ((Below.refl _ _).alloc (Nat.le_refl _) _)) (by decide) (mkR_np _) (mkR_rg _ (by decide)) (blk_rs plc_len (t := 45) (L := [((0 : Int), (0 : Int)), (0, 0), (0, -1), (1, 0)]) (Blk.new2 _ _ 45 (by simp))) (by decide) (by decide)).mono ?_
          rintro e z6 hwo
          obtain ⟨A6, c6, Rs6, rfl, ho6, hm6, hb⟩ := told_of (n := 1) (by decide +kernel) (hwo.is (E0 := [(0, -1), (0, 0), (1, 0)]) (by unfold Ris; simp [cmpP_lt]) (by intro x; simp; constructor <;> (rintro (h | h | h) <;> simp [h])))
          obtain ⟨g6, off6, rfl, hg6, hc6⟩ := ho6.evs.rd.2 (by decide)
          have hv6 : Rs6.map Prod.fst = [evb (1, 0, 0, false)] := hm6.trans (by decide +kernel)
          obtain ⟨r6, hr6⟩ : ∃ r, Rs6 = [r] := by
            match Rs6, hv6 with
            | [r], _ => exact ⟨r, rfl⟩
          subst hr6
          have he6 : r6.1 = evb (1, 0, 0, false) := by simpa using hv6
          have y2 := hc6 0 r6 rfl 2 (by decide)
          have y2b : z6.cell? ⟨g6, off6 + 0 * 7 + 2, none⟩ = some (.int .i64 0) := by
            rw [y2]
            show some (Value.int .i64 r6.1.2.2.1) = _
            rw [he6]; rfl
          have i6 := idx32 g6 off6 1 c6 0 ((0 : Nat) : Int) rfl (by decide)
          have HB6 := Lib.hid (stepB HB5.out (stepB (stepB ((Below.refl _ z5).alloc (Nat.le_refl _) (evs [(1, 0, 1, false)])) ((Below.refl _ _).alloc (Nat.le_refl _) _)) hb))
          clear hb hwo HF5 HB5 ho6 hm6 y2 hc6 hv6 he6 hg6
          clear x3_0 x3_1 x3_2 x3_3 x3_4 x3_5 x3_6
          go_wp2
          go_ret
          exact ⟨rfl, HB6.out⟩


set_option maxRecDepth 100000 in
theorem lifted (os : Os) (started : os.Started) (H : Type) (enc : TypeId × Value → H) :
    ReturnsInHanded {} Try.checked os 3 .any (Rows.eventNamesSpec.pre6 enc Try.prog Try.f3 Rows.eventNamesRow.domain false) (Rows.eventNamesSpec.post enc Try.prog Try.f3 false true false false) := by
  refine returnsInHanded_of_change_sized (C := Try.checked) own started (by kernel_rfl) Try.func3
    (ChangeSpec.witness6 (enc := enc) (C := Try.checked) false ⟨#[], #[], []⟩ 8 (by kernel_rfl) (by kernel_rfl) (by kernel_rfl) (by kernel_rfl)) ?_
  intro W base args ds gs before hval0 hW _ hsz _
  have hval : ∀ (j : Nat) t v, Try.f3.params[j]? = some t → args[j]? = some v → Value.okWide Try.prog W .any base t v := hval0
  have hW' := hW
  obtain ⟨p, q, hA0, hV, hbef, _, _⟩ := hW
  have hA : DataW.TrodAll enc Try.prog W 0 (fun _ => true) true Try.f3.params.toList args.toList ds p := hA0
  rw [Try.params3] at hA hval
  obtain ⟨h1, rfl, rfl⟩ := trodAll_nil hA
  obtain rfl : args = #[] := by cases args; simp_all
  obtain ⟨rfl, rfl⟩ := trodVars_none hV
  refine (walk W).mono fun e W' ⟨he, hb⟩ => ?_
  subst he
  exact ⟨_, rfl, law_post laidOut (of_decide_eq_true (by kernel_rfl)) rfl Try.underlying4 rfl rfl hW' hb⟩

theorem over : Rows.eventNamesRow.holds Try.pinned (OpenSpec.ofChange Rows.eventNamesSpec) :=
  OpenClaim.holds_of_wide 3 Try.f3 rfl rfl rfl rfl rfl rfl rfl ⟨rfl, rfl, rfl, rfl, rfl⟩ rfl rfl rfl rfl rfl (by kernel_rfl) Try.func3 (by kernel_rfl)
    (of_decide_eq_true (by kernel_rfl)) (by unfold Func.isWrapper; first | (rw [if_pos (by decide +kernel)]; kernel_rfl) | (rw [if_neg (by decide +kernel)]; exact ⟨rfl, rfl⟩))
    (fun os started H enc _ => lifted os started H enc)

end Go.Proofs.Ytgbcncfgpdlmiaa.eventNames
namespace Go.Proofs.Ytgbcncfgpdlmiaa
theorem eventNames_holds : Rows.EventNamesSaid := eventNames.over
end Go.Proofs.Ytgbcncfgpdlmiaa
