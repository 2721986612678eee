/- Without, its closure. -/
import Derived.Test.YtgbcncfgpdlmiaaK
namespace Go.Proofs.Ytgbcncfgpdlmiaa
open Go.ChangeShapes Go.WideShapes Go.ChangeAt Go.RowKit Go.Maps
set_option linter.unusedVariables false
set_option linter.unusedSimpArgs false

set_option maxRecDepth 100000 in
set_option maxHeartbeats 4000000 in
theorem len64_1 (w : World) : Calls Try.prog 67 #[.int .u64 1] w fun e w' => e = .returned (.int .i64 1) ∧ w = w' := by
  go_enter Try.func67, Try.ntmps67
  go_wp2
  go_ret
  exact ⟨by kernel_rfl, rfl⟩
set_option maxRecDepth 100000 in
set_option maxHeartbeats 4000000 in
theorem len_1 (w : World) : Calls Try.prog 53 #[.int .u64 1] w fun e w' => e = .returned (.int .i64 1) ∧ w = w' := by
  go_enter Try.func53, Try.ntmps53
  go_wp2_with fail
  refine (len64_1 w).mono ?_
  rintro e w1 ⟨rfl, rfl⟩
  go_wp2
  go_ret
  exact ⟨rfl, rfl⟩
set_option maxRecDepth 100000 in
set_option maxHeartbeats 4000000 in
theorem ins_1 (A : Option Addr) (c : Nat) (f : Value) (w : World) : Calls Try.prog 58 #[.slice A 1 c, .int .i64 0, .int .i64 1, f] w fun e w' => e = .returned (.tuple #[]) ∧ w = w' := by
  have d : decide ((1 : Int) < 1) = false := rfl
  go_enter Try.func58, Try.ntmps58
  go_wp2
  go_loop [8] (fun i => i = .int .i64 1) (fun _ => 0)
  case atStart => rfl
  case round =>
    subst hrel
    go_wp2
    go_end0
    exact ⟨rfl, rfl⟩
set_option maxRecDepth 100000 in
set_option maxHeartbeats 4000000 in
theorem pdq_1 (A : Option Addr) (c : Nat) (f : Value) (w : World) : Calls Try.prog 52 #[.slice A 1 c, .int .i64 0, .int .i64 1, .int .i64 1, f] w fun e w' => e = .returned (.tuple #[]) ∧ w = w' := by
  have d : decide ((1 : Int) ≤ 12) = true := rfl
  go_enter Try.func52, Try.ntmps52
  go_wp2
  go_loop [1, 2, 3, 10, 11, 12, 13, 14, 15, 16, 17, 18, 19, 20] (fun a b l x y u1' u2' u3' u4' u5' u6' u7' u8' u9' => a = .int .i64 0 ∧ b = .int .i64 1 ∧ l = .int .i64 1) (fun _ _ _ _ _ _ _ _ _ _ _ _ _ _ => 0)
  case atStart => exact ⟨rfl, rfl, rfl⟩
  case round =>
    obtain ⟨rfl, rfl, rfl⟩ := hrel
    go_wp2_with fail
    refine (ins_1 A c f w).mono ?_
    rintro e w1 ⟨rfl, rfl⟩
    go_wp2
    (try simp only [Exit.inBlock, Exit.then])
    refine bodyPost_ret (results_none rfl _ _ _) rfl ?_
    exact ⟨rfl, rfl⟩
set_option maxRecDepth 100000 in
set_option maxHeartbeats 4000000 in
theorem sort_1 (A : Option Addr) (c : Nat) (f : Value) (w : World) : Calls Try.prog 41 #[.slice A 1 c, f] w fun e w' => e = .returned (.tuple #[]) ∧ w = w' := by
  go_enter Try.func41, Try.ntmps41
  go_wp2_with fail
  refine (len_1 w).mono ?_
  rintro e w1 ⟨rfl, rfl⟩
  go_wp2_with fail
  refine (pdq_1 A c f w).mono ?_
  rintro e w1 ⟨rfl, rfl⟩
  go_wp2
  go_end0
  exact ⟨rfl, rfl⟩
set_option maxRecDepth 100000 in
set_option maxHeartbeats 4000000 in
theorem compact_1 (A : Option Addr) (c : Nat) (w : World) : Calls Try.prog 43 #[.slice A 1 c] w fun e w' => e = .returned (.slice A 1 c) ∧ w = w' := by
  have d : decide ((1 : Int) < 2) = true := rfl
  go_enter Try.func43, Try.ntmps43
  go_wp2
  go_ret
  exact ⟨rfl, rfl⟩
def ClpEnd (P : List Pl) (w : World) (e : Ending) (w' : World) : Prop := ∃ A c, e = .returned (.slice A P.length c) ∧ ROwn plc 2 w' w.heap.size 45 (.slice A P.length c) P.length P ∧ Below w.heap.size w w'
set_option maxRecDepth 100000 in
set_option maxHeartbeats 4000000 in
theorem clonep_any (a : Addr) (n c : Nat) (P : List Pl) (w : World) (h : RSl plc 2 w (some a) n P) (hn : n ≤ 100000) : Calls Try.prog 40 #[.slice (some a) n c] w (ClpEnd P w) := by
  have hnn : P.length = n := h.1
  subst hnn
  have hbx : Below w.heap.size w (w.alloc (.cells #[] 45)) := (Below.refl _ _).alloc (Nat.le_refl _) _
  have HF : Hid (ROwn plc 2 (w.alloc (.cells #[] 45)) w.heap.size 45 (.slice (some ⟨w.heap.size, 0, none⟩) 0 0) 0 []) := ROwn.fresh w 45 (Nat.le_refl _) rfl
  have HS := Lib.hid (h.later hbx)
  have HB := Lib.hid hbx
  have e46 := fun W => eq46 (some a) P.length c W
  simp only [Option.isNone_some] at e46
  clear h hbx
  go_enter Try.func40, Try.ntmps40
  go_wp2_with (first
    | (at_builtin; refine append_row elemPl rfl (.tmp 5) (.tmp 6) rfl w.heap.size _ 0 [] rfl HF.out (some a) P.length c P rfl HS.out (fun e => by cases e) (by omega) (by decide) HB.out.size ?_; intro v1 w1 ho1)
    | fail)
  intro hg1
  obtain ⟨A1, c1, rfl, hl1, hn1⟩ := ho1.sl
  have HB1 : Hid (Below w.heap.size w w1) := HB.out.grown hg1 HB.out.size (fun j e => (HF.out.lt j e).1)
  have HO1 : Hid (ROwn plc 2 w1 w.heap.size 45 (.slice A1 P.length c1) P.length P) := by
    have := ho1
    rw [Nat.zero_add, List.nil_append] at this
    exact this
  have hz : 0 + P.length = P.length := Nat.zero_add _
  rw [hz]
  clear ho1 hg1 hl1 hn1 hz
  go_wp2
  go_ret
  exact ⟨A1, c1, rfl, HO1.out, HB1.out⟩
/-- how many places stand ahead; places in their row -/
def cLt (P : List Pl) (t : Pl) : Nat := (P.filter (fun p => decide (cmpP p t < 0))).length
def Srt (P : List Pl) : Prop := ∀ (t : Pl) (j : Nat) (p : Pl), P[j]? = some p → (cmpP p t < 0 ↔ j < cLt P t)
theorem cLt_le (P : List Pl) (t : Pl) : cLt P t ≤ P.length := List.length_filter_le _ _
theorem srt_one (p : Pl) : Srt [p] := fun t j q h => by
  have hj : j = 0 := by have := (List.getElem?_eq_some_iff.1 h).1; simp at this; exact this
  subst hj
  simp at h; subst h
  unfold cLt
  by_cases h : cmpP p t < 0 <;> simp [h]
/-- what becomes of an event -/
def goneB (P : List Pl) (e : Ev) : Bool := isP P (cLt P (e.2.1, e.2.2.1)) (e.2.1, e.2.2.1)
def lessI (P : List Pl) (e : Ev) : Int := if ((cLt P (e.2.1, e.2.2.1) : Nat) : Int) - ((cLt P (e.2.1, 0) : Nat) : Int) < 0 then 0 else ((cLt P (e.2.1, e.2.2.1) : Nat) : Int) - ((cLt P (e.2.1, 0) : Nat) : Int)
theorem cmpI_lt {a b : Int} : cmpI a b < 0 ↔ a < b := by unfold cmpI; split <;> (try split) <;> omega
theorem cmpI_ne {a b : Int} : cmpI a b ≠ 0 ↔ a ≠ b := by unfold cmpI; split <;> (try split) <;> omega
theorem cmpP_lt {p q : Pl} : cmpP p q < 0 ↔ p.1 < q.1 ∨ p.1 = q.1 ∧ p.2 < q.2 := by
  unfold cmpP
  by_cases h : p.1 = q.1
  · rw [if_neg (by rw [Ne, Decidable.not_not]; rw [h]; unfold cmpI; simp), cmpI_lt]; omega
  · rw [if_pos (cmpI_ne.2 h), cmpI_lt]; omega
theorem cmpP_eq {p q : Pl} : cmpP p q = 0 ↔ p = q := by
  obtain ⟨a, b⟩ := p
  obtain ⟨c, d⟩ := q
  unfold cmpP cmpI
  simp only [Prod.mk.injEq]
  by_cases h1 : a < c
  · simp [h1]; omega
  · by_cases h2 : c < a
    · simp [h1, h2]; omega
    · have : a = c := by omega
      subst this
      by_cases h3 : b < d
      · simp [h3]; omega
      · by_cases h4 : d < b
        · simp [h3, h4]; omega
        · simp [h3, h4]; omega
theorem less_pos {P : List Pl} {e : Ev} (hs : Srt P) (h : cLt P (e.2.1, 0) < cLt P (e.2.1, e.2.2.1)) : 1 ≤ e.2.2.1 := by
  have hl := cLt_le P (e.2.1, e.2.2.1)
  have hx : P[cLt P (e.2.1, 0)]? = some (P[cLt P (e.2.1, 0)]'(by omega)) := List.getElem?_eq_getElem _
  have h1 := (hs (e.2.1, e.2.2.1) _ _ hx).2 h
  have h2 := fun k => (hs (e.2.1, 0) _ _ hx).1 k
  have h3 : ¬ cmpP (P[cLt P (e.2.1, 0)]'(by omega)) (e.2.1, 0) < 0 := fun k => Nat.lt_irrefl _ (h2 k)
  rw [cmpP_lt] at h1 h3
  simp only at h1 h3
  omega
def woE (P : List Pl) (e : Ev) : Ev := (e.1, e.2.1, e.2.2.1 - lessI P e, e.2.2.2)
def woL (P : List Pl) (L : List Ev) : List Ev := (L.filter (fun e => !goneB P e)).map (woE P)
theorem woL_succ (P : List Pl) (L : List Ev) (k : Nat) (e : Ev) (h : L[k]? = some e) : woL P (L.take (k + 1)) = woL P (L.take k) ++ (if goneB P e then [] else [woE P e]) := by
  unfold woL
  rw [List.take_add_one, h, List.filter_append, List.map_append]
  cases hb : goneB P e <;> simp [hb]
abbrev S44 (w1 : World) (q pl : Nat) (t cl : Int) (v : Value) (W : World) : Prop := Below w1.heap.size w1 W ∧ W.cell? ⟨q, 1, none⟩ = some (.int .i64 t) ∧ W.cell? ⟨q, 2, none⟩ = some (.int .i64 cl) ∧ W.cell? ⟨pl, 0, none⟩ = some v
def CloEnd (P : List Pl) (q : Nat) (e : Ev) (h : Hd) (w : World) (x : Ending) (w' : World) : Prop := x = .returned (.bool (!goneB P e)) ∧ Blk w' q (evc (woE P e, h)).toArray 40 ∧ w.grownBy w' (some q)
set_option maxRecDepth 100000 in
set_option maxHeartbeats 4000000 in
theorem clo44 (A : Option Addr) (c : Nat) (P : List Pl) (pl q : Nat) (wh t cl er : Int) (fo : Bool) (va : ByteArray) (ps : List Pr) (A1 : Option Addr) (n1 c1 : Nat) (w : World) (hs : Srt P) (hP : RSl plc 2 w A P.length P) (hn : P.length ≤ 100000) (hl : Blk w pl #[.slice A P.length c] 46) (hq : Blk w q #[.int .u8 wh, .int .i64 t, .int .i64 cl, .int .i64 er, .bool fo, .string va, .slice A1 n1 c1] 40) (hc0 : -9223372036854775808 ≤ cl) (hc1 : cl ≤ 9223372036854775807) : Calls Try.prog 44 #[.pointer (some ⟨q, 0, none⟩), .pointer (some ⟨pl, 0, none⟩)] w (CloEnd P q (wh, t, cl, er, fo, va, ps) (A1, n1, c1) w) := by
  have HSR := Lib.hid hs
  have HP1 := Lib.hid hP
  have HL1 := Lib.hid hl
  have HE1 := Lib.hid hq
  have HB1 : Hid (Below w.heap.size w w) := Below.refl _ _
  obtain ⟨w1, hw1⟩ : ∃ w1 : World, w1 = w := ⟨_, rfl⟩
  rw [← hw1] at HP1 HL1 HE1
  have HB1 : Hid (Below w.heap.size w w1) := by rw [hw1]; exact Below.refl _ _
  rw [show Calls Try.prog 44 #[.pointer (some ⟨q, 0, none⟩), .pointer (some ⟨pl, 0, none⟩)] w = Calls Try.prog 44 #[.pointer (some ⟨q, 0, none⟩), .pointer (some ⟨pl, 0, none⟩)] w1 from by rw [hw1]]
  have HLS := Lib.hid (show cLt P (t, 0) < cLt P (t, cl) → 1 ≤ cl from fun h => less_pos (e := (wh, t, cl, er, fo, va, ps)) hs h)
  have hk1 := cLt_le P (t, cl)
  have hk0 := cLt_le P (t, 0)
  have HQL := Lib.hid hq.lt
  clear hs hP hl hq hw1
  go_enter Try.func44, Try.ntmps44
  have a1 := HE1.out.cell 1
  have a2 := HE1.out.cell 2
  have ap := HL1.out.cell 0
  simp only [List.getElem?_toArray, List.getElem?_cons_zero, List.getElem?_cons_succ] at a1 a2 ap
  go_upto_region 1 with (fail)
  go_cut [4, 5] (fun s4 s5 wx => s4 = .int .i64 (cLt P (t, cl) : Nat) ∧ s5 = .bool (isP P (cLt P (t, cl)) (t, cl)) ∧ Below w1.heap.size w1 wx)
  case first =>
    have HCB : Hid (∀ W, Below w1.heap.size w1 W → Calls Try.prog 45 #[.slice A P.length c, .agg #[.int .i64 t, .int .i64 cl], .func (.func 42) #[] #[]] W fun e w' => e = .returned (.tuple #[.int .i64 (cLt P (t, cl) : Nat), .bool (isP P (cLt P (t, cl)) (t, cl))]) ∧ Below W.heap.size W w') := fun W hb => bs_any A P.length c (cLt P (t, cl)) P t cl W (HP1.out.later hb) hn (cLt_le _ _) (fun j p hp => HSR.out (t, cl) j p hp)
    have HGL : Hid (∀ W, Below w1.heap.size w1 W → S44 w1 q pl t cl (.slice A P.length c) W) := fun W hb => ⟨hb, by have := (HE1.out.later hb).cell 1; exact this, by have := (HE1.out.later hb).cell 2; exact this, by have := (HL1.out.later hb).cell 0; exact this⟩
    have HS0 := Lib.hid (HGL.out _ (Below.drew (Below.refl _ _)))
    generalize isP P (cLt P (t, cl)) (t, cl) = ib at *
    generalize cLt P (t, cl) = bb at *
    go_region_held3 (S44 w1 q pl t cl (.slice A P.length c)) (first | assumption | exact HS0.out | exact HGL.out _ (stepB (And.left (by assumption)) (by assumption)) | exact HGL.out _ (below_drewN (And.left (by assumption)) _)) (first
      | (go_at_call 45; refine (HCB.out _ (And.left (by assumption))).mono ?_; rintro e wz ⟨rfl, hb⟩))
    all_goals (
      rename S44 _ _ _ _ _ _ _ => hSO
      have hz := Lib.hid hSO.1
      clear hSO
      go_wp2_with fail
      go_meet
      exact ⟨rfl, rfl, hz.out⟩)
  case rest =>
  obtain ⟨rfl, rfl, hb⟩ := hcut
  obtain ⟨w2, rfl⟩ : ∃ w : World, w = wc := ⟨_, rfl⟩
  have HE2 := Lib.hid (HE1.out.later hb)
  have HP2 := Lib.hid (HP1.out.later hb)
  have HL2 := Lib.hid (HL1.out.later hb)
  have HB2 := Lib.hid (stepB HB1.out hb)
  clear hb a1 a2 ap HE1 HP1 HL1 HB1
  have a1 := HE2.out.cell 1
  have a2 := HE2.out.cell 2
  have ap := HL2.out.cell 0
  simp only [List.getElem?_toArray, List.getElem?_cons_zero, List.getElem?_cons_succ] at a1 a2 ap
  go_upto_region 2 with (fail)
  go_cut [6, 7] (fun s4 s5 wx => s4 = .int .i64 (cLt P (t, 0) : Nat) ∧ s5 = .bool (isP P (cLt P (t, 0)) (t, 0)) ∧ Below w2.heap.size w2 wx)
  case first =>
    have HCB : Hid (∀ W, Below w2.heap.size w2 W → Calls Try.prog 45 #[.slice A P.length c, .agg #[.int .i64 t, .int .i64 0], .func (.func 42) #[] #[]] W fun e w' => e = .returned (.tuple #[.int .i64 (cLt P (t, 0) : Nat), .bool (isP P (cLt P (t, 0)) (t, 0))]) ∧ Below W.heap.size W w') := fun W hb => bs_any A P.length c (cLt P (t, 0)) P t 0 W (HP2.out.later hb) hn (cLt_le _ _) (fun j p hp => HSR.out (t, 0) j p hp)
    have HGL : Hid (∀ W, Below w2.heap.size w2 W → S44 w2 q pl t cl (.slice A P.length c) W) := fun W hb => ⟨hb, by have := (HE2.out.later hb).cell 1; exact this, by have := (HE2.out.later hb).cell 2; exact this, by have := (HL2.out.later hb).cell 0; exact this⟩
    have HS0 := Lib.hid (HGL.out _ (Below.drew (Below.refl _ _)))
    generalize isP P (cLt P (t, 0)) (t, 0) = ib at *
    generalize cLt P (t, 0) = bb at *
    go_region_held3 (S44 w2 q pl t cl (.slice A P.length c)) (first | assumption | exact HS0.out | exact HGL.out _ (stepB (And.left (by assumption)) (by assumption)) | exact HGL.out _ (below_drewN (And.left (by assumption)) _)) (first
      | (go_at_call 45; refine (HCB.out _ (And.left (by assumption))).mono ?_; rintro e wz ⟨rfl, hb⟩))
    all_goals (
      rename S44 _ _ _ _ _ _ _ => hSO
      have hz := Lib.hid hSO.1
      clear hSO
      go_wp2_with fail
      go_meet
      exact ⟨rfl, rfl, hz.out⟩)
  case rest =>
  obtain ⟨rfl, rfl, hb⟩ := hcut
  obtain ⟨w3, rfl⟩ : ∃ w : World, w = wc := ⟨_, rfl⟩
  have HE3 := Lib.hid (HE2.out.later hb)
  have HP3 := Lib.hid (HP2.out.later hb)
  have HL3 := Lib.hid (HL2.out.later hb)
  have HB3 := Lib.hid (stepB HB2.out hb)
  clear hb a1 a2 ap HE2 HP2 HL2 HB2
  have HG : Hid (isP P (cLt P (t, cl)) (t, cl) = goneB P (wh, t, cl, er, fo, va, ps)) := rfl
  obtain ⟨gb, hgb⟩ : ∃ gb, isP P (cLt P (t, cl)) (t, cl) = gb := ⟨_, rfl⟩
  rw [hgb] at HG
  rw [hgb]
  clear hgb
  obtain ⟨b1, hb1⟩ : ∃ b1, cLt P (t, cl) = b1 := ⟨_, rfl⟩
  obtain ⟨b0, hb0⟩ : ∃ b0, cLt P (t, 0) = b0 := ⟨_, rfl⟩
  have HLI : Hid (lessI P (wh, t, cl, er, fo, va, ps) = if (b1 : Int) - (b0 : Int) < 0 then 0 else (b1 : Int) - (b0 : Int)) := by show _ = _; unfold lessI; simp only; rw [hb1, hb0]
  rw [hb1, hb0] at HLS
  rw [hb1] at hk1
  rw [hb0] at hk0
  rw [hb1, hb0]
  clear hb1 hb0
  have v1 := HE3.out.cell 2
  simp only [List.getElem?_toArray, List.getElem?_cons_zero, List.getElem?_cons_succ] at v1
  have vf := HE3.out.frozen 2
  have wd : IntKind.i64.wrap ((b1 : Int) - (b0 : Int)) = (b1 : Int) - (b0 : Int) := IntWalk.i64_in _ (by omega)
  obtain ⟨d, hd⟩ : ∃ d : Int, (b1 : Int) - (b0 : Int) = d := ⟨_, rfl⟩
  have hdr : -100000 ≤ d ∧ d ≤ 100000 ∧ (0 < d → 1 ≤ cl) := ⟨by omega, by omega, fun h => HLS.out (by omega)⟩
  rw [hd] at wd HLI
  obtain ⟨ls, hls⟩ : ∃ ls, (if d < 0 then 0 else d) = ls := ⟨_, rfl⟩
  rw [hls] at HLI
  have hlr : 0 ≤ ls ∧ ls ≤ 100000 ∧ (0 < ls → 1 ≤ cl) := by
    rw [← hls]
    by_cases h : d < 0
    · rw [if_pos h]; exact ⟨by omega, by omega, fun h => absurd h (by decide)⟩
    · rw [if_neg h]; exact ⟨by omega, by omega, fun h2 => hdr.2.2 h2⟩
  have wl : IntKind.i64.wrap (cl - ls) = cl - ls := IntWalk.i64_in _ (by omega)
  have HE4 : Hid (Blk (w3.setCell ⟨q, 2, none⟩ (.int .i64 (cl - ls))) q #[.int .u8 wh, .int .i64 t, .int .i64 (cl - ls), .int .i64 er, .bool fo, .string va, .slice A1 n1 c1] 40) := HE3.out.set (j := 2) (.int .i64 (cl - ls))
  have HG4 : Hid (w.grownBy (w3.setCell ⟨q, 2, none⟩ (.int .i64 (cl - ls))) (some q)) := grown_trans ⟨HB3.out.os, HB3.out.tape, HB3.out.output, HB3.out.size, fun i hi _ => HB3.out.block i hi⟩ (grown_set w3 q 2 _)
  have HFIN : Hid (∀ w9, w9 = w3.setCell ⟨q, 2, none⟩ (.int .i64 (cl - ls)) → CloEnd P q (wh, t, cl, er, fo, va, ps) (A1, n1, c1) w (.returned (.bool (!gb))) w9) := fun w9 h9 => by
    subst h9
    refine ⟨by rw [HG.out], ?_, HG4.out⟩
    unfold woE
    rw [HLI.out]
    exact HE4.out
  have hll := HLS.out
  clear HLS HE4 HG4 HLI wl wd
  rcases Nat.lt_trichotomy b1 b0 with h | h | h
  · have e0 : ls = 0 := by rw [← hls]; exact if_pos (by omega)
    have HF2 : Hid (∀ w9, w9 = w3.setCell ⟨q, 2, none⟩ (.int .i64 cl) → CloEnd P q (wh, t, cl, er, fo, va, ps) (A1, n1, c1) w (.returned (.bool (!gb))) w9) := fun w9 h9 => HFIN.out w9 (by rw [h9, e0, Int.sub_zero])
    have n1' : decide ((b1 : Int) - (b0 : Int) < 0) = true := decide_eq_true (by omega)
    clear hls e0 hd hdr hlr hll HFIN
    go_wp2
    all_goals (
      go_ret
      exact HF2.out _ (by first | rfl | (exfalso; omega)))
  · subst h
    have e0 : ls = 0 := by rw [← hls]; split <;> omega
    have HF2 : Hid (∀ w9, w9 = w3.setCell ⟨q, 2, none⟩ (.int .i64 cl) → CloEnd P q (wh, t, cl, er, fo, va, ps) (A1, n1, c1) w (.returned (.bool (!gb))) w9) := fun w9 h9 => HFIN.out w9 (by rw [h9, e0, Int.sub_zero])
    clear hls e0 hd hdr hlr hll HFIN
    go_wp2
    all_goals (
      go_ret
      exact HF2.out _ (by first | rfl | (exfalso; omega)))
  · have e0 : ls = (b1 : Int) - (b0 : Int) := by rw [← hls, if_neg (by omega)]; exact hd.symm
    have HF2 : Hid (∀ w9, w9 = w3.setCell ⟨q, 2, none⟩ (.int .i64 (cl - ((b1 : Int) - (b0 : Int)))) → CloEnd P q (wh, t, cl, er, fo, va, ps) (A1, n1, c1) w (.returned (.bool (!gb))) w9) := fun w9 h9 => HFIN.out w9 (by rw [h9, e0])
    have n1' : decide ((b1 : Int) - (b0 : Int) < 0) = false := decide_eq_false (by omega)
    have hcl1 := hll h
    clear hls e0 hd hdr hlr hll HFIN
    go_wp2
    all_goals (
      go_ret
      exact HF2.out _ (by first | rfl | (exfalso; omega)))
end Go.Proofs.Ytgbcncfgpdlmiaa
