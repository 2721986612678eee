/- May, play, Answers, Model. -/
import Derived.Test.YtoinjnocopejjaaPF
import Derived.Test.YtoinjnocopejjaaPE1
import Derived.Test.YtoinjnocopejjaaPE2
import Derived.Test.YtoinjnocopejjaaPE3
import Derived.StillTailTactics
import Derived.Deep.QuietTactic
import Derived.BigQuiet
namespace Go.Proofs.Ytoinjnocopejjaa
open Go.ChangeShapes Go.WideShapes Go.ChangeAt Go.RowKit Go.Maps
set_option linter.unusedVariables false
set_option linter.unusedSimpArgs false
/-- any event -/
theorem take_any {w0 W : World} {b : Nat} {p : Pl} {x : PX} {c : Conf} {P : Ps} (h : PlAt w0 W b p x) (hok : POk c P p) (wh ta ca er : Int) (fo : Bool) (va : ByteArray) (Ae : Option Addr) (ce : Nat) (pr : List Pr) (hw : 0 ≤ wh ∧ wh ≤ 255) (hE : ERd w0 W (wh, ta, ca, er, fo, va, pr) Ae) (hl : pr.length ≤ 100000) (hdl : p.done.length ≤ 10000) (hpl : ∀ g ∈ p.tasks, g.prog.length ≤ 10000) (htk : p.taken ≤ 100000) : Calls Try.prog 99 #[.pointer (some ⟨b, 0, none⟩), .agg #[.int .u8 wh, .int .i64 ta, .int .i64 ca, .int .i64 er, .bool fo, .string va, .slice Ae pr.length ce]] W (TkEnd w0 b (takeP p (wh, ta, ca, er, fo, va, pr)) W) := by
  have hbad : (wh < 1 ∨ 3 < wh ∨ ta < 0 ∨ (p.tasks.length : Int) ≤ ta) → takeP p (wh, ta, ca, er, fo, va, pr) = (p, 4) := fun hc => take_no (by
    unfold badP
    simp only
    rcases hc with h | h | h | h
    · rw [decide_eq_true h]; rfl
    · rw [decide_eq_true h]; simp
    · rw [decide_eq_true h]; simp
    · rw [decide_eq_true h]; simp)
  have fin : ∀ {e : Ending} {w' : World}, (wh < 1 ∨ 3 < wh ∨ ta < 0 ∨ (p.tasks.length : Int) ≤ ta) → e = .returned (.int .i64 4) ∧ Fw w0 W w' → TkEnd w0 b (takeP p (wh, ta, ca, er, fo, va, pr)) W e w' := fun {e w'} hc he => by
    rw [hbad hc]; exact ⟨he.1, he.2, fun h => absurd rfl h⟩
  by_cases h1 : wh < 1
  · obtain rfl : wh = 0 := by omega
    exact (take_bad0 h ta ca er fo va Ae pr.length ce).mono fun e w' he => fin (.inl h1) he
  by_cases h2 : 3 < wh
  · exact (take_bad4 h wh ta ca er fo va Ae pr.length ce ⟨by omega, hw.2⟩).mono fun e w' he => fin (.inr (.inl h2)) he
  by_cases h3 : ta < 0
  · exact (take_badA h wh ta ca er fo va Ae pr.length ce ⟨by omega, by omega⟩ h3).mono fun e w' he => fin (.inr (.inr (.inl h3))) he
  by_cases h4 : (p.tasks.length : Int) ≤ ta
  · exact (take_badB h wh ta ca er fo va Ae pr.length ce ⟨by omega, by omega⟩ h4).mono fun e w' he => fin (.inr (.inr (.inr h4))) he
  obtain ⟨i, rfl⟩ : ∃ i : Nat, ta = (i : Int) := ⟨ta.toNat, by omega⟩
  have hi : p.tasks[i]? = some (p.tasks[i]'(by omega)) := List.getElem?_eq_getElem _
  have hg := hpl _ (List.mem_of_getElem? hi)
  rcases (by omega : wh = 1 ∨ wh = 2 ∨ wh = 3) with rfl | rfl | rfl
  · exact take_g1 h hok hi ca er fo va Ae pr.length ce pr rfl hE hl hdl hg htk
  · exact take_g2 h hok hi ca er fo va Ae pr.length ce pr rfl hE hl hdl hg htk
  · exact take_g3 h hok hi ca er fo va Ae pr.length ce pr rfl hE hl hdl hg htk
/-- play ends so -/
def PyEnd (w0 : World) (R : Option Pl) (W : World) (e : Ending) (w' : World) : Prop := Fw w0 W w' ∧ ((R = none ∧ e = .returned (.tuple #[.pointer none, .bool false])) ∨ ∃ p b x, R = some p ∧ e = .returned (.tuple #[.pointer (some ⟨b, 0, none⟩), .bool true]) ∧ PlAt w0 w' b p x)
theorem mayP_of {c : Conf} {P : Ps} (h : mayP c P = true) : mayB c = true ∧ (P.length : Int) ≤ c.ta ∧ ∀ l ∈ P, l.length ≤ 64 := by
  unfold mayP at h
  simp only [Bool.and_eq_true, List.all_eq_true, decide_eq_true_eq] at h
  exact h
theorem POk.short {c : Conf} {P : Ps} {p : Pl} (h : POk c P p) (hm : mayP c P = true) : ∀ g ∈ p.tasks, g.prog.length ≤ 10000 := fun g hg => by
  obtain ⟨i, hi⟩ := List.getElem?_of_mem hg
  rw [(h.prg i g hi).1]
  by_cases hl : i < P.length
  · have : P.getD i [] = P[i] := by rw [List.getD_eq_getElem?_getD, List.getElem?_eq_getElem hl]; rfl
    rw [this]
    have := (mayP_of hm).2.2 _ (List.getElem_mem hl)
    omega
  · rw [List.getD_eq_getElem?_getD, List.getElem?_eq_none (by omega)]
    exact Nat.zero_le _
set_option maxRecDepth 100000 in
set_option maxHeartbeats 4000000 in
theorem play_any {w0 W : World} (c : Conf) (A : Option Addr) (n cc : Nat) (LP : List PH) (A2 : Option Addr) (n2 c2 : Nat) (L : List EH) (hb : Below w0.heap.size w0 W) (hP : PsOk w0 W A n LP) (hE : EvOk w0 W A2 n2 L) (hmay : mayP c (psV LP) = true) (hl : L.length ≤ 5000) : Calls Try.prog 77 #[.agg #[.int .i64 c.ta, .int .i64 c.ac, .int .i64 c.ke, .int .i64 c.de, .int .i64 c.ts, .int .i64 c.kl, .int .i64 c.vl, .int .i64 c.fa], .slice A n cc, .slice A2 n2 c2] W (PyEnd w0 (playP (newP c (psV LP)) (evV L)) W) := by
  have HMAY := Lib.hid hmay
  have HLN : Hid (LP.length = n) := Lib.hid (hP.row W (Fw.refl hb)).1
  have HLM : Hid (L.length = n2) := Lib.hid (hE.row W (Fw.refl hb)).1
  have HNC : Hid ((n : Int) ≤ c.ta) := Lib.hid (by
    have := (mayP_of hmay).2.1
    have e : (psV LP).length = n := by rw [← HLN.out]; unfold psV; simp
    omega)
  have HLL := Lib.hid hl
  have HB0 := Lib.hid hb
  have hb1 : Below W.heap.size W (W.alloc (.cells #[.int .i64 c.ta, .int .i64 c.ac, .int .i64 c.ke, .int .i64 c.de, .int .i64 c.ts, .int .i64 c.kl, .int .i64 c.vl, .int .i64 c.fa] 45)) := (Below.refl _ _).alloc (Nat.le_refl _) _
  have HF1 : Hid (Fw w0 W (W.alloc (.cells #[.int .i64 c.ta, .int .i64 c.ac, .int .i64 c.ke, .int .i64 c.de, .int .i64 c.ts, .int .i64 c.kl, .int .i64 c.vl, .int .i64 c.fa] 45))) := Lib.hid (Fw.of hb hb1)
  have HPS := Lib.hid (hP.fw HF1.out)
  have HES := Lib.hid (hE.fw HF1.out)
  have KC : Hid (Blk (W.alloc (.cells #[.int .i64 c.ta, .int .i64 c.ac, .int .i64 c.ke, .int .i64 c.de, .int .i64 c.ts, .int .i64 c.kl, .int .i64 c.vl, .int .i64 c.fa] 45)) W.heap.size #[.int .i64 c.ta, .int .i64 c.ac, .int .i64 c.ke, .int .i64 c.de, .int .i64 c.ts, .int .i64 c.kl, .int .i64 c.vl, .int .i64 c.fa] 45) := Lib.hid (Blk.new W _ 45)
  clear hP hE hb hmay hl hb1
  go_enter Try.func77, Try.ntmps77
  go_upto_region 1 with (fail)
  generalize (W.alloc (.cells #[.int .i64 c.ta, .int .i64 c.ac, .int .i64 c.ke, .int .i64 c.de, .int .i64 c.ts, .int .i64 c.kl, .int .i64 c.vl, .int .i64 c.fa] 45)) = w1 at *
  have z0 := KC.out.cell 0
  have z1 := KC.out.cell 1
  have z2 := KC.out.cell 2
  have z3 := KC.out.cell 3
  have z4 := KC.out.cell 4
  have z5 := KC.out.cell 5
  have z6 := KC.out.cell 6
  have z7 := KC.out.cell 7
  simp only [List.getElem?_toArray, List.getElem?_cons_zero, List.getElem?_cons_succ] at z0 z1 z2 z3 z4 z5 z6 z7
  go_wp2_with fail
  refine (newplayer_any c A n cc LP HF1.out.bel HPS.out (mayP_of HMAY.out).1 HNC.out).mono ?_
  rintro e w2 ⟨b, x, rfl, hf, hp⟩
  have HF2 := Lib.hid (HF1.out.trans hf)
  have HP2 := Lib.hid hp
  have HES2 := Lib.hid (HES.out.fw hf)
  clear z0 z1 z2 z3 z4 z5 z6 z7 hf hp KC HF1 HPS HES
  obtain ⟨evs, hevs⟩ : ∃ evs, evV L = evs := ⟨_, rfl⟩
  have HEV := Lib.hid hevs
  clear hevs
  obtain ⟨p0, hp0⟩ : ∃ p0, newP c (psV LP) = p0 := ⟨_, rfl⟩
  have HOK0 : Hid (POk c (psV LP) p0) := Lib.hid (by rw [← hp0]; exact POk.new (mayP_of HMAY.out).1 _)
  have HT0 : Hid (p0.taken = 0 ∧ p0.done.length = 0) := Lib.hid (by rw [← hp0]; exact ⟨rfl, rfl⟩)
  rw [hp0] at HP2
  have HP0 := Lib.hid hp0
  clear hp0
  obtain ⟨R, hR⟩ : ∃ R, playP p0 evs = R := ⟨_, rfl⟩
  have HR := Lib.hid hR
  have HRR : Hid (playP (newP c (psV LP)) (evV L) = R) := Lib.hid (by rw [HEV.out, HP0.out]; exact hR)
  clear hR
  go_wp2
  go_loopw [16] (fun ix W' => ∃ (k : Nat) (p : Pl) (x : PX), k ≤ n2 ∧ ix = .int .i64 k ∧ playP p0 (evs.take k) = some p ∧ PlAt w0 W' b p x ∧ Fw w0 W W' ∧ EvOk w0 W' A2 n2 L) (fun ix _ => n2 - (intOf ix).toNat)
  case atStart => exact ⟨0, p0, x, Nat.zero_le _, rfl, rfl, HP2.out, HF2.out, HES2.out⟩
  case round =>
    obtain ⟨k, p, x, hk, rfl, hpl, hp, hf, he⟩ := hrel
    have HPL := Lib.hid hpl
    have HP := Lib.hid hp
    have HF := Lib.hid hf
    have HE := Lib.hid he
    clear hpl hp hf he HP2 HF2 HES2
    by_cases hlt : k < n2
    · have d2 : decide ((k : Int) < (n2 : Int)) = true := decide_eq_true (by omega)
      have wk : IntKind.i64.wrap ((k : Int) + 1) = (k : Int) + 1 := IntWalk.i64_in _ (by have := HLM.out; have := HLL.out; omega)
      obtain ⟨g, off, rfl, hg, hc⟩ := (HE.out.row wr (Fw.refl HF.out.bel)).2 (by omega)
      have hrk : L[k]? = some (L[k]'(by rw [HLM.out]; exact hlt)) := List.getElem?_eq_getElem _
      generalize L[k]'(by rw [HLM.out]; exact hlt) = r at *
      have HTK : Hid (playP p0 (evs.take (k + 1)) = (if (takeP p r.1).2 = 4 then none else some (takeP p r.1).1)) := Lib.hid (by
        have := play_take (p := p0) (l := evs) (k := k) (e := r.1) (by rw [← HEV.out]; unfold evV; rw [List.getElem?_map, hrk]; rfl)
        rw [this, HPL.out]; rfl)
      have HRG := Lib.hid (HE.out.rng _ (List.mem_of_getElem? hrk))
      have HER := Lib.hid (HE.out.prs _ (List.mem_of_getElem? hrk))
      obtain ⟨⟨wh, ta, ca, er, fo, va, pr⟩, Ae, ce⟩ := r
      have i1 := idx90 g off n2 c2 k (k : Int) rfl hlt
      have y0 : wr.cell? ⟨g, off + k * 7, none⟩ = some (.int .u8 wh) := hc k _ hrk 0 (by decide)
      have y1 : wr.cell? ⟨g, off + k * 7 + 1, none⟩ = some (.int .i64 ta) := hc k _ hrk 1 (by decide)
      have y2 : wr.cell? ⟨g, off + k * 7 + 2, none⟩ = some (.int .i64 ca) := hc k _ hrk 2 (by decide)
      have y3 : wr.cell? ⟨g, off + k * 7 + 3, none⟩ = some (.int .i64 er) := hc k _ hrk 3 (by decide)
      have y4 : wr.cell? ⟨g, off + k * 7 + 3 + 1, none⟩ = some (.bool fo) := hc k _ hrk 4 (by decide)
      have y5 : wr.cell? ⟨g, off + k * 7 + 3 + 2, none⟩ = some (.string va) := hc k _ hrk 5 (by decide)
      have y6 : wr.cell? ⟨g, off + k * 7 + 3 + 3, none⟩ = some (.slice Ae pr.length ce) := hc k _ hrk 6 (by decide)
      clear hc hg hrk
      have hb2 : Below wr.heap.size wr (wr.alloc (.cells #[.int .u8 wh, .int .i64 ta, .int .i64 ca, .int .i64 er, .bool fo, .string va, .slice Ae pr.length ce] 89)) := (Below.refl _ _).alloc (Nat.le_refl _) _
      have KE : Hid (Blk (wr.alloc (.cells #[.int .u8 wh, .int .i64 ta, .int .i64 ca, .int .i64 er, .bool fo, .string va, .slice Ae pr.length ce] 89)) wr.heap.size #[.int .u8 wh, .int .i64 ta, .int .i64 ca, .int .i64 er, .bool fo, .string va, .slice Ae pr.length ce] 89) := Lib.hid (Blk.new wr _ 89)
      have HFB := Lib.hid (Fw.of HF.out.bel hb2)
      replace HF := Lib.hid (HF.out.then hb2)
      replace HP := Lib.hid (HP.out.later hb2)
      replace HE := Lib.hid (HE.out.fw HFB.out)
      replace HER := Lib.hid (HER.out.fw HFB.out)
      clear hb2 HFB
      go_upto_region 5 with (fail)
      generalize wr.alloc (.cells #[.int .u8 wh, .int .i64 ta, .int .i64 ca, .int .i64 er, .bool fo, .string va, .slice Ae pr.length ce] 89) = w5 at *
      clear y0 y1 y2 y3 y4 y5 y6 i1
      have e0 := KE.out.cell 0
      have e1 := KE.out.cell 1
      have e2 := KE.out.cell 2
      have e3 := KE.out.cell 3
      have e4 := KE.out.cell 4
      have e5 := KE.out.cell 5
      have e6 := KE.out.cell 6
      simp only [List.getElem?_toArray, List.getElem?_cons_zero, List.getElem?_cons_succ] at e0 e1 e2 e3 e4 e5 e6
      have HOK : Hid (POk c (psV LP) p) := Lib.hid (HOK0.out.play HPL.out)
      have HTN : Hid (p.taken ≤ 100000) := Lib.hid (by have := play_len HPL.out; have h2 := HT0.out.1; have h3 : (evs.take k).length ≤ k := List.length_take_le _ _; have := HLM.out; have := HLL.out; omega)
      have HTC := Lib.hid (take_any HP.out HOK.out wh ta ca er fo va Ae ce pr HRG.out.1 HER.out HRG.out.2 (by have := HOK.out.tk; have h3 := play_len HPL.out; have h2 := HT0.out.1; have h4 : (evs.take k).length ≤ k := List.length_take_le _ _; have := HLM.out; have := HLL.out; omega) (HOK.out.short HMAY.out) HTN.out)
      obtain ⟨T, hT⟩ : ∃ T, takeP p (wh, ta, ca, er, fo, va, pr) = T := ⟨_, rfl⟩
      simp only at HTK
      rw [hT] at HTK HTC
      clear hT
      obtain ⟨p2, q⟩ := T
      go_wp2_with fail
      refine HTC.out.mono ?_
      rintro e w6 ⟨rfl, hf, hp⟩
      have HF6 := Lib.hid (HF.out.trans hf)
      have HE6 := Lib.hid (HE.out.fw hf)
      have HP6 := Lib.hid hp
      clear hf hp HF HE HP HTC e0 e1 e2 e3 e4 e5 e6 KE HER HRG
      by_cases h4 : q = 4
      · have d4 : (q == 4) = true := by rw [h4]; rfl
        have HN : Hid (R = none) := Lib.hid (by
          rw [← HR.out]
          refine play_none (k := k + 1) ?_
          rw [HTK.out, if_pos h4])
        clear h4
        go_wp2
        go_ret2
        exact ⟨HF6.out, .inl ⟨HRR.out.trans HN.out, rfl⟩⟩
      · have d4 : (q == 4) = false := by rw [beq_eq_false_iff_ne]; exact h4
        obtain ⟨x6, hx6⟩ := HP6.out h4
        have HX6 := Lib.hid hx6
        have HK6 : Hid (playP p0 (evs.take (k + 1)) = some p2) := Lib.hid (by rw [HTK.out, if_neg h4])
        clear hx6 h4
        go_wp2
        refine ⟨⟨k + 1, p2, x6, by omega, by go_num, HK6.out, HX6.out, HF6.out, HE6.out⟩, ?_⟩
        simp [intOf]; omega
    · obtain rfl : k = n2 := by omega
      have d2 : decide ((k : Int) < (k : Int)) = false := decide_eq_false (by omega)
      have HS : Hid (R = some p) := Lib.hid (by
        rw [← HR.out, ← HPL.out]
        have e : evs.length = k := by rw [← HEV.out, ← HLM.out]; unfold evV; simp
        rw [← e, List.take_length])
      go_wp2
      go_ret2
      exact ⟨HF.out, .inr ⟨p, b, x, HRR.out.trans HS.out, rfl, HP.out⟩⟩
end Go.Proofs.Ytoinjnocopejjaa
