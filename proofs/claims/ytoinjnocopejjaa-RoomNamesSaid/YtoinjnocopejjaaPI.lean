/- PI, PJ, PK, PN in one. -/
import Derived.Test.YtoinjnocopejjaaPH
import Derived.StillTailTactics
import Derived.Deep.QuietTactic
import Derived.BigQuiet
/- May, Answers, Model. -/
namespace Go.Proofs.Ytoinjnocopejjaa
open Go.ChangeShapes Go.WideShapes Go.ChangeAt Go.RowKit Go.Maps
set_option linter.unusedVariables false
set_option linter.unusedSimpArgs false
theorem mayP_no1 {c : Conf} {P : Ps} (h : mayB c = false) : mayP c P = false := by unfold mayP; rw [h]; rfl
theorem mayP_no2 {c : Conf} {P : Ps} (h : c.ta < (P.length : Int)) : mayP c P = false := by
  unfold mayP; rw [decide_eq_false (show ¬ (P.length : Int) ≤ c.ta by omega)]; simp
theorem mayP_no3 {c : Conf} {P : Ps} {l : List Cl} (hl : l ∈ P) (h : 64 < l.length) : mayP c P = false := by
  unfold mayP
  have : (P.all fun l => decide (l.length ≤ 64)) = false := by
    rw [Bool.eq_false_iff]
    intro e
    rw [List.all_eq_true] at e
    have := of_decide_eq_true (e l hl)
    omega
  rw [this]; simp
theorem mayP_yes {c : Conf} {P : Ps} (h1 : mayB c = true) (h2 : (P.length : Int) ≤ c.ta) (h3 : ∀ l ∈ P, l.length ≤ 64) : mayP c P = true := by
  unfold mayP
  rw [h1, decide_eq_true h2, List.all_eq_true.2 (fun l hl => decide_eq_true (h3 l hl))]; rfl
set_option maxRecDepth 100000 in
set_option maxHeartbeats 4000000 in
theorem may_p {W : World} (c : Conf) (A : Option Addr) (n cc : Nat) (LP : List PH) (hP : ∀ W', Below W.heap.size W W' → RSl prE 1 W' A n LP) (hnb : n ≤ maxLen) : Calls Try.prog 76 #[.agg #[.int .i64 c.ta, .int .i64 c.ac, .int .i64 c.ke, .int .i64 c.de, .int .i64 c.ts, .int .i64 c.kl, .int .i64 c.vl, .int .i64 c.fa], .slice A n cc] W fun e w' => e = .returned (.bool (mayP c (psV LP))) ∧ Below W.heap.size W w' := by
  have hm : (maxLen : Int) ≤ 9223372036854775807 := by decide
  have HLN : Hid (LP.length = n) := Lib.hid (hP W (Below.refl _ _)).1
  have HNM : Hid ((n : Int) ≤ 9223372036854775807) := Lib.hid (by omega)
  have HPL : Hid ((psV LP).length = n) := Lib.hid (by rw [← HLN.out]; unfold psV; simp)
  have hb1 : Below W.heap.size W (W.alloc (.cells #[.int .i64 c.ta, .int .i64 c.ac, .int .i64 c.ke, .int .i64 c.de, .int .i64 c.ts, .int .i64 c.kl, .int .i64 c.vl, .int .i64 c.fa] 45)) := (Below.refl _ _).alloc (Nat.le_refl _) _
  have HB := Lib.hid hb1
  have HPS := Lib.hid hP
  have KC : Hid (Blk (W.alloc (.cells #[.int .i64 c.ta, .int .i64 c.ac, .int .i64 c.ke, .int .i64 c.de, .int .i64 c.ts, .int .i64 c.kl, .int .i64 c.vl, .int .i64 c.fa] 45)) W.heap.size #[.int .i64 c.ta, .int .i64 c.ac, .int .i64 c.ke, .int .i64 c.de, .int .i64 c.ts, .int .i64 c.kl, .int .i64 c.vl, .int .i64 c.fa] 45) := Lib.hid (Blk.new W _ 45)
  have HMY : Hid (∀ W : World, Calls Try.prog 51 #[.agg #[.int .i64 c.ta, .int .i64 c.ac, .int .i64 c.ke, .int .i64 c.de, .int .i64 c.ts, .int .i64 c.kl, .int .i64 c.vl, .int .i64 c.fa]] W fun e w' => e = .returned (.bool (mayB c)) ∧ Below W.heap.size W w') := Lib.hid (fun W => tx_may_any c W)
  obtain ⟨R, hR⟩ : ∃ R, mayP c (psV LP) = R := ⟨_, rfl⟩
  have HR := Lib.hid hR
  rw [hR]
  obtain ⟨bq, hbq⟩ : ∃ bq, mayB c = bq := ⟨_, rfl⟩
  rw [hbq] at HMY
  have HBQ := Lib.hid hbq
  clear hP hb1 hR hbq hm hnb
  go_enter Try.func76, Try.ntmps76
  go_upto_region 1 with (fail)
  generalize (W.alloc (.cells #[.int .i64 c.ta, .int .i64 c.ac, .int .i64 c.ke, .int .i64 c.de, .int .i64 c.ts, .int .i64 c.kl, .int .i64 c.vl, .int .i64 c.fa] 45)) = w1 at *
  have z0 := KC.out.cell 0
  have z1 := KC.out.cell 1
  have z2 := KC.out.cell 2
  have z3 := KC.out.cell 3
  have z4 := KC.out.cell 4
  have z5 := KC.out.cell 5
  have z6 := KC.out.cell 6
  have z7 := KC.out.cell 7
  simp only [List.getElem?_toArray, List.getElem?_cons_zero, List.getElem?_cons_succ] at z0 z1 z2 z3 z4 z5 z6 z7
  go_wp2_with fail
  refine (HMY.out _).mono ?_
  rintro e w2 ⟨rfl, hb⟩
  replace HB := Lib.hid (stepB HB.out hb)
  replace KC := Lib.hid (KC.out.later hb)
  clear z0 z1 z2 z3 z4 z5 z6 z7 hb HMY
  cases bq with
  | false =>
    have HF : Hid (R = false) := Lib.hid (by rw [← HR.out]; exact mayP_no1 HBQ.out)
    go_wp2
    go_ret
    exact ⟨by rw [HF.out] <;> rfl, HB.out⟩
  | true =>
  have z0 := KC.out.cell 0
  simp only [List.getElem?_toArray, List.getElem?_cons_zero] at z0
  by_cases hn : c.ta < (n : Int)
  · have d1 : decide ((n : Int) > c.ta) = true := decide_eq_true hn
    have d2 : decide (c.ta < (n : Int)) = true := decide_eq_true hn
    have HF : Hid (R = false) := Lib.hid (by rw [← HR.out]; exact mayP_no2 (by rw [HPL.out]; exact hn))
    clear hn
    go_wp2
    go_ret
    exact ⟨by rw [HF.out] <;> rfl, HB.out⟩
  have d1 : decide ((n : Int) > c.ta) = false := decide_eq_false (by omega)
  have d2 : decide (c.ta < (n : Int)) = false := decide_eq_false hn
  have HNT : Hid ((n : Int) ≤ c.ta) := Lib.hid (by omega)
  clear hn
  go_upto_region 3 with (fail)
  clear z0 d1 d2
  go_wp2
  go_loopw [19] (fun ix W' => ∃ k : Nat, k ≤ n ∧ ix = .int .i64 k ∧ (∀ l ∈ (psV LP).take k, l.length ≤ 64) ∧ Below W.heap.size W W') (fun ix _ => n - (intOf ix).toNat)
  case atStart => exact ⟨0, Nat.zero_le _, rfl, (fun l h => by cases h), HB.out⟩
  case round =>
    obtain ⟨k, hk, rfl, hall, hb⟩ := hrel
    have HALL := Lib.hid hall
    have HBW := Lib.hid hb
    clear hall hb HB KC
    by_cases hlt : k < n
    · have d2 : decide ((k : Int) < (n : Int)) = true := decide_eq_true (by omega)
      have wk : IntKind.i64.wrap ((k : Int) + 1) = (k : Int) + 1 := IntWalk.i64_in _ (by have := HNM.out; omega)
      obtain ⟨g, off, rfl, hg, hc⟩ := (HPS.out wr HBW.out).2 (by omega)
      have hrk : LP[k]? = some (LP[k]'(by rw [HLN.out]; exact hlt)) := List.getElem?_eq_getElem _
      generalize LP[k]'(by rw [HLN.out]; exact hlt) = r at *
      obtain ⟨l, y⟩ := r
      have c0 := hc k _ hrk 0 (by decide)
      have i1 := idx93 g off n cc k (k : Int) rfl hlt
      simp only [Nat.mul_one, Nat.add_zero, prE, List.getElem?_cons_zero] at c0
      have HRK : Hid ((psV LP)[k]? = some l) := Lib.hid (by unfold psV; rw [List.getElem?_map, hrk]; rfl)
      clear hc hg hrk
      by_cases hl : 64 < l.length
      · have d3 : decide ((l.length : Int) > 64) = true := decide_eq_true (by omega)
        have d4 : decide ((64 : Int) < (l.length : Int)) = true := decide_eq_true (by omega)
        have d5 : decide (64 < l.length) = true := decide_eq_true hl
        have HF : Hid (R = false) := Lib.hid (by rw [← HR.out]; exact mayP_no3 (List.mem_of_getElem? HRK.out) hl)
        clear hl
        go_wp2
        go_ret
        exact ⟨by rw [HF.out] <;> rfl, HBW.out⟩
      · have d3 : decide ((l.length : Int) > 64) = false := decide_eq_false (by omega)
        have d4 : decide ((64 : Int) < (l.length : Int)) = false := decide_eq_false (by omega)
        have d5 : decide (64 < l.length) = false := decide_eq_false hl
        have HA2 : Hid (∀ l ∈ (psV LP).take (k + 1), l.length ≤ 64) := Lib.hid (fun l' h => by
          rw [List.take_add_one, HRK.out] at h
          rcases List.mem_append.1 h with h | h
          · exact HALL.out l' h
          · simp at h; subst h; omega)
        clear hl
        go_wp2
        refine ⟨⟨k + 1, by omega, by go_num, HA2.out, HBW.out⟩, ?_⟩
        simp [intOf]; omega
    · obtain rfl : k = n := by omega
      have d2 : decide ((k : Int) < (k : Int)) = false := decide_eq_false (by omega)
      have HF : Hid (R = true) := Lib.hid (by
        rw [← HR.out]
        refine mayP_yes HBQ.out (by rw [HPL.out]; exact HNT.out) ?_
        have h := HALL.out
        rw [← HPL.out, List.take_length] at h
        exact h)
      go_wp2
      go_ret
      exact ⟨by rw [HF.out] <;> rfl, HBW.out⟩
/-- the done calls, as they are told -/
def DnAt (w0 : World) (W : World) (v : Value) (D : List DH) : Prop := ROwn dnE 8 W w0.heap.size 102 v D.length D ∧ ∀ y ∈ D, ROwn pvc 2 W w0.heap.size 129 (.slice y.2.1 y.1.a.2.2.2.length y.2.2) y.1.a.2.2.2.length y.1.a.2.2.2
/-- what Answers tells -/
def AwEnd (w0 : World) (c : Conf) (P : Ps) (l : List Ev) (W : World) (e : Ending) (w' : World) : Prop := Fw w0 W w' ∧ ∃ (v : Value) (D : List DH), e = .returned v ∧ DnAt w0 w' v D ∧ D.map (·.1) = (if mayP c P = true then ((playP (newP c P) l).map (·.done)).getD [] else [])
/-- what Model tells -/
def MdEnd (w0 : World) (c : Conf) (P : Ps) (l : List Ev) (W : World) (e : Ending) (w' : World) : Prop := Fw w0 W w' ∧ ((mayP c P = false ∧ e = .returned (.tuple #[.pointer none, .int .i64 1])) ∨ (mayP c P = true ∧ playP (newP c P) l = none ∧ e = .returned (.tuple #[.pointer none, .int .i64 4])) ∨ ∃ p m own, mayP c P = true ∧ playP (newP c P) l = some p ∧ e = .returned (.tuple #[.pointer (some ⟨m, 0, none⟩), .int .i64 0]) ∧ MQ_ w' w0.heap.size own m p.m)
set_option maxRecDepth 100000 in
set_option maxHeartbeats 4000000 in
theorem answers_p {w0 W : World} (c : Conf) (A : Option Addr) (n cc : Nat) (LP : List PH) (A2 : Option Addr) (n2 c2 : Nat) (L : List EH) (hb : Below w0.heap.size w0 W) (hP : PsOk w0 W A n LP) (hE : EvOk w0 W A2 n2 L) (hnb : n ≤ maxLen) (hl : L.length ≤ 5000) : Calls Try.prog 49 #[.agg #[.int .i64 c.ta, .int .i64 c.ac, .int .i64 c.ke, .int .i64 c.de, .int .i64 c.ts, .int .i64 c.kl, .int .i64 c.vl, .int .i64 c.fa], .slice A n cc, .slice A2 n2 c2] W (AwEnd w0 c (psV LP) (evV L) W) := by
  have hb1 : Below W.heap.size W (W.alloc (.cells #[.int .i64 c.ta, .int .i64 c.ac, .int .i64 c.ke, .int .i64 c.de, .int .i64 c.ts, .int .i64 c.kl, .int .i64 c.vl, .int .i64 c.fa] 45)) := (Below.refl _ _).alloc (Nat.le_refl _) _
  have HF : Hid (Fw w0 W (W.alloc (.cells #[.int .i64 c.ta, .int .i64 c.ac, .int .i64 c.ke, .int .i64 c.de, .int .i64 c.ts, .int .i64 c.kl, .int .i64 c.vl, .int .i64 c.fa] 45))) := Lib.hid (Fw.of hb hb1)
  have HPS := Lib.hid (hP.fw HF.out)
  have HES := Lib.hid (hE.fw HF.out)
  have KC : Hid (Blk (W.alloc (.cells #[.int .i64 c.ta, .int .i64 c.ac, .int .i64 c.ke, .int .i64 c.de, .int .i64 c.ts, .int .i64 c.kl, .int .i64 c.vl, .int .i64 c.fa] 45)) W.heap.size #[.int .i64 c.ta, .int .i64 c.ac, .int .i64 c.ke, .int .i64 c.de, .int .i64 c.ts, .int .i64 c.kl, .int .i64 c.vl, .int .i64 c.fa] 45) := Lib.hid (Blk.new W _ 45)
  have HNB := Lib.hid hnb
  have HLL := Lib.hid hl
  clear hb hP hE hnb hl hb1
  go_enter Try.func49, Try.ntmps49
  go_upto_region 1 with (fail)
  generalize (W.alloc (.cells #[.int .i64 c.ta, .int .i64 c.ac, .int .i64 c.ke, .int .i64 c.de, .int .i64 c.ts, .int .i64 c.kl, .int .i64 c.vl, .int .i64 c.fa] 45)) = w1 at *
  have z0 := KC.out.cell 0
  have z1 := KC.out.cell 1
  have z2 := KC.out.cell 2
  have z3 := KC.out.cell 3
  have z4 := KC.out.cell 4
  have z5 := KC.out.cell 5
  have z6 := KC.out.cell 6
  have z7 := KC.out.cell 7
  simp only [List.getElem?_toArray, List.getElem?_cons_zero, List.getElem?_cons_succ] at z0 z1 z2 z3 z4 z5 z6 z7
  have HMY := Lib.hid (may_p (W := w1) c A n cc LP (fun W' h => HPS.out.row W' (Fw.of HF.out.bel h)) HNB.out)
  obtain ⟨bq, hbq⟩ : ∃ bq, mayP c (psV LP) = bq := ⟨_, rfl⟩
  have HBQ := Lib.hid hbq
  rw [hbq] at HMY
  clear hbq
  go_wp2_with fail
  refine HMY.out.mono ?_
  rintro e w2 ⟨rfl, hb⟩
  have HF2 := Lib.hid (HF.out.then hb)
  have HPS2 := Lib.hid (HPS.out.fw (Fw.of HF.out.bel hb))
  have HES2 := Lib.hid (HES.out.fw (Fw.of HF.out.bel hb))
  replace KC := Lib.hid (KC.out.later hb)
  clear z0 z1 z2 z3 z4 z5 z6 z7 hb HMY HF HPS HES
  cases bq with
  | false =>
    go_wp2
    go_ret
    exact ⟨HF2.out, _, [], rfl, ⟨ROwn.nil0 _ _ _, fun y h => by cases h⟩, by rw [if_neg (by rw [HBQ.out]; decide)]; rfl⟩
  | true =>
  have z0 := KC.out.cell 0
  have z1 := KC.out.cell 1
  have z2 := KC.out.cell 2
  have z3 := KC.out.cell 3
  have z4 := KC.out.cell 4
  have z5 := KC.out.cell 5
  have z6 := KC.out.cell 6
  have z7 := KC.out.cell 7
  simp only [List.getElem?_toArray, List.getElem?_cons_zero, List.getElem?_cons_succ] at z0 z1 z2 z3 z4 z5 z6 z7
  go_upto_region 3 with (fail)
  go_wp2_with fail
  refine (play_any c A n cc LP A2 n2 c2 L HF2.out.bel HPS2.out HES2.out HBQ.out HLL.out).mono ?_
  rintro e w3 ⟨hf, hh⟩
  have HF3 := Lib.hid (HF2.out.trans hf)
  clear z0 z1 z2 z3 z4 z5 z6 z7 hf HF2 HPS2 HES2 KC
  rcases hh with ⟨hr, rfl⟩ | ⟨p, b, x, hr, rfl, hp⟩
  · have HR := Lib.hid hr
    clear hr
    go_wp2
    go_ret
    exact ⟨HF3.out, _, [], rfl, ⟨ROwn.nil0 _ _ _, fun y h => by cases h⟩, by rw [if_pos HBQ.out, HR.out]; rfl⟩
  · have HR := Lib.hid hr
    have HP := Lib.hid hp
    clear hr hp
    have c3 := HP.out.c0 3
    simp only [plC, List.getElem?_cons_zero, List.getElem?_cons_succ] at c3
    go_wp2
    go_ret
    refine ⟨HF3.out, _, p.done.zip x.dh, rfl, ⟨?_, fun y hy => ?_⟩, ?_⟩
    · have h := HP.out.dn
      have e : (p.done.zip x.dh).length = p.done.length := by rw [List.length_zip, HP.out.dl, Nat.min_self]
      rw [e]; exact h
    · obtain ⟨i, hi⟩ := List.getElem?_of_mem hy
      rw [List.getElem?_zip_eq_some] at hi
      exact HP.out.prs i _ _ hi.2 hi.1
    · rw [if_pos HBQ.out, HR.out]
      show (p.done.zip x.dh).map Prod.fst = p.done
      rw [List.map_fst_zip]
      rw [HP.out.dl]; exact Nat.le_refl _
set_option maxRecDepth 100000 in
set_option maxHeartbeats 4000000 in
theorem model_p {w0 W : World} (c : Conf) (A : Option Addr) (n cc : Nat) (LP : List PH) (A2 : Option Addr) (n2 c2 : Nat) (L : List EH) (hb : Below w0.heap.size w0 W) (hP : PsOk w0 W A n LP) (hE : EvOk w0 W A2 n2 L) (hnb : n ≤ maxLen) (hl : L.length ≤ 5000) : Calls Try.prog 50 #[.agg #[.int .i64 c.ta, .int .i64 c.ac, .int .i64 c.ke, .int .i64 c.de, .int .i64 c.ts, .int .i64 c.kl, .int .i64 c.vl, .int .i64 c.fa], .slice A n cc, .slice A2 n2 c2] W (MdEnd w0 c (psV LP) (evV L) W) := by
  have hb1 : Below W.heap.size W (W.alloc (.cells #[.int .i64 c.ta, .int .i64 c.ac, .int .i64 c.ke, .int .i64 c.de, .int .i64 c.ts, .int .i64 c.kl, .int .i64 c.vl, .int .i64 c.fa] 45)) := (Below.refl _ _).alloc (Nat.le_refl _) _
  have HF : Hid (Fw w0 W (W.alloc (.cells #[.int .i64 c.ta, .int .i64 c.ac, .int .i64 c.ke, .int .i64 c.de, .int .i64 c.ts, .int .i64 c.kl, .int .i64 c.vl, .int .i64 c.fa] 45))) := Lib.hid (Fw.of hb hb1)
  have HPS := Lib.hid (hP.fw HF.out)
  have HES := Lib.hid (hE.fw HF.out)
  have KC : Hid (Blk (W.alloc (.cells #[.int .i64 c.ta, .int .i64 c.ac, .int .i64 c.ke, .int .i64 c.de, .int .i64 c.ts, .int .i64 c.kl, .int .i64 c.vl, .int .i64 c.fa] 45)) W.heap.size #[.int .i64 c.ta, .int .i64 c.ac, .int .i64 c.ke, .int .i64 c.de, .int .i64 c.ts, .int .i64 c.kl, .int .i64 c.vl, .int .i64 c.fa] 45) := Lib.hid (Blk.new W _ 45)
  have HNB := Lib.hid hnb
  have HLL := Lib.hid hl
  clear hb hP hE hnb hl hb1
  go_enter Try.func50, Try.ntmps50
  go_upto_region 1 with (fail)
  generalize (W.alloc (.cells #[.int .i64 c.ta, .int .i64 c.ac, .int .i64 c.ke, .int .i64 c.de, .int .i64 c.ts, .int .i64 c.kl, .int .i64 c.vl, .int .i64 c.fa] 45)) = w1 at *
  have z0 := KC.out.cell 0
  have z1 := KC.out.cell 1
  have z2 := KC.out.cell 2
  have z3 := KC.out.cell 3
  have z4 := KC.out.cell 4
  have z5 := KC.out.cell 5
  have z6 := KC.out.cell 6
  have z7 := KC.out.cell 7
  simp only [List.getElem?_toArray, List.getElem?_cons_zero, List.getElem?_cons_succ] at z0 z1 z2 z3 z4 z5 z6 z7
  have HMY := Lib.hid (may_p (W := w1) c A n cc LP (fun W' h => HPS.out.row W' (Fw.of HF.out.bel h)) HNB.out)
  obtain ⟨bq, hbq⟩ : ∃ bq, mayP c (psV LP) = bq := ⟨_, rfl⟩
  have HBQ := Lib.hid hbq
  rw [hbq] at HMY
  clear hbq
  go_wp2_with fail
  refine HMY.out.mono ?_
  rintro e w2 ⟨rfl, hb⟩
  have HF2 := Lib.hid (HF.out.then hb)
  have HPS2 := Lib.hid (HPS.out.fw (Fw.of HF.out.bel hb))
  have HES2 := Lib.hid (HES.out.fw (Fw.of HF.out.bel hb))
  replace KC := Lib.hid (KC.out.later hb)
  clear z0 z1 z2 z3 z4 z5 z6 z7 hb HMY HF HPS HES
  cases bq with
  | false =>
    go_wp2
    go_ret2
    exact ⟨HF2.out, .inl ⟨HBQ.out, rfl⟩⟩
  | true =>
  have z0 := KC.out.cell 0
  have z1 := KC.out.cell 1
  have z2 := KC.out.cell 2
  have z3 := KC.out.cell 3
  have z4 := KC.out.cell 4
  have z5 := KC.out.cell 5
  have z6 := KC.out.cell 6
  have z7 := KC.out.cell 7
  simp only [List.getElem?_toArray, List.getElem?_cons_zero, List.getElem?_cons_succ] at z0 z1 z2 z3 z4 z5 z6 z7
  go_upto_region 3 with (fail)
  go_wp2_with fail
  refine (play_any c A n cc LP A2 n2 c2 L HF2.out.bel HPS2.out HES2.out HBQ.out HLL.out).mono ?_
  rintro e w3 ⟨hf, hh⟩
  have HF3 := Lib.hid (HF2.out.trans hf)
  clear z0 z1 z2 z3 z4 z5 z6 z7 hf HF2 HPS2 HES2 KC
  rcases hh with ⟨hr, rfl⟩ | ⟨p, b, x, hr, rfl, hp⟩
  · have HR := Lib.hid hr
    clear hr
    go_wp2
    go_ret2
    exact ⟨HF3.out, .inr (.inl ⟨HBQ.out, HR.out, rfl⟩)⟩
  · have HR := Lib.hid hr
    have HP := Lib.hid hp
    clear hr hp
    have c3 := HP.out.c0 0
    simp only [plC, List.getElem?_cons_zero, List.getElem?_cons_succ] at c3
    go_wp2
    go_ret2
    exact ⟨HF3.out, .inr (.inr ⟨p, x.mp, x.own, HBQ.out, HR.out, rfl, HP.out.md⟩)⟩
end Go.Proofs.Ytoinjnocopejjaa

/- Bound, Steps, Rounds. -/
namespace Go.Proofs.Ytoinjnocopejjaa
open Go.ChangeShapes Go.WideShapes Go.ChangeAt Go.RowKit Go.Maps
set_option linter.unusedVariables false
set_option linter.unusedSimpArgs false
theorem w64 {x : Int} (h : -1000000000 ≤ x ∧ x ≤ 1000000000) : wrap64 x = x := by unfold wrap64; omega
theorem i64w {x : Int} (h : -1000000000 ≤ x ∧ x ≤ 1000000000) : IntKind.i64.wrap x = x := IntWalk.i64_in _ (by omega)
set_option maxRecDepth 100000 in
set_option maxHeartbeats 4000000 in
theorem rbound_any (c : Conf) (W : World) : Calls Try.prog 41 #[.agg #[.int .i64 c.ta, .int .i64 c.ac, .int .i64 c.ke, .int .i64 c.de, .int .i64 c.ts, .int .i64 c.kl, .int .i64 c.vl, .int .i64 c.fa]] W fun e w' => e = .returned (.tuple #[.int .i64 (boundP c).1, .int .i64 (boundP c).2]) ∧ Below W.heap.size W w' := by
  have hb1 : Below W.heap.size W (W.alloc (.cells #[.int .i64 c.ta, .int .i64 c.ac, .int .i64 c.ke, .int .i64 c.de, .int .i64 c.ts, .int .i64 c.kl, .int .i64 c.vl, .int .i64 c.fa] 45)) := (Below.refl _ _).alloc (Nat.le_refl _) _
  have HB := Lib.hid hb1
  have KC : Hid (Blk (W.alloc (.cells #[.int .i64 c.ta, .int .i64 c.ac, .int .i64 c.ke, .int .i64 c.de, .int .i64 c.ts, .int .i64 c.kl, .int .i64 c.vl, .int .i64 c.fa] 45)) W.heap.size #[.int .i64 c.ta, .int .i64 c.ac, .int .i64 c.ke, .int .i64 c.de, .int .i64 c.ts, .int .i64 c.kl, .int .i64 c.vl, .int .i64 c.fa] 45) := Lib.hid (Blk.new W _ 45)
  have HMY : Hid (∀ W : World, Calls Try.prog 51 #[.agg #[.int .i64 c.ta, .int .i64 c.ac, .int .i64 c.ke, .int .i64 c.de, .int .i64 c.ts, .int .i64 c.kl, .int .i64 c.vl, .int .i64 c.fa]] W fun e w' => e = .returned (.bool (mayB c)) ∧ Below W.heap.size W w') := Lib.hid (fun W => tx_may_any c W)
  obtain ⟨R, hR⟩ : ∃ R, boundP c = R := ⟨_, rfl⟩
  have HR := Lib.hid hR
  rw [hR]
  obtain ⟨bq, hbq⟩ : ∃ bq, mayB c = bq := ⟨_, rfl⟩
  rw [hbq] at HMY
  have HBQ := Lib.hid hbq
  clear hb1 hR hbq
  go_enter Try.func41, Try.ntmps41
  go_upto_region 1 with (fail)
  generalize (W.alloc (.cells #[.int .i64 c.ta, .int .i64 c.ac, .int .i64 c.ke, .int .i64 c.de, .int .i64 c.ts, .int .i64 c.kl, .int .i64 c.vl, .int .i64 c.fa] 45)) = w1 at *
  have z0 := KC.out.cell 0
  have z1 := KC.out.cell 1
  have z2 := KC.out.cell 2
  have z3 := KC.out.cell 3
  have z4 := KC.out.cell 4
  have z5 := KC.out.cell 5
  have z6 := KC.out.cell 6
  have z7 := KC.out.cell 7
  simp only [List.getElem?_toArray, List.getElem?_cons_zero, List.getElem?_cons_succ] at z0 z1 z2 z3 z4 z5 z6 z7
  go_wp2_with fail
  refine (HMY.out _).mono ?_
  rintro e w2 ⟨rfl, hb⟩
  replace HB := Lib.hid (stepB HB.out hb)
  replace KC := Lib.hid (KC.out.later hb)
  clear z0 z1 z2 z3 z4 z5 z6 z7 hb HMY
  cases bq with
  | false =>
    have HF : Hid (R = (0, 0)) := Lib.hid (by rw [← HR.out]; unfold boundP; rw [if_neg (by rw [HBQ.out]; decide)])
    go_wp2
    go_ret2
    exact ⟨by rw [HF.out] <;> rfl, HB.out⟩
  | true =>
  have hn := num_ok HBQ.out
  have hm := may_lo HBQ.out
  have n1 := hn.all
  have n2 := hn.tsk
  have n3 := hn.tt
  have n4 := hn.ta
  have n5 := hn.b1
  have n6 := hn.b2
  have e1 : (boundP c).1 = c.ke * c.de + c.ta * tskN c := by unfold boundP; rw [if_pos HBQ.out]
  have e2 : (boundP c).2 = c.ke + c.ta * (c.ke * c.de) := by unfold boundP; rw [if_pos HBQ.out]
  obtain ⟨AL, hAL⟩ : ∃ AL, c.ke * c.de = AL := ⟨_, rfl⟩
  have ht : tskN c = max AL (c.de + 1) := by unfold tskN; rw [hAL]
  rw [hAL] at n1 n4 e1 e2
  obtain ⟨TK, hTK⟩ : ∃ TK, tskN c = TK := ⟨_, rfl⟩
  rw [hTK] at ht n2 n3 e1
  obtain ⟨P1, hP1⟩ : ∃ P1, c.ta * TK = P1 := ⟨_, rfl⟩
  obtain ⟨P2, hP2⟩ : ∃ P2, c.ta * AL = P2 := ⟨_, rfl⟩
  rw [hP1] at n3 e1
  rw [hP2] at n4 e2
  have a1 : wrap64 (c.ke * c.de) = AL := by rw [hAL]; exact w64 (by omega)
  have a2 : wrap64 (c.de + 1) = c.de + 1 := w64 (by omega)
  have a3 : max AL (c.de + 1) = TK := ht.symm
  have a4 : wrap64 (c.ta * TK) = P1 := by rw [hP1]; exact w64 (by omega)
  have a5 : wrap64 (AL + P1) = AL + P1 := w64 (by omega)
  have a6 : wrap64 (c.ta * AL) = P2 := by rw [hP2]; exact w64 (by omega)
  have a7 : wrap64 (c.ke + P2) = c.ke + P2 := w64 (by omega)
  have HF : Hid (R = (wrap64 (AL + P1), wrap64 (c.ke + P2))) := Lib.hid (by rw [a5, a7, ← HR.out, ← e1, ← e2])
  have HB3 := HB
  clear hn hm n1 n2 n3 n4 n5 n6 e1 e2 hAL ht hTK hP1 hP2 HB
  have z0 := KC.out.cell 0
  have z2 := KC.out.cell 2
  have z3 := KC.out.cell 3
  simp only [List.getElem?_toArray, List.getElem?_cons_zero, List.getElem?_cons_succ] at z0 z2 z3
  go_upto_region 5 with (fail)
  have hb4 : Below w2.heap.size w2 (w2.alloc (.cells #[.int .i64 AL, .int .i64 TK, .int .i64 c.ke, .int .i64 AL] 134)) := (Below.refl _ _).alloc (Nat.le_refl _) _
  have KS : Hid (Blk (w2.alloc (.cells #[.int .i64 AL, .int .i64 TK, .int .i64 c.ke, .int .i64 AL] 134)) w2.heap.size #[.int .i64 AL, .int .i64 TK, .int .i64 c.ke, .int .i64 AL] 134) := Lib.hid (Blk.new w2 _ 134)
  have HB4 := Lib.hid (stepB HB3.out hb4)
  have KC4 := Lib.hid (KC.out.later hb4)
  clear z0 z2 z3 hb4 HB3 KC a1 a2 a3
  generalize (w2.alloc (.cells #[.int .i64 AL, .int .i64 TK, .int .i64 c.ke, .int .i64 AL] 134)) = w4 at *
  generalize w2.heap.size = ps at *
  have z0 := KC4.out.cell 0
  have s0 := KS.out.cell 0
  have s1 := KS.out.cell 1
  have s2 := KS.out.cell 2
  have s3 := KS.out.cell 3
  simp only [List.getElem?_toArray, List.getElem?_cons_zero, List.getElem?_cons_succ] at z0 s0 s1 s2 s3
  go_wp2
  go_ret2
  exact ⟨by rw [HF.out] <;> rfl, HB4.out⟩
set_option maxRecDepth 100000 in
set_option maxHeartbeats 4000000 in
theorem perkey_any (c : Conf) (W : World) (hmay : mayB c = true) : Calls Try.prog 74 #[.agg #[.int .i64 c.ta, .int .i64 c.ac, .int .i64 c.ke, .int .i64 c.de, .int .i64 c.ts, .int .i64 c.kl, .int .i64 c.vl, .int .i64 c.fa]] W fun e w' => e = .returned (.tuple #[.int .i64 (keyN c), .int .i64 (sloN c)]) ∧ Below W.heap.size W w' := by
  have hb1 : Below W.heap.size W (W.alloc (.cells #[.int .i64 c.ta, .int .i64 c.ac, .int .i64 c.ke, .int .i64 c.de, .int .i64 c.ts, .int .i64 c.kl, .int .i64 c.vl, .int .i64 c.fa] 45)) := (Below.refl _ _).alloc (Nat.le_refl _) _
  have HB := Lib.hid hb1
  have KC : Hid (Blk (W.alloc (.cells #[.int .i64 c.ta, .int .i64 c.ac, .int .i64 c.ke, .int .i64 c.de, .int .i64 c.ts, .int .i64 c.kl, .int .i64 c.vl, .int .i64 c.fa] 45)) W.heap.size #[.int .i64 c.ta, .int .i64 c.ac, .int .i64 c.ke, .int .i64 c.de, .int .i64 c.ts, .int .i64 c.kl, .int .i64 c.vl, .int .i64 c.fa] 45) := Lib.hid (Blk.new W _ 45)
  have hn := num_ok hmay
  have hm := may_lo hmay
  have n5 := hn.b1
  have n6 := hn.b2
  have n7 := hn.lv
  have n8 := hn.key
  have n9 := hn.slo
  have HBD := Lib.hid (fun W => rbound_any c W)
  obtain ⟨K, hK⟩ : ∃ K, keyN c = K := ⟨_, rfl⟩
  obtain ⟨S, hS⟩ : ∃ S, sloN c = S := ⟨_, rfl⟩
  rw [hK, hS]
  unfold keyN at hK
  unfold sloN at hS
  obtain ⟨lv, hlv⟩ : ∃ lv, lvN c = lv := ⟨_, rfl⟩
  rw [hlv] at n7 hK
  unfold lvN at hlv
  obtain ⟨R, hR⟩ : ∃ R, boundP c = R := ⟨_, rfl⟩
  rw [hR] at HBD n5 n6 hS hlv
  obtain ⟨b1, b2⟩ := R
  simp only at n5 n6 hS hlv
  obtain ⟨q, hq⟩ : ∃ q, (b2 - 1) / c.fa = q := ⟨_, rfl⟩
  rw [hq] at hlv
  have hq0 : 0 ≤ q ∧ q ≤ 1045 := by omega
  have htd : (b2 - 1).tdiv c.fa = q := by rw [Int.tdiv_eq_ediv_of_nonneg (by omega)]; exact hq
  have hfa : c.fa ≠ 0 := by omega
  have a1 : wrap64 (b2 - 1) = b2 - 1 := w64 (by omega)
  have a2 : wrap64 q = q := w64 (by omega)
  have a3 : wrap64 (q + 1) = lv := by rw [w64 (by omega)]; exact hlv
  have a4 : wrap64 (lv + 2) = lv + 2 := w64 (by omega)
  have a5 : wrap64 (4 * (lv + 2)) = 4 * (lv + 2) := w64 (by omega)
  have a6 : wrap64 (4 * (lv + 2) + lv) = 4 * (lv + 2) + lv := w64 (by omega)
  have a7 : wrap64 (4 * (lv + 2) + lv + 16) = K := by rw [w64 (by omega)]; exact hK
  have a8 : wrap64 (2 * c.ta) = 2 * c.ta := w64 (by omega)
  have a9 : wrap64 (b1 + 2 * c.ta) = b1 + 2 * c.ta := w64 (by omega)
  have a10 : wrap64 (b1 + 2 * c.ta + 1) = b1 + 2 * c.ta + 1 := w64 (by omega)
  have a11 : wrap64 (8 * (b1 + 2 * c.ta + 1)) = S := by rw [w64 (by omega)]; exact hS
  have HBB : Hid (IntKind.i64.wrap (4 * (lv + 2)) = 4 * (lv + 2) ∧ IntKind.i64.wrap (4 * (lv + 2) + lv) = 4 * (lv + 2) + lv ∧ IntKind.i64.wrap (2 * c.ta) = 2 * c.ta ∧ IntKind.i64.wrap (b1 + 2 * c.ta) = b1 + 2 * c.ta ∧ IntKind.i64.wrap (b1 + 2 * c.ta + 1) = b1 + 2 * c.ta + 1 ∧ IntKind.i64.wrap (4 * (lv + 2) + lv + 16) = K ∧ IntKind.i64.wrap (8 * (b1 + 2 * c.ta + 1)) = S) := Lib.hid ⟨i64w (by omega), i64w (by omega), i64w (by omega), i64w (by omega), i64w (by omega), by rw [i64w (by omega)]; exact hK, by rw [i64w (by omega)]; exact hS⟩
  clear hb1 hR hn hm n5 n6 n7 n8 n9 hK hS hlv hq hq0 hmay
  go_enter Try.func74, Try.ntmps74
  go_upto_region 1 with (fail)
  generalize (W.alloc (.cells #[.int .i64 c.ta, .int .i64 c.ac, .int .i64 c.ke, .int .i64 c.de, .int .i64 c.ts, .int .i64 c.kl, .int .i64 c.vl, .int .i64 c.fa] 45)) = w1 at *
  have z0 := KC.out.cell 0
  have z1 := KC.out.cell 1
  have z2 := KC.out.cell 2
  have z3 := KC.out.cell 3
  have z4 := KC.out.cell 4
  have z5 := KC.out.cell 5
  have z6 := KC.out.cell 6
  have z7 := KC.out.cell 7
  simp only [List.getElem?_toArray, List.getElem?_cons_zero, List.getElem?_cons_succ] at z0 z1 z2 z3 z4 z5 z6 z7
  go_wp2_with fail
  refine (HBD.out _).mono ?_
  rintro e w2 ⟨rfl, hb⟩
  replace HB := Lib.hid (stepB HB.out hb)
  replace KC := Lib.hid (KC.out.later hb)
  clear z0 z1 z2 z3 z4 z5 z6 z7 hb HBD
  have z0 := KC.out.cell 0
  have z7 := KC.out.cell 7
  simp only [List.getElem?_toArray, List.getElem?_cons_zero, List.getElem?_cons_succ] at z0 z7
  have HK : Hid (K = wrap64 (4 * (lv + 2) + lv + 16)) := Lib.hid a7.symm
  have HS : Hid (S = wrap64 (8 * (b1 + 2 * c.ta + 1))) := Lib.hid a11.symm
  clear a7 a11
  go_upto_region 4 with (fail)
  clear a1 a2
  obtain ⟨b3, b4, b5, b6, b7, b8, b9⟩ := HBB.out
  go_quiet (fail)
  have hb : Below w2.heap.size w2 (w2.drewN nq) := (SameW.drewN w2 nq).below (Below.refl _ _)
  have HB4 := Lib.hid (stepB HB.out hb)
  generalize w2.drewN nq = w4 at *
  go_wp2
  go_ret2
  exact ⟨rfl, HB4.out⟩
end Go.Proofs.Ytoinjnocopejjaa

/- Steps, Rounds. -/
namespace Go.Proofs.Ytoinjnocopejjaa
open Go.ChangeShapes Go.WideShapes Go.ChangeAt Go.RowKit Go.Maps
set_option linter.unusedVariables false
set_option linter.unusedSimpArgs false
set_option maxRecDepth 100000 in
set_option maxHeartbeats 4000000 in
theorem rsteps_any (c : Conf) (k : Nat) (hk : k ≤ 255) (W : World) : Calls Try.prog 43 #[.agg #[.int .i64 c.ta, .int .i64 c.ac, .int .i64 c.ke, .int .i64 c.de, .int .i64 c.ts, .int .i64 c.kl, .int .i64 c.vl, .int .i64 c.fa], .int .u8 (k : Int)] W fun e w' => e = .returned (.int .i64 (stepsP c k)) ∧ Below W.heap.size W w' := by
  have hb1 : Below W.heap.size W (W.alloc (.cells #[.int .i64 c.ta, .int .i64 c.ac, .int .i64 c.ke, .int .i64 c.de, .int .i64 c.ts, .int .i64 c.kl, .int .i64 c.vl, .int .i64 c.fa] 45)) := (Below.refl _ _).alloc (Nat.le_refl _) _
  have HB := Lib.hid hb1
  have KC : Hid (Blk (W.alloc (.cells #[.int .i64 c.ta, .int .i64 c.ac, .int .i64 c.ke, .int .i64 c.de, .int .i64 c.ts, .int .i64 c.kl, .int .i64 c.vl, .int .i64 c.fa] 45)) W.heap.size #[.int .i64 c.ta, .int .i64 c.ac, .int .i64 c.ke, .int .i64 c.de, .int .i64 c.ts, .int .i64 c.kl, .int .i64 c.vl, .int .i64 c.fa] 45) := Lib.hid (Blk.new W _ 45)
  have HMY : Hid (∀ W : World, Calls Try.prog 51 #[.agg #[.int .i64 c.ta, .int .i64 c.ac, .int .i64 c.ke, .int .i64 c.de, .int .i64 c.ts, .int .i64 c.kl, .int .i64 c.vl, .int .i64 c.fa]] W fun e w' => e = .returned (.bool (mayB c)) ∧ Below W.heap.size W w') := Lib.hid (fun W => tx_may_any c W)
  obtain ⟨R, hR⟩ : ∃ R, stepsP c k = R := ⟨_, rfl⟩
  have HR := Lib.hid hR
  rw [hR]
  obtain ⟨bq, hbq⟩ : ∃ bq, mayB c = bq := ⟨_, rfl⟩
  rw [hbq] at HMY
  have HBQ := Lib.hid hbq
  have HKK := Lib.hid hk
  clear hb1 hR hbq hk
  go_enter Try.func43, Try.ntmps43
  go_upto_region 1 with (fail)
  generalize (W.alloc (.cells #[.int .i64 c.ta, .int .i64 c.ac, .int .i64 c.ke, .int .i64 c.de, .int .i64 c.ts, .int .i64 c.kl, .int .i64 c.vl, .int .i64 c.fa] 45)) = w1 at *
  have z0 := KC.out.cell 0; have z1 := KC.out.cell 1; have z2 := KC.out.cell 2; have z3 := KC.out.cell 3; have z4 := KC.out.cell 4; have z5 := KC.out.cell 5; have z6 := KC.out.cell 6; have z7 := KC.out.cell 7; simp only [List.getElem?_toArray, List.getElem?_cons_zero, List.getElem?_cons_succ] at z0 z1 z2 z3 z4 z5 z6 z7
  go_wp2_with fail
  refine (HMY.out _).mono ?_
  rintro e w2 ⟨rfl, hb⟩
  replace HB := Lib.hid (stepB HB.out hb)
  replace KC := Lib.hid (KC.out.later hb)
  clear z0 z1 z2 z3 z4 z5 z6 z7 hb HMY
  cases bq with
  | false =>
    have HF : Hid (R = 0) := Lib.hid (by rw [← HR.out]; exact steps_no HBQ.out k)
    go_wp2
    go_ret
    exact ⟨by rw [HF.out] <;> rfl, HB.out⟩
  | true =>
  have z0 := KC.out.cell 0; have z1 := KC.out.cell 1; have z2 := KC.out.cell 2; have z3 := KC.out.cell 3; have z4 := KC.out.cell 4; have z5 := KC.out.cell 5; have z6 := KC.out.cell 6; have z7 := KC.out.cell 7; simp only [List.getElem?_toArray, List.getElem?_cons_zero, List.getElem?_cons_succ] at z0 z1 z2 z3 z4 z5 z6 z7
  go_wp2_with fail
  refine (perkey_any c _ HBQ.out).mono ?_
  rintro e w3 ⟨rfl, hb⟩
  replace HB := Lib.hid (stepB HB.out hb)
  replace KC := Lib.hid (KC.out.later hb)
  clear z0 z1 z2 z3 z4 z5 z6 z7 hb
  have z0 := KC.out.cell 0; have z1 := KC.out.cell 1; have z2 := KC.out.cell 2; have z3 := KC.out.cell 3; have z4 := KC.out.cell 4; have z5 := KC.out.cell 5; have z6 := KC.out.cell 6; have z7 := KC.out.cell 7; simp only [List.getElem?_toArray, List.getElem?_cons_zero, List.getElem?_cons_succ] at z0 z1 z2 z3 z4 z5 z6 z7
  go_wp2_with fail
  refine (rbound_any c _).mono ?_
  rintro e w4 ⟨rfl, hb⟩
  replace HB := Lib.hid (stepB HB.out hb)
  replace KC := Lib.hid (KC.out.later hb)
  clear z0 z1 z2 z3 z4 z5 z6 z7 hb
  have hn := num_ok HBQ.out
  have hm := may_lo HBQ.out
  have n6 := hn.b2
  have n8 := hn.key
  have n9 := hn.slo
  have n10 := hn.kk
  have n11 := hn.ak
  have hr := HR.out
  unfold stepsP at hr
  rw [if_neg (show ¬ mayB c = false by rw [HBQ.out]; decide)] at hr
  obtain ⟨b1, hb1⟩ : ∃ b1, (boundP c).1 = b1 := ⟨_, rfl⟩
  obtain ⟨b2, hb2⟩ : ∃ b2, (boundP c).2 = b2 := ⟨_, rfl⟩
  obtain ⟨K, hK⟩ : ∃ K, keyN c = K := ⟨_, rfl⟩
  obtain ⟨S, hS⟩ : ∃ S, sloN c = S := ⟨_, rfl⟩
  rw [hb1, hb2]
  rw [hb2] at n6 n11 hr
  rw [hK] at n8 n10 n11 hr ⊢
  rw [hS] at n9 hr ⊢
  obtain ⟨KK, hKK⟩ : ∃ KK, c.ke * K = KK := ⟨_, rfl⟩
  obtain ⟨AK, hAK⟩ : ∃ AK, (b2 + c.ta + 1) * K = AK := ⟨_, rfl⟩
  rw [hKK] at n10 hr
  rw [hAK] at n11 hr
  have a1 : wrap64 (c.ke * K) = KK := by rw [hKK]; exact w64 (by omega)
  have a2 : wrap64 (4 + KK) = 4 + KK := w64 (by omega)
  have a3 : wrap64 (b2 + c.ta) = b2 + c.ta := w64 (by omega)
  have a4 : wrap64 (b2 + c.ta + 1) = b2 + c.ta + 1 := w64 (by omega)
  have a5 : wrap64 ((b2 + c.ta + 1) * K) = AK := by rw [hAK]; exact w64 (by omega)
  have a6 : wrap64 (6 + AK) = 6 + AK := w64 (by omega)
  have f1 : wrap64 (K + S) = K + S := w64 (by omega)
  have f2 : wrap64 (4 + KK + S) = 4 + KK + S := w64 (by omega)
  have f3 : wrap64 (6 + AK + S) = 6 + AK + S := w64 (by omega)
  have HR1 : Hid (k = 1 → R = 3) := Lib.hid (fun h => by rw [← hr, if_pos h])
  have HR2 : Hid ((k = 2 ∨ k = 3 ∨ k = 4) → R = wrap64 (K + S)) := Lib.hid (fun h => by rw [← hr, f1, if_neg (by omega), if_pos h])
  have HR3 : Hid ((k = 6 ∨ k = 7) → R = wrap64 (4 + KK + S)) := Lib.hid (fun h => by rw [← hr, f2, if_neg (by omega), if_neg (by omega), if_pos h])
  have HR4 : Hid ((k = 5 ∨ k = 8 ∨ k = 9) → R = wrap64 (6 + AK + S)) := Lib.hid (fun h => by rw [← hr, f3, if_neg (by omega), if_neg (by omega), if_neg (by omega), if_pos h])
  have HR5 : Hid (¬ (k = 1 ∨ k = 2 ∨ k = 3 ∨ k = 4 ∨ k = 5 ∨ k = 6 ∨ k = 7 ∨ k = 8 ∨ k = 9) → R = 2) := Lib.hid (fun h => by rw [← hr, if_neg (by omega), if_neg (by omega), if_neg (by omega), if_neg (by omega)])
  clear hn hm n6 n8 n9 n10 n11 hr hb1 hb2 hK hS hKK hAK f1 f2 f3
  have z0 := KC.out.cell 0
  have z2 := KC.out.cell 2
  simp only [List.getElem?_toArray, List.getElem?_cons_zero, List.getElem?_cons_succ] at z0 z2
  by_cases hk : k = 1 ∨ k = 2 ∨ k = 3 ∨ k = 4 ∨ k = 5 ∨ k = 6 ∨ k = 7 ∨ k = 8 ∨ k = 9
  · rcases hk with rfl | rfl | rfl | rfl | rfl | rfl | rfl | rfl | rfl
    · have HF := Lib.hid (HR1.out rfl)
      go_wp2
      go_ret
      exact ⟨by rw [HF.out] <;> rfl, HB.out⟩
    iterate 3
      · have HF := Lib.hid (HR2.out (by decide))
        go_wp2
        go_ret
        exact ⟨by rw [HF.out] <;> rfl, HB.out⟩
    · have HF := Lib.hid (HR4.out (by decide))
      go_wp2
      go_ret
      exact ⟨by rw [HF.out] <;> rfl, HB.out⟩
    iterate 2
      · have HF := Lib.hid (HR3.out (by decide))
        go_wp2
        go_ret
        exact ⟨by rw [HF.out] <;> rfl, HB.out⟩
    iterate 2
      · have HF := Lib.hid (HR4.out (by decide))
        go_wp2
        go_ret
        exact ⟨by rw [HF.out] <;> rfl, HB.out⟩
  · have HF := Lib.hid (HR5.out hk)
    have g1 : ((k : Int) == 1) = false := by rw [beq_eq_false_iff_ne]; omega
    have g2 : ((k : Int) == 2) = false := by rw [beq_eq_false_iff_ne]; omega
    have g3 : ((k : Int) == 3) = false := by rw [beq_eq_false_iff_ne]; omega
    have g4 : ((k : Int) == 4) = false := by rw [beq_eq_false_iff_ne]; omega
    have g5 : ((k : Int) == 5) = false := by rw [beq_eq_false_iff_ne]; omega
    have g6 : ((k : Int) == 6) = false := by rw [beq_eq_false_iff_ne]; omega
    have g7 : ((k : Int) == 7) = false := by rw [beq_eq_false_iff_ne]; omega
    have g8 : ((k : Int) == 8) = false := by rw [beq_eq_false_iff_ne]; omega
    have g9 : ((k : Int) == 9) = false := by rw [beq_eq_false_iff_ne]; omega
    clear hk
    go_wp2
    go_ret
    exact ⟨by rw [HF.out] <;> rfl, HB.out⟩
set_option maxRecDepth 100000 in
set_option maxHeartbeats 4000000 in
theorem rrounds_any (c : Conf) (W : World) : Calls Try.prog 44 #[.agg #[.int .i64 c.ta, .int .i64 c.ac, .int .i64 c.ke, .int .i64 c.de, .int .i64 c.ts, .int .i64 c.kl, .int .i64 c.vl, .int .i64 c.fa]] W fun e w' => e = .returned (.int .i64 (roundsP c)) ∧ Below W.heap.size W w' := by
  have hb1 : Below W.heap.size W (W.alloc (.cells #[.int .i64 c.ta, .int .i64 c.ac, .int .i64 c.ke, .int .i64 c.de, .int .i64 c.ts, .int .i64 c.kl, .int .i64 c.vl, .int .i64 c.fa] 45)) := (Below.refl _ _).alloc (Nat.le_refl _) _
  have HB := Lib.hid hb1
  have KC : Hid (Blk (W.alloc (.cells #[.int .i64 c.ta, .int .i64 c.ac, .int .i64 c.ke, .int .i64 c.de, .int .i64 c.ts, .int .i64 c.kl, .int .i64 c.vl, .int .i64 c.fa] 45)) W.heap.size #[.int .i64 c.ta, .int .i64 c.ac, .int .i64 c.ke, .int .i64 c.de, .int .i64 c.ts, .int .i64 c.kl, .int .i64 c.vl, .int .i64 c.fa] 45) := Lib.hid (Blk.new W _ 45)
  have HST := Lib.hid (fun k (hk : k ≤ 255) W => rsteps_any c k hk W)
  have HRW : Hid (roundsP c = wrap64 (c.ta * mostP c 10)) := Lib.hid (by
    unfold roundsP
    cases hm : mayB c with
    | true =>
      have h1 := may_lo hm
      have h2 := most_b c 10
      have h3 := mulB (a := c.ta) (b := mostP c 10) (A := 6) (B := 16542104) (by omega) (by omega) (by omega) (by omega)
      rw [w64 (by omega)]
    | false => rw [most_no hm, Int.mul_zero]; exact (w64 ⟨by decide, by decide⟩).symm)
  clear hb1
  go_enter Try.func44, Try.ntmps44
  go_upto_region 1 with (fail)
  generalize (W.alloc (.cells #[.int .i64 c.ta, .int .i64 c.ac, .int .i64 c.ke, .int .i64 c.de, .int .i64 c.ts, .int .i64 c.kl, .int .i64 c.vl, .int .i64 c.fa] 45)) = w1 at *
  go_wp2
  go_loopw [3, 5] (fun s3 s5 W' => ∃ k : Nat, k ≤ 10 ∧ s5 = .int .u8 k ∧ s3 = .int .i64 (mostP c k) ∧ Below W.heap.size W W' ∧ Blk W' W.heap.size #[.int .i64 c.ta, .int .i64 c.ac, .int .i64 c.ke, .int .i64 c.de, .int .i64 c.ts, .int .i64 c.kl, .int .i64 c.vl, .int .i64 c.fa] 45) (fun _ s5 _ => 10 - (intOf s5).toNat)
  case atStart => exact ⟨0, Nat.zero_le _, rfl, rfl, HB.out, KC.out⟩
  case round =>
    obtain ⟨k, hk, rfl, rfl, hb, hc⟩ := hrel
    have HBW := Lib.hid hb
    clear HB KC hb
    have KC := Lib.hid hc
    clear hc
    by_cases hlt : k < 10
    · have d2 : decide ((k : Int) < 10) = true := decide_eq_true (by omega)
      have wk : IntKind.u8.wrap ((k : Int) + 1) = (k : Int) + 1 := by rcases (by omega : k = 0 ∨ k = 1 ∨ k = 2 ∨ k = 3 ∨ k = 4 ∨ k = 5 ∨ k = 6 ∨ k = 7 ∨ k = 8 ∨ k = 9) with rfl | rfl | rfl | rfl | rfl | rfl | rfl | rfl | rfl | rfl <;> rfl
      have z0 := KC.out.cell 0; have z1 := KC.out.cell 1; have z2 := KC.out.cell 2; have z3 := KC.out.cell 3; have z4 := KC.out.cell 4; have z5 := KC.out.cell 5; have z6 := KC.out.cell 6; have z7 := KC.out.cell 7; simp only [List.getElem?_toArray, List.getElem?_cons_zero, List.getElem?_cons_succ] at z0 z1 z2 z3 z4 z5 z6 z7
      have HMX : Hid (mostP c (k + 1) = max (mostP c k) (stepsP c k)) := Lib.hid rfl
      go_wp2_with fail
      refine (HST.out k (by omega) _).mono ?_
      rintro e w3 ⟨rfl, hb⟩
      have HB3 := Lib.hid (stepB HBW.out hb)
      have KC3 := Lib.hid (KC.out.later hb)
      clear z0 z1 z2 z3 z4 z5 z6 z7 hb KC HBW
      obtain ⟨m1, hm1⟩ : ∃ m1, mostP c k = m1 := ⟨_, rfl⟩
      obtain ⟨m2, hm2⟩ : ∃ m2, stepsP c k = m2 := ⟨_, rfl⟩
      rw [hm1, hm2] at HMX
      rw [hm1, hm2]
      clear hm1 hm2
      go_wp2
      refine ⟨⟨k + 1, by omega, by go_num, by rw [HMX.out], HB3.out, KC3.out⟩, ?_⟩
      simp [intOf]; omega
    · obtain rfl : k = 10 := by omega
      have z0 := KC.out.cell 0
      simp only [List.getElem?_toArray, List.getElem?_cons_zero] at z0
      obtain ⟨m1, hm1⟩ : ∃ m1, mostP c 10 = m1 := ⟨_, rfl⟩
      rw [hm1] at HRW ⊢
      clear hm1
      go_wp2
      go_ret
      exact ⟨by rw [HRW.out] <;> rfl, HBW.out⟩
end Go.Proofs.Ytoinjnocopejjaa

/- What there may be behind a history: Now. -/
namespace Go.Proofs.Ytoinjnocopejjaa
open Go.ChangeShapes Go.WideShapes Go.ChangeAt Go.RowKit Go.Maps
set_option linter.unusedVariables false
set_option linter.unusedSimpArgs false
set_option maxRecDepth 100000 in
set_option maxHeartbeats 4000000 in
theorem ask_any (c : Conf) (bx : Nat) (kn eg : Nat) (tx li : Int) (ke en vl : ByteArray) (t : Nat) (W : World) (hbx : Blk W bx #[.int .i64 c.ta, .int .i64 c.ac, .int .i64 c.ke, .int .i64 c.de, .int .i64 c.ts, .int .i64 c.kl, .int .i64 c.vl, .int .i64 c.fa] 45) (hde : 2 ≤ c.de ∧ c.de ≤ 8) : Calls Try.prog 75 #[.agg #[.int .u8 (kn : Int), .int .i64 tx, .string ke, .string en, .string vl, .int .i64 li, .int .u8 (eg : Int)], .int .i64 (t : Int), .pointer (some ⟨bx, 0, none⟩)] W fun e w' => e = .returned (.tuple #[.int .i64 (askP c (kn, tx, ke, en, vl, li, eg) t).1, .int .i64 (askP c (kn, tx, ke, en, vl, li, eg) t).2]) ∧ Below W.heap.size W w' := by
  have hb1 : Below W.heap.size W (W.alloc (.cells #[.int .u8 (kn : Int), .int .i64 tx, .string ke, .string en, .string vl, .int .i64 li, .int .u8 (eg : Int)] 36)) := (Below.refl _ _).alloc (Nat.le_refl _) _
  have HB := Lib.hid hb1
  have KX : Hid (Blk (W.alloc (.cells #[.int .u8 (kn : Int), .int .i64 tx, .string ke, .string en, .string vl, .int .i64 li, .int .u8 (eg : Int)] 36)) W.heap.size #[.int .u8 (kn : Int), .int .i64 tx, .string ke, .string en, .string vl, .int .i64 li, .int .u8 (eg : Int)] 36) := Lib.hid (Blk.new W _ 36)
  have KC : Hid (Blk (W.alloc (.cells #[.int .u8 (kn : Int), .int .i64 tx, .string ke, .string en, .string vl, .int .i64 li, .int .u8 (eg : Int)] 36)) bx #[.int .i64 c.ta, .int .i64 c.ac, .int .i64 c.ke, .int .i64 c.de, .int .i64 c.ts, .int .i64 c.kl, .int .i64 c.vl, .int .i64 c.fa] 45) := Lib.hid (hbx.later hb1)
  have HDE := Lib.hid hde
  obtain ⟨R, hR⟩ : ∃ R, askP c (kn, tx, ke, en, vl, li, eg) t = R := ⟨_, rfl⟩
  rw [hR]
  unfold askP at hR
  have HR := Lib.hid hR
  clear hb1 hbx hR hde
  go_enter Try.func75, Try.ntmps75
  go_upto_region 1 with (fail)
  generalize W.alloc (.cells #[.int .u8 (kn : Int), .int .i64 tx, .string ke, .string en, .string vl, .int .i64 li, .int .u8 (eg : Int)] 36) = w1 at *
  generalize W.heap.size = bc at KX ⊢
  have x0 := KX.out.cell 0
  simp only [List.getElem?_toArray, List.getElem?_cons_zero] at x0
  by_cases h3 : kn = 3
  · have g3 : ((kn : Int) == 3) = true := by rw [h3]; rfl
    have HF : Hid (R = (2, 1)) := Lib.hid (by rw [← HR.out, if_pos (.inl h3)])
    clear h3
    go_wp2
    go_ret2
    exact ⟨by rw [HF.out] <;> rfl, HB.out⟩
  have g3 : ((kn : Int) == 3) = false := by rw [beq_eq_false_iff_ne]; omega
  by_cases h4 : kn = 4
  · have g4 : ((kn : Int) == 4) = true := by rw [h4]; rfl
    have HF : Hid (R = (2, 1)) := Lib.hid (by rw [← HR.out, if_pos (.inr h4)])
    clear h4 h3
    go_wp2
    go_ret2
    exact ⟨by rw [HF.out] <;> rfl, HB.out⟩
  have g4 : ((kn : Int) == 4) = false := by rw [beq_eq_false_iff_ne]; omega
  by_cases h9 : kn = 9
  · have g9 : ((kn : Int) == 9) = true := by rw [h9]; rfl
    have wc : wrap64 (c.de + 1) = c.de + 1 := w64 (by have := HDE.out; omega)
    have HF : Hid (R = (wrap64 (c.de + 1), 0)) := Lib.hid (by rw [wc, ← HR.out, if_neg (by omega), if_pos h9])
    have c3 := KC.out.cell 3
    simp only [List.getElem?_toArray, List.getElem?_cons_zero, List.getElem?_cons_succ] at c3
    clear h9 h3 h4 wc
    go_wp2
    go_ret2
    exact ⟨by rw [HF.out] <;> rfl, HB.out⟩
  have g9 : ((kn : Int) == 9) = false := by rw [beq_eq_false_iff_ne]; omega
  have HF : Hid (R = ((t : Int), (t : Int))) := Lib.hid (by rw [← HR.out, if_neg (by omega), if_neg h9])
  clear h9 h3 h4
  go_wp2
  go_ret2
  exact ⟨by rw [HF.out] <;> rfl, HB.out⟩
end Go.Proofs.Ytoinjnocopejjaa
