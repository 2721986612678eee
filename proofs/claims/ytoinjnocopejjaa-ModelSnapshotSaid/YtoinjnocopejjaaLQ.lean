/- LQ, LR, LS in one. -/
import Derived.Test.YtoinjnocopejjaaLK
import Derived.StillTailTactics
import Derived.Deep.QuietTactic
import Derived.BigQuiet
import Derived.Test.YtoinjnocopejjaaOC
import Derived.Test.YtoinjnocopejjaaNZ
import Derived.ArgAppend
import Derived.Test.YtoinjnocopejjaaLA
/- What a transaction is to read of a key. -/
namespace Go.Proofs.Ytoinjnocopejjaa
open Go.ChangeShapes Go.WideShapes Go.ChangeAt Go.RowKit Go.Maps
set_option linter.unusedVariables false
set_option linter.unusedSimpArgs false
theorem wk_m (k : Nat) (h : k ≤ 100000) : IntKind.i64.wrap ((k : Int) + 1) = (k : Int) + 1 ∧ wrap64 ((k : Int) + 1) = (k : Int) + 1 := ⟨IntWalk.i64_in _ (by omega), by unfold wrap64; omega⟩
theorem wk_d (v : Int) (h : 0 ≤ v ∧ v ≤ 100000) : IntKind.i64.wrap (v - 1) = v - 1 ∧ wrap64 (v - 1) = v - 1 := ⟨IntWalk.i64_in _ (by omega), by unfold wrap64; omega⟩
theorem ms_d (v : Int) (h : 0 ≤ v) : (intOf (.int .i64 (v - 1)) + 1).toNat < (intOf (.int .i64 v) + 1).toNat := by simp [intOf]; omega
theorem lastW_take {key : ByteArray} {l : List Fc} {k : Nat} {f : Fc} (h : l[k]? = some f) : lastW key (l.take (k + 1)) = if f.key = key then some f else lastW key (l.take k) := by
  rw [List.take_add_one, h]; exact lastW_app key f _
theorem bestF_take {key : ByteArray} {q : Int} {l : List Fc} {k : Nat} {f : Fc} (h : l[k]? = some f) : bestF key q (l.take (k + 1)) = bestS key q (bestF key q (l.take k)) f := by
  rw [List.take_add_one, h, bestF_app]; rfl
theorem readF_some {fs : List Fc} {l : Lf} {k : ByteArray} {f : Fc} (h : lastW k l.ws = some f) : readF fs l k = f := by unfold readF; rw [h]
theorem readF_none {fs : List Fc} {l : Lf} {k : ByteArray} (h : lastW k l.ws = none) : readF fs l k = bestF k l.sn fs := by unfold readF; rw [h]
set_option maxRecDepth 100000 in
set_option maxHeartbeats 1600000 in
theorem reads_any (B p : Nat) (g : Lg) (x : LX) (i : Nat) (key : ByteArray) (w : World) (h : LgAt w B p g x) (hi : i < g.lives.length) (hw : (gl g i).ws.length ≤ 1000) (hf : g.facts.length ≤ 100000) :
    Calls Try.prog 34 #[.pointer (some ⟨p, 0, none⟩), .int .i64 (i : Int), .string key] w fun e w' => e = .returned (.tuple #[.string (readL g i key).val, .bool (!(readL g i key).tomb)]) ∧ Below w.heap.size w w' := by
  have H := Lib.hid h
  have HW := Lib.hid hw
  have HF := Lib.hid hf
  obtain ⟨b, off, hd, hA, hh, hc⟩ := h.life hi
  have HR := Lib.hid (h.ws i hd _ hh (gl_at hi))
  obtain ⟨nl, hnl⟩ : ∃ nl, g.lives.length = nl := ⟨_, rfl⟩
  have q2 := h.c0.2.2
  rw [hA, hnl] at q2
  have i1 := idx59 b off nl x.lc i (i : Int) rfl (by rw [← hnl]; exact hi)
  have c0 := hc 0 (by decide)
  have c1 := hc 1 (by decide)
  have c2 := hc 2 (by decide)
  have c3 := hc 3 (by decide)
  have c4 := hc 4 (by decide)
  have c5 := hc 5 (by decide)
  unfold lfE at c0 c1 c2 c3 c4 c5
  simp only [List.getElem?_cons_zero, List.getElem?_cons_succ, Nat.add_zero] at c0 c1 c2 c3 c4 c5
  obtain ⟨RR, hRR⟩ : ∃ RR, readL g i key = RR := ⟨_, rfl⟩
  have hRR2 : readF g.facts (gl g i) key = RR := hRR
  rw [hRR]
  clear hc hA hh hnl hi hRR h hw hf
  obtain ⟨la, hla⟩ : ∃ la, gl g i = la := ⟨_, rfl⟩
  rw [hla] at HR HW c0 c1 c2 c3 c4 c5 hRR2
  clear hla
  have HRR := Lib.hid hRR2
  clear hRR2
  obtain ⟨lt, ln, sn, ws, lb, lo⟩ := la
  simp only at HR HW c0 c1 c2 c3 c4 c5
  obtain ⟨n, hn⟩ : ∃ n, ws.length = n := ⟨_, rfl⟩
  rw [hn] at HR HW c3
  have HN := Lib.hid hn
  clear hn
  have HB1 : Hid (Below w.heap.size w (w.alloc (.cells #[.int .i64 lt, .int .i64 ln, .int .i64 sn, .slice hd.1 n hd.2, .int .i64 lb, .int .i64 lo] 73))) := Lib.hid ((Below.refl _ _).alloc (Nat.le_refl _) _)
  have KX : Hid (Blk (w.alloc (.cells #[.int .i64 lt, .int .i64 ln, .int .i64 sn, .slice hd.1 n hd.2, .int .i64 lb, .int .i64 lo] 73)) w.heap.size #[.int .i64 lt, .int .i64 ln, .int .i64 sn, .slice hd.1 n hd.2, .int .i64 lb, .int .i64 lo] 73) := Lib.hid (Blk.new w _ 73)
  go_enter Try.func34, Try.ntmps34
  go_upto_region 2 with (fail)
  clear c0 c1 c2 c3 c4 c5 q2 i1
  generalize w.alloc (.cells #[.int .i64 lt, .int .i64 ln, .int .i64 sn, .slice hd.1 n hd.2, .int .i64 lb, .int .i64 lo] 73) = w1 at *
  have k3 := KX.out.cell 3
  simp only [List.getElem?_toArray, List.getElem?_cons_zero, List.getElem?_cons_succ] at k3
  have wn : IntKind.i64.wrap ((n : Int) - 1) = (n : Int) - 1 := IntWalk.i64_in _ (by have := HW.out; omega)
  have wn2 : wrap64 ((n : Int) - 1) = (n : Int) - 1 := by have := HW.out; unfold wrap64; omega
  go_wp2
  go_loopw [9] (fun s9 W => ∃ (k : Nat) (v : Int), k ≤ n ∧ v = (k : Int) - 1 ∧ s9 = .int .i64 v ∧ lastW key (ws.take k) = lastW key ws ∧ Below w.heap.size w W ∧ Blk W w.heap.size #[.int .i64 lt, .int .i64 ln, .int .i64 sn, .slice hd.1 n hd.2, .int .i64 lb, .int .i64 lo] 73) (fun s9 _ => (intOf s9 + 1).toNat)
  case atStart => exact ⟨n, _, Nat.le_refl _, rfl, rfl, by rw [List.take_of_length_le (by rw [HN.out]; exact Nat.le_refl _)], HB1.out, KX.out⟩
  case round =>
    obtain ⟨k, v, hk, hv, rfl, hlw, hb, hkx⟩ := hrel
    clear HB1 KX
    have HV := Lib.hid hv
    have HLW := Lib.hid hlw
    have HB := Lib.hid hb
    have KX := Lib.hid hkx
    clear hlw hb hkx
    have k3 := KX.out.cell 3
    simp only [List.getElem?_toArray, List.getElem?_cons_zero, List.getElem?_cons_succ] at k3
    cases k with
    | succ k =>
      have d2 : decide (v ≥ 0) = true := decide_eq_true (by omega)
      have d2' : decide (0 ≤ v) = true := decide_eq_true (by omega)
      obtain ⟨wv, wv2⟩ := wk_d v (by have := HW.out; omega)
      have HMS := Lib.hid (ms_d v (by omega))
      have hrow := HR.out.later HB.out
      obtain ⟨g5, o5, hA5, hg5, hc5⟩ := (hrow.rsl fcE_len).2 (by omega)
      have hkl : k < ws.length := by rw [HN.out]; omega
      have hfk : ws[k]? = some ws[k] := List.getElem?_eq_getElem hkl
      have htk := lastW_take (key := key) hfk
      have x1 := hc5 k _ hfk 1 (by decide)
      have x2 := hc5 k _ hfk 2 (by decide)
      have x3 := hc5 k _ hfk 3 (by decide)
      generalize ws[k] = f at *
      obtain ⟨fts, fk, ft, fv⟩ := f
      unfold fcE at x1 x2 x3
      simp only [List.getElem?_cons_zero, List.getElem?_cons_succ] at x1 x2 x3 htk
      rw [hA5] at k3
      have j1 := idx58 g5 o5 n hd.2 k v (by omega) (by omega)
      have HTK := Lib.hid htk
      have HKN := Lib.hid hk
      clear hrow hg5 hc5 hkl hfk hA5 htk hv hk
      by_cases e : fk = key
      · have e9 := tl_eq e
        have HE : Hid (RR = ⟨fts, fk, ft, fv⟩) := Lib.hid (by
          rw [← HRR.out]
          exact readF_some (by rw [← HLW.out, HTK.out, if_pos e]))
        clear e
        go_wp2
        go_quiet (fail)
        go_wp2
        go_ret2
        exact ⟨by rw [HE.out]; rfl, below_drewN HB.out _⟩
      · have e9 := tl_ne e
        have HLW2 : Hid (lastW key (ws.take k) = lastW key ws) := Lib.hid (by rw [← HLW.out, HTK.out, if_neg e])
        clear e
        go_wp2
        exact ⟨⟨k, v - 1, Nat.le_of_succ_le HKN.out, by have := HV.out; omega, by go_num, HLW2.out, HB.out, KX.out⟩, HMS.out⟩
    | zero =>
      have d2 : decide (v ≥ 0) = false := decide_eq_false (by omega)
      have d2' : decide (0 ≤ v) = false := decide_eq_false (by omega)
      have HBE : Hid (bestF key sn g.facts = RR) := Lib.hid (by
        rw [← HRR.out, readF_none (l := ⟨lt, ln, sn, ws, lb, lo⟩) (by rw [← HLW.out]; rfl)])
      clear hv hk
      have hb1 : Below wr.heap.size wr (wr.alloc (.cells #[.int .i64 0, .string { data := #[] }, .bool true, .string { data := #[] }] 75)) := (Below.refl _ _).alloc (Nat.le_refl _) _
      have KBE : Hid (Blk (wr.alloc (.cells #[.int .i64 0, .string { data := #[] }, .bool true, .string { data := #[] }] 75)) wr.heap.size #[.int .i64 0, .string { data := #[] }, .bool true, .string { data := #[] }] 75) := Lib.hid (Blk.new wr _ 75)
      have HSZ : Hid (w.heap.size < wr.heap.size) := Lib.hid (KX.out.lt)
      replace KX := Lib.hid (KX.out.later hb1)
      replace HB := Lib.hid (stepB HB.out hb1)
      clear hb1
      go_upto_region 8 with (fail)
      clear k3 d2 d2'
      generalize wr.alloc (.cells #[.int .i64 0, .string { data := #[] }, .bool true, .string { data := #[] }] 75) = w5 at *
      obtain ⟨pb, hpb⟩ : ∃ z, wr.heap.size = z := ⟨_, rfl⟩
      rw [hpb] at KBE HSZ ⊢
      clear hpb
      obtain ⟨m, hm⟩ : ∃ m, g.facts.length = m := ⟨_, rfl⟩
      have HM := Lib.hid hm
      rw [hm] at HF
      clear hm
      have H5 := Lib.hid (H.out.later HB.out)
      have HB5 := HB
      have HSN : Hid (∀ W, Below w.heap.size w W → W.cell? ⟨p, 1, none⟩ = some (.slice x.fA m x.fc) ∧ RSl fcE 4 W x.fA m g.facts) := Lib.hid (fun W hW => by
        have h2 := H.out.later hW
        have h3 := h2.c0.2.1
        have h4 := h2.fa.rsl fcE_len
        rw [HM.out] at h3 h4
        exact ⟨h3, h4⟩)
      clear H H5 HRR HLW HV HR
      go_wp2
      go_loopw [11] (fun s11 W => ∃ (k : Nat) (bf : Fc), k ≤ m ∧ s11 = .int .i64 (k : Int) ∧ bestF key sn (g.facts.take k) = bf ∧ Below w.heap.size w W ∧ Blk W w.heap.size #[.int .i64 lt, .int .i64 ln, .int .i64 sn, .slice hd.1 n hd.2, .int .i64 lb, .int .i64 lo] 73 ∧ Blk W pb #[.int .i64 bf.ts, .string bf.key, .bool bf.tomb, .string bf.val] 75) (fun s11 _ => m - (intOf s11).toNat)
      case atStart => exact ⟨0, fcT, Nat.zero_le _, rfl, rfl, HB.out, KX.out, KBE.out⟩
      case round =>
        obtain ⟨k, bf, hk, rfl, hbf, hb, hkx, hkb⟩ := hrel
        clear HB5 HB KX KBE
        have HBF := Lib.hid hbf
        have HB := Lib.hid hb
        have KX := Lib.hid hkx
        have KB := Lib.hid hkb
        clear hbf hb hkx hkb
        obtain ⟨q1, hrow⟩ := HSN.out _ HB.out
        by_cases hlt : k < m
        · have d2 : decide ((k : Int) < (m : Int)) = true := decide_eq_true (Int.ofNat_lt.2 hlt)
          have d2' : decide (k < m) = true := decide_eq_true hlt
          obtain ⟨wk, wk2⟩ := wk_m k (by have := HF.out; omega)
          obtain ⟨g5, o5, hA5, hg5, hc5⟩ := hrow.2 (by omega)
          have hkl : k < g.facts.length := by rw [HM.out]; exact hlt
          have hfk : g.facts[k]? = some g.facts[k] := List.getElem?_eq_getElem hkl
          have htk := bestF_take (key := key) (q := sn) hfk
          have x0 := hc5 k _ hfk 0 (by decide)
          have x1 := hc5 k _ hfk 1 (by decide)
          have x2 := hc5 k _ hfk 2 (by decide)
          have x3 := hc5 k _ hfk 3 (by decide)
          generalize g.facts[k] = f at *
          obtain ⟨fts, fk, ft, fv⟩ := f
          unfold fcE at x0 x1 x2 x3
          simp only [List.getElem?_cons_zero, List.getElem?_cons_succ, Nat.add_zero] at x0 x1 x2 x3
          rw [hA5] at q1
          have j1 := idx58 g5 o5 m x.fc k (k : Int) rfl hlt
          rw [HBF.out] at htk
          have HTK := Lib.hid htk
          have HKM := Lib.hid hlt
          have hbb : Below wr.heap.size wr (wr.alloc (.cells #[.int .i64 fts, .string fk, .bool ft, .string fv] 75)) := (Below.refl _ _).alloc (Nat.le_refl _) _
          have KF : Hid (Blk (wr.alloc (.cells #[.int .i64 fts, .string fk, .bool ft, .string fv] 75)) wr.heap.size #[.int .i64 fts, .string fk, .bool ft, .string fv] 75) := Lib.hid (Blk.new wr _ 75)
          have HNB : Hid (pb ≠ wr.heap.size) := Lib.hid (by have := KB.out.lt; omega)
          replace KX := Lib.hid (KX.out.later hbb)
          replace KB := Lib.hid (KB.out.later hbb)
          replace HB := Lib.hid (stepB HB.out hbb)
          clear hrow hg5 hc5 hkl hfk hA5 htk hbb hk hlt
          go_upto_region 12 with (fail)
          clear x0 x1 x2 x3 q1 j1 d2 d2'
          generalize wr.alloc (.cells #[.int .i64 fts, .string fk, .bool ft, .string fv] 75) = w6 at *
          obtain ⟨pf, hpf⟩ : ∃ z, wr.heap.size = z := ⟨_, rfl⟩
          rw [hpf] at KF HNB ⊢
          clear hpf
          have z0 := KF.out.cell 0
          have z1 := KF.out.cell 1
          have z2 := KF.out.cell 2
          have z3 := KF.out.cell 3
          have u2 := KX.out.cell 2
          have b0 := KB.out.cell 0
          simp only [List.getElem?_toArray, List.getElem?_cons_zero, List.getElem?_cons_succ] at z0 z1 z2 z3 u2 b0
          have HMS := Lib.hid (ms_n k m HKM.out)
          by_cases e1 : fk = key
          · have e9 := tl_eq e1
            by_cases e2 : fts ≤ sn
            · have g2 : decide (fts ≤ sn) = true := decide_eq_true e2
              by_cases e3 : bf.ts < fts
              · have g3 : decide (fts > bf.ts) = true := decide_eq_true e3
                have g3' : decide (bf.ts < fts) = true := decide_eq_true e3
                have HNX : Hid (bestF key sn (g.facts.take (k + 1)) = ⟨fts, fk, ft, fv⟩) := Lib.hid (by
                  rw [HTK.out]; unfold bestS; rw [if_pos ⟨e1, e2, e3⟩])
                clear e1 e2 e3
                have b1 := KB.out.cell 1
                have b2 := KB.out.cell 2
                have b3 := KB.out.cell 3
                have f0 := KB.out.frozen 0
                have f1 := KB.out.frozen 1
                have f2 := KB.out.frozen 2
                have f3 := KB.out.frozen 3
                simp only [List.getElem?_toArray, List.getElem?_cons_zero, List.getElem?_cons_succ] at b1 b2 b3
                go_wp2
                refine ⟨⟨k + 1, ⟨fts, fk, ft, fv⟩, HKM.out, by go_num, HNX.out, (((HB.out.setCell (Nat.le_of_lt HSZ.out) _).setCell (Nat.le_of_lt HSZ.out) _).setCell (Nat.le_of_lt HSZ.out) _).setCell (Nat.le_of_lt HSZ.out) _, (((KX.out.other (Nat.ne_of_lt HSZ.out) _).other (Nat.ne_of_lt HSZ.out) _).other (Nat.ne_of_lt HSZ.out) _).other (Nat.ne_of_lt HSZ.out) _, ?_⟩, HMS.out⟩
                exact (((KB.out.set (j := 0) _).set (j := 1) _).set (j := 2) _).set (j := 3) _
              · have g3 : decide (fts > bf.ts) = false := decide_eq_false e3
                have g3' : decide (bf.ts < fts) = false := decide_eq_false e3
                have HNX : Hid (bestF key sn (g.facts.take (k + 1)) = bf) := Lib.hid (by
                  rw [HTK.out]; unfold bestS; rw [if_neg (fun e => e3 e.2.2)])
                clear e1 e2 e3
                go_wp2
                exact ⟨⟨k + 1, bf, HKM.out, by go_num, HNX.out, HB.out, KX.out, KB.out⟩, HMS.out⟩
            · have g2 : decide (fts ≤ sn) = false := decide_eq_false e2
              have HNX : Hid (bestF key sn (g.facts.take (k + 1)) = bf) := Lib.hid (by
                rw [HTK.out]; unfold bestS; rw [if_neg (fun e => e2 e.2.1)])
              clear e1 e2
              go_wp2
              exact ⟨⟨k + 1, bf, HKM.out, by go_num, HNX.out, HB.out, KX.out, KB.out⟩, HMS.out⟩
          · have e9 := tl_ne e1
            have HNX : Hid (bestF key sn (g.facts.take (k + 1)) = bf) := Lib.hid (by
              rw [HTK.out]; unfold bestS; rw [if_neg (fun e => e1 e.1)])
            clear e1
            go_wp2
            exact ⟨⟨k + 1, bf, HKM.out, by go_num, HNX.out, HB.out, KX.out, KB.out⟩, HMS.out⟩
        · obtain rfl : m = k := by omega
          have d2 : decide ((m : Int) < (m : Int)) = false := decide_eq_false (Int.lt_irrefl _)
          have HFI : Hid (RR = bf) := Lib.hid (by
            rw [← HBE.out, ← HBF.out, List.take_of_length_le (by rw [HM.out]; exact Nat.le_refl _)])
          have b2 := KB.out.cell 2
          have b3 := KB.out.cell 3
          simp only [List.getElem?_toArray, List.getElem?_cons_zero, List.getElem?_cons_succ] at b2 b3
          clear hlt hk
          go_wp2
          go_quiet (fail)
          go_wp2
          go_ret2
          exact ⟨by rw [HFI.out]; rfl, below_drewN HB.out _⟩
end Go.Proofs.Ytoinjnocopejjaa

/- What a Scan is to tell: rows put in one by one. -/
namespace Go.Proofs.Ytoinjnocopejjaa
open Go.ChangeShapes Go.WideShapes Go.ChangeAt Go.RowKit Go.Maps
set_option linter.unusedVariables false
set_option linter.unusedSimpArgs false
theorem up_ins {l : List Pr} {j : Nat} {x : Pr} (h : Up l) (h1 : ∀ p ∈ l.take j, kB p.1 x.1 = true) (h2 : ∀ p ∈ l.drop j, kB x.1 p.1 = true) : Up (l.take j ++ x :: l.drop j) := by
  unfold Up at h ⊢
  rw [List.pairwise_append]
  refine ⟨h.sublist (List.take_sublist _ _), List.pairwise_cons.2 ⟨h2, h.sublist (List.drop_sublist _ _)⟩, fun a ha b hb => ?_⟩
  rcases List.mem_cons.1 hb with rfl | hb
  · exact h1 a ha
  · exact kB_trans (h1 a ha) (h2 b hb)
theorem up_tail {l : List Pr} {j : Nat} {p : Pr} (h : Up l) (hj : l[j]? = some p) {k : ByteArray} (hk : kB k p.1 = true) : ∀ q ∈ l.drop j, kB k q.1 = true := by
  obtain ⟨hl, rfl⟩ := List.getElem?_eq_some_iff.1 hj
  intro q hq
  rw [List.drop_eq_getElem_cons hl] at hq
  rcases List.mem_cons.1 hq with rfl | hq
  · exact hk
  · have hu : (l.drop j).Pairwise fun p q : Pr => kB p.1 q.1 = true := h.sublist (List.drop_sublist _ _)
    rw [List.drop_eq_getElem_cons hl] at hu
    exact kB_trans hk ((List.pairwise_cons.1 hu).1 q hq)
theorem mem_ins {l : List Pr} {j : Nat} {x p : Pr} : p ∈ l.take j ++ x :: l.drop j ↔ p = x ∨ p ∈ l := by
  have e : p ∈ l ↔ p ∈ l.take j ∨ p ∈ l.drop j := by rw [← List.mem_append, List.take_append_drop]
  rw [e, List.mem_append, List.mem_cons]
  constructor
  · rintro (h | h | h)
    · exact .inr (.inl h)
    · exact .inl h
    · exact .inr (.inr h)
  · rintro (h | h | h)
    · exact .inr (.inl h)
    · exact .inl h
    · exact .inr (.inr h)
/-- the rows of the keys asked so far -/
def SMem (rd : ByteArray → Fc) (ke en : ByteArray) (ks : List ByteArray) (l : List Pr) : Prop := ∀ p : Pr, p ∈ l ↔ p.1 ∈ ks ∧ wi p.1 ke en = true ∧ (rd p.1).tomb = false ∧ p.2 = (rd p.1).val
section
variable {rd : ByteArray → Fc} {ke en key : ByteArray} {ks : List ByteArray} {l m : List Pr}
theorem SMem.skip (h : SMem rd ke en ks l) (hn : (rd key).tomb = true ∨ wi key ke en = false) : SMem rd ke en (ks ++ [key]) l := fun p => by
  rw [h p, List.mem_append, List.mem_singleton]
  constructor
  · exact fun h => ⟨.inl h.1, h.2⟩
  · rintro ⟨h1 | h1, h2, h3, h4⟩
    · exact ⟨h1, h2, h3, h4⟩
    · rw [h1] at h2 h3
      rcases hn with e | e
      · rw [e] at h3; cases h3
      · rw [e] at h2; cases h2
theorem SMem.has (h : SMem rd ke en ks l) {j : Nat} {q : Pr} (hj : l[j]? = some q) (hq : q.1 = key) : SMem rd ke en (ks ++ [key]) l := fun p => by
  have hk := ((h q).1 (List.mem_of_getElem? hj)).1
  rw [h p, List.mem_append, List.mem_singleton]
  constructor
  · exact fun h => ⟨.inl h.1, h.2⟩
  · rintro ⟨h1 | h1, h2⟩
    · exact ⟨h1, h2⟩
    · exact ⟨by rw [h1, ← hq]; exact hk, h2⟩
theorem SMem.ins (h : SMem rd ke en ks l) {j : Nat} (h1 : (rd key).tomb = false) (h2 : wi key ke en = true) : SMem rd ke en (ks ++ [key]) (l.take j ++ (key, (rd key).val) :: l.drop j) := fun p => by
  rw [mem_ins, h p, List.mem_append, List.mem_singleton]
  constructor
  · rintro (rfl | h)
    · exact ⟨.inr rfl, h2, h1, rfl⟩
    · exact ⟨.inl h.1, h.2⟩
  · rintro ⟨h3 | h3, h4, h5, h6⟩
    · exact .inr ⟨h3, h4, h5, h6⟩
    · left
      obtain ⟨a, b⟩ := p
      simp only at h3 h6
      subst h3
      rw [h6]
end
theorem less_bb : ∀ (x y : List UInt8), Op.bytesLess x y = bytesBefore x y
  | [], [] => rfl
  | _ :: _, [] => rfl
  | [], _ :: _ => rfl
  | a :: x, b :: y => by unfold Op.bytesLess bytesBefore; rw [less_bb x y]
theorem less_kB (a b : ByteArray) : Op.bytesLess a.toList b.toList = kB a b := by
  rw [less_bb, ByteArray.toList_eq, ByteArray.toList_eq]; rfl
theorem size129 (w : World) : (Go.sizeOf 129).run Try.prog w = .ok 2 w := by kernel_rfl
theorem und31 : Try.prog.underlying 31 = some (.slice (Try.prog.elem 31)) := by
  have ht : Try.prog.underlying 31 = some (.slice 129) := Try.underlying31
  simp [Program.elem, ht]
theorem elm31 : Try.prog.elem 31 = 129 := by
  have ht : Try.prog.underlying 31 = some (.slice 129) := Try.underlying31
  simp [Program.elem, ht]
/-- 's[k:]': what reads so -/
theorem slo31 (A : Option Addr) (m c k : Nat) (hk : k ≤ m) (hc : m ≤ c) (h0 : A = .none → m = 0 ∧ c = 0) :
    ∃ A2, (∀ W, (Instr.slice 31 (.slice A m c) (some (.int .i64 (k : Int))) .none .none).run Try.prog W = .ok (.slice A2 (m - k) (c - k)) W) ∧ (A2 = .none → m - k = 0 ∧ c - k = 0) ∧ ∀ (W : World) (l : List Pr), RSl pvc 2 W A m l → RSl pvc 2 W A2 (m - k) (l.drop k) := by
  cases A with
  | none =>
    obtain ⟨rfl, rfl⟩ := h0 rfl
    obtain rfl : k = 0 := by omega
    refine ⟨.none, fun W => ?_, fun _ => ⟨rfl, rfl⟩, fun W l h => by simpa using h⟩
    rw [run_slice_l W 31 _ _ _ und31 .i64 _ (by omega) (by omega), elm31, size129]
    simp [Result.andThen, sliced]
  | some a =>
    refine ⟨some (if c = k then a else a.add (k * 2)), fun W => ?_, (fun e => by cases e), fun W l h => ⟨by rw [List.length_drop, h.1], fun hp => ?_⟩⟩
    · rw [run_slice_l W 31 _ _ _ und31 .i64 _ (by omega) (by omega), elm31, size129]
      by_cases e : c = k
      · simp [Result.andThen, sliced, e]
      · simp [Result.andThen, sliced, e]
    · obtain ⟨g, off, hA, hg, hcell⟩ := h.2 (by omega)
      cases hA
      rw [if_neg (by omega), add_plain]
      refine ⟨g, off + k * 2, rfl, hg, fun j x hx i hi => ?_⟩
      rw [List.getElem?_drop] at hx
      have := hcell (k + j) x hx i hi
      rw [show off + k * 2 + j * 2 + i = off + (k + j) * 2 + i from by omega]; exact this
theorem rsl_take {W : World} {A : Option Addr} {m k : Nat} {l : List Pr} (h : RSl pvc 2 W A m l) (hk : k ≤ m) : RSl pvc 2 W A k (l.take k) := by
  refine ⟨by rw [List.length_take, h.1]; omega, fun hp => ?_⟩
  obtain ⟨g, off, hA, hg, hcell⟩ := h.2 (by omega)
  refine ⟨g, off, hA, hg, fun j x hx i hi => hcell j x ?_ i hi⟩
  by_cases hj : j < k
  · rwa [List.getElem?_take_of_lt hj] at hx
  · rw [List.getElem?_eq_none (by rw [List.length_take]; omega)] at hx; cases hx
/-- 's[:k:k]' -/
theorem shm31 (A : Option Addr) (m c k : Nat) (hk : k ≤ m) (hc : m ≤ c) (h0 : A = .none → m = 0 ∧ c = 0) (W : World) : (Instr.slice 31 (.slice A m c) .none (some (.int .i64 (k : Int))) (some (.int .i64 (k : Int)))).run Try.prog W = .ok (.slice A k k) W := by
  rw [run_slice_hm W 31 _ _ _ und31 .i64 .i64 _ _ (by omega) (by omega) (by omega), elm31, size129]
  cases A with
  | none => simp [Result.andThen, sliced]
  | some a => by_cases e : k = 0 <;> simp [Result.andThen, sliced, Addr.add, e]
/-- 's[:k]' -/
theorem shi31 (A : Option Addr) (m c k : Nat) (i : Int) (hi : i = (k : Int)) (hk : k ≤ m) (hc : m ≤ c) (h0 : A = .none → m = 0 ∧ c = 0) (W : World) : (Instr.slice 31 (.slice A m c) .none (some (.int .i64 i)) .none).run Try.prog W = .ok (.slice A k c) W := by
  subst hi
  rw [run_slice_h W 31 _ _ _ und31 .i64 _ (by omega) (by omega), elm31, size129]
  cases A with
  | none => simp [Result.andThen, sliced]
  | some a => by_cases e : c = 0 <;> simp [Result.andThen, sliced, Addr.add, e]
/-- 'append(s, x)' onto a slice without room -/
theorem append_full {α : Type} {enc : α → List Value} {k : Nat} {P : Program} {t e : TypeId} {bytes : Nat} {w : World} {ops : Array Oper} {rest : List Oper} {o : Oper} {a : Act} {Q : Exit → Act → World → Prop} (E : RElem enc k P t e bytes) (hgd : o.guard = .none) (s x : Operand)
    (ho : o.op = .call { callee := .builtin .append, args := #[s, x], argTypes := #[t, t] })
    (A : Option Addr) (n : Nat) (xs : List α) (hs : a.eval s = .slice A n n) (hxs : RSl enc k w A n xs) (hA : A = none → n = 0)
    (g0 c : Nat) (y : α) (hx : a.eval x = .slice (some ⟨g0, 0, none⟩) 1 c) (hy : RSl enc k w (some ⟨g0, 0, none⟩) 1 [y]) (hb : n + 1 ≤ 1000000) (hbb : bytes ≤ 1000)
    (h : ∀ v' w', ROwn enc k w' w.heap.size e v' (n + 1) (xs ++ [y]) → Below w.heap.size w w' → wpList P ops Q rest (a.put o.dst v') w') :
    wpList P ops Q (o :: rest) a w := by
  obtain ⟨i0, z, hi, hz0, hz1, hz2, hz3⟩ := E.info
  have hbt : (n + 1) * bytes ≤ 1000000 * 1000 := Nat.mul_le_mul hb hbb
  exact wpList_append_grows w hgd s x t ho e i0 z k bytes E.und hi hz0 hz1 hz2 hz3 E.pos A n n (rv enc xs) hs (fun e => ⟨hA e, hA e⟩) (by rw [rv_len E.len, hxs.1]) (fun b e => by subst e; exact rs_cells E.len E.pos hxs) ⟨g0, 0, none⟩ 1 c (rv enc [y]) hx (by rw [rv_len E.len]; rfl) (rs_cells E.len E.pos hy) (fun u hu => rv_one E.one [y] u hu) (Nat.lt_succ_self _) (by unfold maxLen; omega) (by omega)
    (fun v' w' h1 h2 => h v' w' ⟨by rw [List.length_append, hxs.1]; rfl, by rw [rv_app]; exact h1⟩ ((Below.refl _ _).grown h2 (Nat.le_refl _) (fun j e => by cases e)))
abbrev tnK (r : Tn) : ByteArray := r.2.2.2.1
set_option maxRecDepth 100000 in
set_option maxHeartbeats 1600000 in
theorem scans_any (B p : Nat) (g : Lg) (x : LX) (i kn eg n1 c1 nL cc : Nat) (tx li : Int) (ke en va : ByteArray) (A1 A : Option Addr) (PR X : List Pr) (L : List Tn) (w : World) (h : LgAt w B p g x) (hi : i < g.lives.length) (hw : (gl g i).ws.length ≤ 1000) (hf : g.facts.length ≤ 100000)
    (hP : RSl pvc 2 w A1 n1 PR) (hL : RSl tnE 8 w A nL L) (hz : ∀ r ∈ L, TnOk r) (hnL : nL ≤ 1000) (hke : ke.size ≤ maxLen) (hen : en.size ≤ maxLen) (hli : 0 ≤ li ∧ li ≤ 1000)
    (hX : Up X) (hXm : SMem (readL g i) ke en (L.map tnK) X) (hPX : PR = X.take li.toNat) :
    Calls Try.prog 35 #[.pointer (some ⟨p, 0, none⟩), .int .i64 (i : Int), .agg #[.int .u8 (kn : Int), .int .i64 tx, .string ke, .string en, .string va, .int .i64 li, .int .u8 (eg : Int)], .slice A1 n1 c1, .slice A nL cc] w fun e w' => e = .returned (.bool true) ∧ Below w.heap.size w w' := by
  have HRD : Hid (∀ (W : World) (key : ByteArray), Below w.heap.size w W → Calls Try.prog 34 #[.pointer (some ⟨p, 0, none⟩), .int .i64 (i : Int), .string key] W fun e w' => e = .returned (.tuple #[.string (readL g i key).val, .bool (!(readL g i key).tomb)]) ∧ Below W.heap.size W w') := Lib.hid (fun W key hW => reads_any B p g x i key W (h.later hW) hi hw hf)
  obtain ⟨rd, hrd⟩ : ∃ rd, readL g i = rd := ⟨_, rfl⟩
  rw [hrd] at HRD hXm
  clear hrd h hi hw hf
  have HP : Hid (∀ W, Below w.heap.size w W → RSl pvc 2 W A1 n1 PR) := Lib.hid (fun W hW => hP.later hW)
  have HS : Hid (∀ W, Below w.heap.size w W → RSl tnE 8 W A nL L) := Lib.hid (fun W hW => hL.later hW)
  have HLN := Lib.hid hL.1
  have HZ := Lib.hid hz
  have HNL := Lib.hid hnL
  have HKE := Lib.hid (And.intro hke hen)
  have HLI := Lib.hid hli
  have HX := Lib.hid (And.intro hX hXm)
  have HPX := Lib.hid hPX
  have HB1 : Hid (Below w.heap.size w (w.alloc (.cells #[.int .u8 (kn : Int), .int .i64 tx, .string ke, .string en, .string va, .int .i64 li, .int .u8 (eg : Int)] 36))) := Lib.hid ((Below.refl _ _).alloc (Nat.le_refl _) _)
  have K71 : Hid (Blk (w.alloc (.cells #[.int .u8 (kn : Int), .int .i64 tx, .string ke, .string en, .string va, .int .i64 li, .int .u8 (eg : Int)] 36)) w.heap.size #[.int .u8 (kn : Int), .int .i64 tx, .string ke, .string en, .string va, .int .i64 li, .int .u8 (eg : Int)] 36) := Lib.hid (Blk.new w _ 36)
  clear hP hL hz hnL hke hen hli hX hXm hPX
  go_enter Try.func35, Try.ntmps35
  go_upto_region 1 with (fail)
  generalize w.alloc (.cells #[.int .u8 (kn : Int), .int .i64 tx, .string ke, .string en, .string va, .int .i64 li, .int .u8 (eg : Int)] 36) = w1 at *
  go_wp2
  go_loopw [11, 12] (fun s11 s12 W => ∃ (k : Nat) (WL : List Pr) (A2 : Option Addr) (n c : Nat), k ≤ nL ∧ s12 = .int .i64 (k : Int) ∧ s11 = .slice A2 n c ∧ RSl pvc 2 W A2 n WL ∧ n ≤ c ∧ (A2 = none → n = 0 ∧ c = 0) ∧ n ≤ k ∧ Up WL ∧ SMem rd ke en ((L.take k).map tnK) WL ∧ Below w.heap.size w W ∧ Blk W w.heap.size #[.int .u8 (kn : Int), .int .i64 tx, .string ke, .string en, .string va, .int .i64 li, .int .u8 (eg : Int)] 36) (fun _ s12 _ => nL - (intOf s12).toNat)
  case atStart => exact ⟨0, [], none, 0, 0, Nat.zero_le _, rfl, rfl, RSl.nil _ _, Nat.le_refl _, fun _ => ⟨rfl, rfl⟩, Nat.le_refl _, Up.nil, fun q => ⟨fun h => (by cases h), fun h => (by cases h.1)⟩, HB1.out, K71.out⟩
  case round =>
    obtain ⟨k, WL, A2, n, c, hk, rfl, rfl, hrs, hnc, hn0, hnk, hup, hsm, hb, hk7⟩ := hrel
    clear HB1 K71
    have HR := Lib.hid hrs
    have HNC := Lib.hid (And.intro hnc (And.intro hn0 hnk))
    have HU := Lib.hid (And.intro hup hsm)
    have HB := Lib.hid hb
    have K7 := Lib.hid hk7
    clear hrs hnc hn0 hnk hup hsm hb hk7
    by_cases hlt : k < nL
    · have d2 : decide ((k : Int) < (nL : Int)) = true := decide_eq_true (Int.ofNat_lt.2 hlt)
      have d2' : decide (k < nL) = true := decide_eq_true hlt
      obtain ⟨wk, wk2⟩ := wk_1000 k (by have := HNL.out; omega)
      obtain ⟨g8, o8, rfl, hg8, hc8⟩ := (HS.out _ HB.out).2 (by omega)
      have j1 := idx55 g8 o8 nL cc k (k : Int) rfl hlt
      have hrk : L[k]? = some (L[k]'(by rw [HLN.out]; exact hlt)) := List.getElem?_eq_getElem _
      have hok := HZ.out _ (List.mem_of_getElem? hrk)
      have q3 := hc8 k _ hrk 3 (by decide)
      have htk0 : (L.take (k + 1)).map tnK = (L.take k).map tnK ++ [tnK (L[k]'(by rw [HLN.out]; exact hlt))] := by
        rw [List.take_add_one, hrk, List.map_append]; rfl
      generalize L[k]'(by rw [HLN.out]; exact hlt) = r at *
      obtain ⟨ta, rkn, rtx, key, ren, rva, rli, reg⟩ := r
      have y3 : wr.cell? ⟨g8, o8 + k * 8 + 1 + 2, none⟩ = some (.string key) := q3
      have HKS : Hid (key.size ≤ maxLen) := Lib.hid hok.2.2.2.2.2.1
      have htk : (L.take (k + 1)).map tnK = (L.take k).map tnK ++ [key] := htk0
      have HTK := Lib.hid htk
      have HLT := Lib.hid hlt
      have HMS := Lib.hid (ms_n k nL hlt)
      clear hg8 hc8 hrk hok htk0 htk q3 hlt hk
      go_wp2_with fail
      refine (HRD.out _ key HB.out).mono ?_
      rintro e w2 ⟨rfl, hb⟩
      replace HB := Lib.hid (stepB HB.out hb)
      replace HR := Lib.hid (HR.out.later hb)
      replace K7 := Lib.hid (K7.out.later hb)
      clear hb y3 d2 d2'
      have z2 := K7.out.cell 2
      have z3 := K7.out.cell 3
      simp only [List.getElem?_toArray, List.getElem?_cons_zero, List.getElem?_cons_succ] at z2 z3
      obtain ⟨v, hv⟩ : ∃ v, (rd key).val = v := ⟨_, rfl⟩
      have HV := Lib.hid hv
      rw [hv]
      cases hto : (rd key).tomb with
      | true =>
        have HSM : Hid (SMem rd ke en ((L.take (k + 1)).map tnK) WL) := Lib.hid (by rw [HTK.out]; exact HU.out.2.skip (.inl hto))
        clear hto hv
        go_wp2
        exact ⟨⟨k + 1, WL, A2, n, c, HLT.out, by go_num, rfl, HR.out, HNC.out.1, HNC.out.2.1, Nat.le_succ_of_le HNC.out.2.2, HU.out.1, HSM.out, HB.out, K7.out⟩, HMS.out⟩
      | false =>
        have HTO := Lib.hid hto
        clear hto hv
        go_wp2_with fail
        refine (rwithin_any key ke en _ HKS.out HKE.out.1 HKE.out.2).mono ?_
        rintro e w3 ⟨rfl, hb⟩
        replace hb : Below w2.heap.size w2 w3 := hb.below (Below.refl _ _)
        replace HB := Lib.hid (stepB HB.out hb)
        replace HR := Lib.hid (HR.out.later hb)
        replace K7 := Lib.hid (K7.out.later hb)
        clear hb z2 z3
        cases hwi : wi key ke en with
        | false =>
          have HSM : Hid (SMem rd ke en ((L.take (k + 1)).map tnK) WL) := Lib.hid (by rw [HTK.out]; exact HU.out.2.skip (.inr hwi))
          clear hwi
          go_wp2
          exact ⟨⟨k + 1, WL, A2, n, c, HLT.out, by go_num, rfl, HR.out, HNC.out.1, HNC.out.2.1, Nat.le_succ_of_le HNC.out.2.2, HU.out.1, HSM.out, HB.out, K7.out⟩, HMS.out⟩
        | true =>
          have HWI := Lib.hid hwi
          clear hwi
          go_upto_region 8 with (fail)
          go_wp2
          go_loopw [16] (fun s16 W => ∃ j : Nat, j ≤ n ∧ s16 = .int .i64 (j : Int) ∧ (∀ q ∈ WL.take j, kB q.1 key = true) ∧ w3 = W) (fun s16 _ => n - (intOf s16).toNat)
          case atStart => exact ⟨0, Nat.zero_le _, rfl, fun q h => (by cases h), rfl⟩
          case round =>
            obtain ⟨j, hj, rfl, hpre, rfl⟩ := hrel
            have HPRE := Lib.hid hpre
            clear hpre
            by_cases hjn : j < n
            · have d3 : decide ((j : Int) < (n : Int)) = true := decide_eq_true (Int.ofNat_lt.2 hjn)
              have d3' : decide (j < n) = true := decide_eq_true hjn
              obtain ⟨wj, wj2⟩ := wk_1000 j (by have := HNC.out.2.2; have := HLT.out; have := HNL.out; omega)
              obtain ⟨g2, o2, rfl, hg2, hc2⟩ := HR.out.2 (by omega)
              have hjl : j < WL.length := by rw [HR.out.1]; exact hjn
              have hrj : WL[j]? = some WL[j] := List.getElem?_eq_getElem hjl
              have q0 := hc2 j _ hrj 0 (by decide)
              generalize WL[j] = q at *
              obtain ⟨qk, qv⟩ := q
              have i2 := idx31 g2 o2 n c j (j : Int) rfl hjn
              have y0 : w3.cell? ⟨g2, o2 + j * 2, none⟩ = some (.string qk) := q0
              have HRJ := Lib.hid hrj
              have HJN := Lib.hid hjn
              have HMJ := Lib.hid (ms_n j n hjn)
              clear hg2 hc2 hjl hrj hj hjn q0
              cases hkb : kB qk key with
              | true =>
                have hl := (less_kB qk key).trans hkb
                have HPR2 : Hid (∀ q ∈ WL.take (j + 1), kB q.1 key = true) := Lib.hid (fun q hq => by
                  rw [List.take_add_one, HRJ.out] at hq
                  rcases List.mem_append.1 hq with hq | hq
                  · exact HPRE.out q hq
                  · rw [show q = (qk, qv) from by simpa using hq]; exact hkb)
                clear hkb
                go_wp2
                exact ⟨⟨j + 1, HJN.out, by go_num, HPR2.out, trivial⟩, HMJ.out⟩
              | false =>
                have hl := (less_kB qk key).trans hkb
                by_cases he : qk = key
                · have e9 := tl_eq he
                  have HSM : Hid (SMem rd ke en ((L.take (k + 1)).map tnK) WL) := Lib.hid (by rw [HTK.out]; exact HU.out.2.has HRJ.out he)
                  clear he hkb
                  go_wp2
                  exact ⟨⟨k + 1, WL, _, n, c, HLT.out, by go_num, rfl, HR.out, HNC.out.1, HNC.out.2.1, Nat.le_succ_of_le HNC.out.2.2, HU.out.1, HSM.out, HB.out, K7.out⟩, HMS.out⟩
                · have e9 := tl_ne he
                  have HPOST : Hid (∀ q ∈ WL.drop j, kB key q.1 = true) := Lib.hid (up_tail HU.out.1 HRJ.out (by
                    rcases kB_tot he with e | e
                    · rw [hkb] at e; cases e
                    · exact e))
                  have HJLE : Hid (j ≤ n) := Lib.hid (Nat.le_of_lt HJN.out)
                  clear he hkb HJN HMJ HRJ
                  go_upto_region 12 with (fail)
                  clear y0 i2 d3 d3' hl e9 wj wj2
                  obtain ⟨A2, hA2⟩ : ∃ A2, some (⟨g2, o2, none⟩ : Addr) = A2 := ⟨_, rfl⟩
                  rw [hA2] at HR HNC ⊢
                  clear hA2
                  obtain ⟨A3, hs1, hA3, hs2⟩ := slo31 A2 n c j HJLE.out HNC.out.1 HNC.out.2.1
                  have hm1 := fun W => shm31 A2 n c j HJLE.out HNC.out.1 HNC.out.2.1 W
                  have HA3 := Lib.hid (And.intro hA3 hs2)
                  have hbe : Below w3.heap.size w3 (w3.alloc (.cells #[] 129)) := (Below.refl _ _).alloc (Nat.le_refl _) _
                  have HBE := Lib.hid hbe
                  have HROF : Hid (ROwn pvc 2 (w3.alloc (.cells #[] 129)) w.heap.size 129 (.slice (some ⟨w3.heap.size, 0, none⟩) 0 0) 0 []) := Lib.hid (ROwn.fresh _ _ HB.out.size rfl)
                  have HNB : Hid (n ≤ 1000) := Lib.hid (by have := HNC.out.2.2; have := HLT.out; have := HNL.out; omega)
                  clear hA3 hs2 hbe
                  go_upto_region 13 with (first | (at_builtin; refine append_row elemP rfl _ _ rfl w.heap.size _ 0 [] rfl HROF.out A3 (n - j) (c - j) (WL.drop j) rfl (HA3.out.2 _ _ (HR.out.later HBE.out)) HA3.out.1 (by have := HNB.out; omega) (by decide) (stepB HB.out HBE.out).size ?_; intro v4 w4 ho4 hg4) | go_in)
                  have HB34 : Hid (Below w3.heap.size w3 w4) := Lib.hid (HBE.out.grown hg4 HBE.out.size (fun q e => by cases e; exact Nat.le_refl _))
                  rw [Nat.zero_add, List.nil_append] at ho4
                  obtain ⟨A4, c4, rfl, hc4, hn4⟩ := ho4.sl
                  have HO4 := Lib.hid ho4
                  have HN4 := Lib.hid hn4
                  replace HB := Lib.hid (stepB HB.out HB34.out)
                  replace HR := Lib.hid (HR.out.later HB34.out)
                  replace K7 := Lib.hid (K7.out.later HB34.out)
                  clear ho4 hg4 hc4 hn4 HB34 HBE HROF HA3 hs1
                  have hbp : Below w4.heap.size w4 (w4.alloc (.cells #[.string key, .string v] 129)) := (Below.refl _ _).alloc (Nat.le_refl _) _
                  have HYP : Hid (RSl pvc 2 (w4.alloc (.cells #[.string key, .string v] 129)) (some ⟨w4.heap.size, 0, none⟩) 1 [(key, v)]) := Lib.hid (Blk.rslP (Blk.new w4 _ 129))
                  replace HB := Lib.hid (stepB HB.out hbp)
                  replace HR := Lib.hid (HR.out.later hbp)
                  replace K7 := Lib.hid (K7.out.later hbp)
                  replace HO4 := Lib.hid (HO4.out.later hbp)
                  clear hbp
                  go_wp2_with (first | (at_builtin; refine append_full elemP rfl _ _ rfl A2 j (WL.take j) rfl (rsl_take HR.out HJLE.out) (fun e => by have := (HNC.out.2.1 e).1; have := HJLE.out; omega) w4.heap.size 1 (key, v) rfl HYP.out (by have := HNB.out; have := HJLE.out; omega) (by decide) ?_; intro v5 w5 ho5 hb5) | (at_builtin; refine append_row elemP rfl _ _ rfl w.heap.size _ (j + 1) (WL.take j ++ [(key, v)]) rfl (ho5.base HB.out.size) A4 (n - j) c4 (WL.drop j) rfl ((HO4.out.later hb5).rsl pvc_len) HN4.out (by have := HNB.out; have := HJLE.out; omega) (by decide) (stepB HB.out hb5).size ?_; intro v6 w6 ho6 hg6) | go_in)
                  obtain ⟨A6, c6, rfl, hc6, hn6⟩ := ho6.sl
                  have HFI : Hid (RSl pvc 2 w6 A6 (n + 1) (WL.take j ++ (key, v) :: WL.drop j)) := Lib.hid (by
                    have h := ho6.rsl pvc_len
                    rw [show j + 1 + (n - j) = n + 1 from by have := HJLE.out; omega, List.append_assoc] at h
                    exact h)
                  have HB6 : Hid (Below w.heap.size w w6) := Lib.hid ((stepB HB.out hb5).grown hg6 (stepB HB.out hb5).size (fun q e => (ho5.base HB.out.size).lt q e |>.1))
                  have K76 : Hid (Blk w6 w.heap.size #[.int .u8 (kn : Int), .int .i64 tx, .string ke, .string en, .string va, .int .i64 li, .int .u8 (eg : Int)] 36) := Lib.hid ((K7.out.later hb5).grown hg6 (fun e => ho5.nq (K7.out.later hb5) (by decide) e.symm))
                  have HSM : Hid (SMem rd ke en ((L.take (k + 1)).map tnK) (WL.take j ++ (key, v) :: WL.drop j)) := Lib.hid (by
                    rw [HTK.out, ← HV.out]; exact HU.out.2.ins HTO.out HWI.out)
                  have HUP : Hid (Up (WL.take j ++ (key, v) :: WL.drop j)) := Lib.hid (up_ins HU.out.1 HPRE.out HPOST.out)
                  exact ⟨⟨k + 1, WL.take j ++ (key, v) :: WL.drop j, A6, j + 1 + (n - j), c6, HLT.out, by go_num, rfl, by rw [show j + 1 + (n - j) = n + 1 from by have := HJLE.out; omega]; exact HFI.out, hc6, hn6, by have := HJLE.out; have := HNC.out.2.2; omega, HUP.out, HSM.out, HB6.out, K76.out⟩, HMS.out⟩
            · have d3 : decide ((j : Int) < (n : Int)) = false := decide_eq_false (by omega)
              have d3' : decide (j < n) = false := decide_eq_false hjn
              have HPOST : Hid (∀ q ∈ WL.drop j, kB key q.1 = true) := Lib.hid (fun q hq => by
                rw [List.drop_eq_nil_of_le (by rw [HR.out.1]; omega)] at hq; cases hq)
              have HJLE : Hid (j ≤ n) := Lib.hid hj
              clear hjn hj
              go_upto_region 12 with (fail)
              clear d3 d3'
              obtain ⟨A3, hs1, hA3, hs2⟩ := slo31 A2 n c j HJLE.out HNC.out.1 HNC.out.2.1
              have hm1 := fun W => shm31 A2 n c j HJLE.out HNC.out.1 HNC.out.2.1 W
              have HA3 := Lib.hid (And.intro hA3 hs2)
              have hbe : Below w3.heap.size w3 (w3.alloc (.cells #[] 129)) := (Below.refl _ _).alloc (Nat.le_refl _) _
              have HBE := Lib.hid hbe
              have HROF : Hid (ROwn pvc 2 (w3.alloc (.cells #[] 129)) w.heap.size 129 (.slice (some ⟨w3.heap.size, 0, none⟩) 0 0) 0 []) := Lib.hid (ROwn.fresh _ _ HB.out.size rfl)
              have HNB : Hid (n ≤ 1000) := Lib.hid (by have := HNC.out.2.2; have := HLT.out; have := HNL.out; omega)
              clear hA3 hs2 hbe
              go_upto_region 13 with (first | (at_builtin; refine append_row elemP rfl _ _ rfl w.heap.size _ 0 [] rfl HROF.out A3 (n - j) (c - j) (WL.drop j) rfl (HA3.out.2 _ _ (HR.out.later HBE.out)) HA3.out.1 (by have := HNB.out; omega) (by decide) (stepB HB.out HBE.out).size ?_; intro v4 w4 ho4 hg4) | go_in)
              have HB34 : Hid (Below w3.heap.size w3 w4) := Lib.hid (HBE.out.grown hg4 HBE.out.size (fun q e => by cases e; exact Nat.le_refl _))
              rw [Nat.zero_add, List.nil_append] at ho4
              obtain ⟨A4, c4, rfl, hc4, hn4⟩ := ho4.sl
              have HO4 := Lib.hid ho4
              have HN4 := Lib.hid hn4
              replace HB := Lib.hid (stepB HB.out HB34.out)
              replace HR := Lib.hid (HR.out.later HB34.out)
              replace K7 := Lib.hid (K7.out.later HB34.out)
              clear ho4 hg4 hc4 hn4 HB34 HBE HROF HA3 hs1
              have hbp : Below w4.heap.size w4 (w4.alloc (.cells #[.string key, .string v] 129)) := (Below.refl _ _).alloc (Nat.le_refl _) _
              have HYP : Hid (RSl pvc 2 (w4.alloc (.cells #[.string key, .string v] 129)) (some ⟨w4.heap.size, 0, none⟩) 1 [(key, v)]) := Lib.hid (Blk.rslP (Blk.new w4 _ 129))
              replace HB := Lib.hid (stepB HB.out hbp)
              replace HR := Lib.hid (HR.out.later hbp)
              replace K7 := Lib.hid (K7.out.later hbp)
              replace HO4 := Lib.hid (HO4.out.later hbp)
              clear hbp
              go_wp2_with (first | (at_builtin; refine append_full elemP rfl _ _ rfl A2 j (WL.take j) rfl (rsl_take HR.out HJLE.out) (fun e => by have := (HNC.out.2.1 e).1; have := HJLE.out; omega) w4.heap.size 1 (key, v) rfl HYP.out (by have := HNB.out; have := HJLE.out; omega) (by decide) ?_; intro v5 w5 ho5 hb5) | (at_builtin; refine append_row elemP rfl _ _ rfl w.heap.size _ (j + 1) (WL.take j ++ [(key, v)]) rfl (ho5.base HB.out.size) A4 (n - j) c4 (WL.drop j) rfl ((HO4.out.later hb5).rsl pvc_len) HN4.out (by have := HNB.out; have := HJLE.out; omega) (by decide) (stepB HB.out hb5).size ?_; intro v6 w6 ho6 hg6) | go_in)
              obtain ⟨A6, c6, rfl, hc6, hn6⟩ := ho6.sl
              have HFI : Hid (RSl pvc 2 w6 A6 (n + 1) (WL.take j ++ (key, v) :: WL.drop j)) := Lib.hid (by
                have h := ho6.rsl pvc_len
                rw [show j + 1 + (n - j) = n + 1 from by have := HJLE.out; omega, List.append_assoc] at h
                exact h)
              have HB6 : Hid (Below w.heap.size w w6) := Lib.hid ((stepB HB.out hb5).grown hg6 (stepB HB.out hb5).size (fun q e => (ho5.base HB.out.size).lt q e |>.1))
              have K76 : Hid (Blk w6 w.heap.size #[.int .u8 (kn : Int), .int .i64 tx, .string ke, .string en, .string va, .int .i64 li, .int .u8 (eg : Int)] 36) := Lib.hid ((K7.out.later hb5).grown hg6 (fun e => ho5.nq (K7.out.later hb5) (by decide) e.symm))
              have HSM : Hid (SMem rd ke en ((L.take (k + 1)).map tnK) (WL.take j ++ (key, v) :: WL.drop j)) := Lib.hid (by
                rw [HTK.out, ← HV.out]; exact HU.out.2.ins HTO.out HWI.out)
              have HUP : Hid (Up (WL.take j ++ (key, v) :: WL.drop j)) := Lib.hid (up_ins HU.out.1 HPRE.out HPOST.out)
              exact ⟨⟨k + 1, WL.take j ++ (key, v) :: WL.drop j, A6, j + 1 + (n - j), c6, HLT.out, by go_num, rfl, by rw [show j + 1 + (n - j) = n + 1 from by have := HJLE.out; omega]; exact HFI.out, hc6, hn6, by have := HJLE.out; have := HNC.out.2.2; omega, HUP.out, HSM.out, HB6.out, K76.out⟩, HMS.out⟩
    · obtain rfl : nL = k := by omega
      have d2 : decide ((nL : Int) < (nL : Int)) = false := decide_eq_false (Int.lt_irrefl _)
      have HXW : Hid (X = WL) := Lib.hid (ext_up HX.out.1 HU.out.1 (fun q => by
        rw [HX.out.2 q, HU.out.2 q, List.take_of_length_le (by rw [HLN.out]; exact Nat.le_refl _)]))
      obtain ⟨mm, hmm⟩ : ∃ mm, min n li.toNat = mm := ⟨_, rfl⟩
      have hli := HLI.out
      have hmin := run_minI (n : Int) li (mm : Int) (by omega)
      have hsl := shi31 A2 n c mm (mm : Int) rfl (by omega) HNC.out.1 HNC.out.2.1
      have HPQ : Hid (PR = WL.take mm) := Lib.hid (by
        rw [HPX.out, HXW.out, ← hmm]
        have hl := HR.out.1
        by_cases e : n ≤ li.toNat
        · rw [Nat.min_eq_left e, List.take_of_length_le (by omega), List.take_of_length_le (by omega)]
        · rw [Nat.min_eq_right (by omega)])
      have HRT := Lib.hid (rsl_take HR.out (show mm ≤ n by omega))
      have HNP : Hid (n1 ≤ 100000) := Lib.hid (by
        have h1 := (HP.out _ HB.out).1
        rw [HPQ.out, List.length_take, HR.out.1] at h1
        have := HNC.out.2.2; have := HNL.out
        omega)
      have z5 := K7.out.cell 5
      simp only [List.getElem?_toArray, List.getElem?_cons_zero, List.getElem?_cons_succ] at z5
      have HAN : Hid (∀ W, Below w.heap.size w W → RSl pvc 2 W A2 mm (WL.take mm) → Calls Try.prog 37 #[.agg #[.int .i64 0, .bool false, .string { data := #[] }, .slice A1 n1 c1], .agg #[.int .i64 0, .bool false, .string { data := #[] }, .slice A2 mm c]] W fun e w' => e = .returned (.bool true) ∧ Below W.heap.size W w') := Lib.hid (fun W hW hr => by
        have := answers_any A1 A2 n1 c1 mm c (0, false, emp, PR) (0, false, emp, WL.take mm) W HNP.out (HP.out W hW) hr
        rw [decide_eq_true (by rw [HPQ.out])] at this
        exact this)
      clear hlt hk hmm hli
      go_wp2_with fail
      refine (HAN.out _ HB.out HRT.out).mono ?_
      rintro e w9 ⟨rfl, hb⟩
      have HB9 := Lib.hid (stepB HB.out hb)
      clear hb
      go_wp2
      go_ret
      exact ⟨rfl, HB9.out⟩
end Go.Proofs.Ytoinjnocopejjaa

/- What reads come to: the model's, and the log's. -/
namespace Go.Proofs.Ytoinjnocopejjaa
set_option linter.unusedVariables false
set_option linter.unusedSimpArgs false
theorem has_mapR {f : Rw → Rw} {rows : List (ByteArray × Rw)} {k : ByteArray} (h : hasK (mapR f rows) k = true) : hasK rows k = true := by
  obtain ⟨a, ha⟩ := has_iff.1 h
  unfold mapR at ha
  have h2 := (List.mem_filter.1 ha).1
  unfold mp at h2
  obtain ⟨q, hq, e⟩ := List.mem_map.1 h2
  have e1 : q.1 = k := congrArg Prod.fst e
  exact has_iff.2 ⟨q.2, by rw [← e1]; exact hq⟩
/-- a turn's key, and no other, may come to be one that has something -/
theorem has_do {s : MS} {g : Lg} (hm : OkM s) (h : LI s g) (t : Int) (x : Cl) {k : ByteArray} (hk : hasK (doM s t x).1.rows k = true) : hasK s.rows k = true ∨ k = x.2.2.1 := by
  have hc := stepC hm h 0 t x
  simp only at hc
  rcases hc with ⟨e, _⟩ | ⟨_, _, e, _⟩ | ⟨i, f, _, _, _, e, _, e2⟩ | ⟨i, _, _, e, _⟩ | ⟨i, _, _, _, e, _⟩ | ⟨i, _, _, _, e, _⟩ | ⟨e, _⟩
  · rw [e] at hk; exact .inl hk
  · rw [e] at hk; exact .inl hk
  · rw [e] at hk
    have hk : hasK (putK s.rows f.key ((getR s f.key).1, (⟨(i : Int) + 1, 0, f.tomb, f.val⟩ : Ver))) k = true := hk
    rw [has_put, Bool.or_eq_true] at hk
    rcases hk with hk | hk
    · exact .inr ((of_decide_eq_true hk).trans e2)
    · exact .inl hk
  · rw [e] at hk; exact .inl (has_mapR hk)
  · rw [e] at hk; exact .inl (has_mapR (rows := s.rows) hk)
  · rw [e] at hk; exact .inl (has_mapR hk)
  · rw [e] at hk; exact .inl (has_mapR hk)
def KI (s : MS) (ks : List ByteArray) : Prop := ∀ k, hasK s.rows k = true → k ∈ ks
theorem KI.do_ {s : MS} {g : Lg} {ks : List ByteArray} (h : KI s ks) (hm : OkM s) (hl : LI s g) (t : Int) (x : Cl) (hx : x.2.2.1 ∈ ks) : KI (doM s t x).1 ks := fun k hk => by
  rcases has_do hm hl t x hk with e | e
  · exact h k e
  · rw [e]; exact hx
/-- what an active transaction reads, is what its log tells -/
theorem LI.reads {s : MS} {g : Lg} (h : LI s g) {i : Nat} (hi : i < g.lives.length) (ha : (sti s i).1 = 1) (k : ByteArray) :
    readB s ((i : Int) + 1) (getR s k) = !(readL g i k).tomb ∧ (readB s ((i : Int) + 1) (getR s k) = true → (readV s ((i : Int) + 1) (getR s k)).val = (readL g i k).val) := by
  cases hw : lastW k (gl g i).ws with
  | some f =>
    have h1 := h.ws1 i hi ha k f hw
    have e : readL g i k = f := readF_some (l := gl g i) hw
    rw [e]
    unfold readB readV
    rw [if_pos (by rw [h1]), if_pos (by rw [h1]), h1]
    exact ⟨rfl, fun _ => rfl⟩
  | none =>
    have h1 := h.ws2 i hi ha k hw
    have e : readL g i k = bestF k (gl g i).sn g.facts := readF_none (l := gl g i) hw
    rw [e]
    unfold readB readV
    rw [if_neg h1, if_neg h1, snW_i, ← h.sn i hi]
    have hmem : sti s i ∈ s.txns := by
      unfold sti
      rw [List.getD_eq_getElem?_getD, List.getElem?_eq_getElem (by rw [← h.len]; exact hi)]
      exact List.getElem_mem _
    exact h.fac k _ (by rw [h.sn i hi]; exact h.low _ hmem ha)
/-- what a turn that went well told of a transaction that is known -/
theorem LI.told {s s' : MS} {g : Lg} {ks : List ByteArray} (h : LI s g) (hm : OkM s) (hk : KI s ks) {t tx li : Int} {kn eg : Nat} {ke en va va' : ByteArray} {fo : Bool} {pr : List Pr} {i : Nat} (hf : findL g t tx = (i : Int)) (hd : doM s t (kn, tx, ke, en, va, li, eg) = (s', (0, fo, va', pr))) :
    i < g.lives.length ∧ (kn = 2 → fo = (!(readL g i ke).tomb) ∧ (fo = true → va' = (readL g i ke).val)) ∧ (kn = 4 → fo = !(readL g i ke).tomb)
    ∧ (kn = 5 → (0 ≤ li ∧ li ≤ 128) ∧ pr = (scanF s ((i : Int) + 1) ke en s.rows).take li.toNat ∧ SMem (readL g i) ke en ks (scanF s ((i : Int) + 1) ke en s.rows)) := by
  have hfd := h.find hm t tx
  have hfd2 : i < g.lives.length ∧ txW s t tx = (i : Int) + 1 := by
    rcases hfd with ⟨_, e⟩ | ⟨j, h1, h2, h3⟩
    · omega
    · have : j = i := by omega
      subst this; exact ⟨h1, h2⟩
  obtain ⟨hi, hw⟩ := hfd2
  have hr : refM s t (kn, tx, ke, en, va, li, eg) = 0 := by
    by_cases e : refM s t (kn, tx, ke, en, va, li, eg) = 0
    · exact e
    · unfold doM at hd
      rw [if_pos e] at hd
      exact (congrArg (fun z : MS × As => z.2.1) hd)
  have ea : actM s t ((i : Int) + 1) (kn, tx, ke, en, va, li, eg) = (s', (0, fo, va', pr)) := by
    rw [← hd, ← hw]; unfold doM; rw [if_neg (fun e => e hr)]
  obtain ⟨_, _, hnm, hfit, _⟩ := refM_0 hr
  have ha : namedK kn = true → (sti s i).1 = 1 := fun e => by
    have := (hnm e).2
    simp only at this
    rw [hw, stW_i] at this; exact this
  refine ⟨hi, fun e => ?_, fun e => ?_, fun e => ?_⟩
  · subst e
    obtain ⟨r1, r2⟩ := h.reads hi (ha rfl) ke
    have ea : (s, if readB s ((i : Int) + 1) (getR s ke) = true then (0, true, (readV s ((i : Int) + 1) (getR s ke)).val, []) else as0) = (s', ((0 : Int), fo, va', pr)) := ea
    rw [← r1]
    by_cases e : readB s ((i : Int) + 1) (getR s ke) = true
    · rw [if_pos e] at ea
      have e2 := congrArg Prod.snd ea
      simp only [Prod.mk.injEq] at e2
      exact ⟨by rw [e]; exact e2.2.1.symm, fun _ => by rw [← r2 e]; exact e2.2.2.1.symm⟩
    · rw [if_neg e] at ea
      have e2 := congrArg Prod.snd ea
      unfold as0 at e2
      simp only [Prod.mk.injEq] at e2
      have e3 : readB s ((i : Int) + 1) (getR s ke) = false := by simpa using e
      exact ⟨by rw [e3]; exact e2.2.1.symm, fun e4 => by rw [← e2.2.1] at e4; cases e4⟩
  · subst e
    obtain ⟨r1, r2⟩ := h.reads hi (ha rfl) ke
    have ea : (if clashM s ((i : Int) + 1) (getR s ke) = true then (s, asE_ 33) else if readB s ((i : Int) + 1) (getR s ke) = false then (s, as0) else if fullM s ke = true then (s, asE_ 34) else (putM s ke ⟨(i : Int) + 1, 0, true, emp⟩, ((0, true, emp, []) : As))) = (s', ((0 : Int), fo, va', pr)) := ea
    rw [← r1]
    split at ea
    · have e2 := congrArg (fun z : MS × As => z.2.1) ea
      exact absurd e2 (by show ¬ ((33 : Int) = 0); decide)
    split at ea
    · rename_i e3
      have e2 := congrArg (fun z : MS × As => z.2.2.1) ea
      rw [e3]; exact e2.symm
    split at ea
    · have e2 := congrArg (fun z : MS × As => z.2.1) ea
      exact absurd e2 (by show ¬ ((34 : Int) = 0); decide)
    · rename_i _ e3 _
      have e2 := congrArg (fun z : MS × As => z.2.2.1) ea
      have e4 : readB s ((i : Int) + 1) (getR s ke) = true := by simpa using e3
      rw [e4]; exact e2.symm
  · subst e
    have ea : (s, ((0 : Int), false, emp, scanP s ((i : Int) + 1) ke en li s.rows [])) = (s', ((0 : Int), fo, va', pr)) := ea
    have e2 := congrArg (fun z : MS × As => z.2.2.2.2) ea
    have hli : 0 ≤ li ∧ li ≤ 128 := by
      have hfit : (lenB (mayB s.cf) ke 0 s.cf.kl && (lenB (mayB s.cf) en 0 s.cf.kl && (decide (0 ≤ li) && decide (li ≤ 128)))) = true := hfit
      simp only [Bool.and_eq_true, decide_eq_true_eq] at hfit
      exact hfit.2.2
    refine ⟨hli, ?_, fun p => ?_⟩
    · have e3 := scanP_eq s ((i : Int) + 1) ke en hli.1 s.rows [] (by simpa using hli.1)
      rw [List.nil_append] at e3
      rw [← e3]; exact e2.symm
    · have hr2 := h.reads hi (ha rfl) p.1
      rw [mem_scanF hm (by omega), hr2.1]
      constructor
      · rintro ⟨h1, h2, h3⟩
        have hrb : readB s ((i : Int) + 1) (getR s p.1) = true := by rw [hr2.1]; exact h2
        refine ⟨hk _ ?_, h1, by simpa using h2, by rw [h3, hr2.2 hrb]⟩
        cases e : hasK s.rows p.1 with
        | true => rfl
        | false =>
          unfold getR at hrb
          rw [get_none e] at hrb
          unfold readB at hrb
          rw [if_neg (by show ¬ (0 : Int) = (i : Int) + 1; omega)] at hrb
          cases hrb
      · rintro ⟨_, h1, h2, h3⟩
        have hrb : readB s ((i : Int) + 1) (getR s p.1) = true := by rw [hr2.1, h2]; rfl
        exact ⟨h1, by rw [h2]; rfl, by rw [hr2.2 hrb]; exact h3⟩
end Go.Proofs.Ytoinjnocopejjaa
