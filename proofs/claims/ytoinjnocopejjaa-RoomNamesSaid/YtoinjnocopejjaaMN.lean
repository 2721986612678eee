/- MN, MO, MQ in one. -/
import Derived.Test.YtoinjnocopejjaaMM
/- What is read of the model, without its map. -/
namespace Go.Proofs.Ytoinjnocopejjaa
open Go.ChangeShapes Go.WideShapes Go.ChangeAt Go.RowKit Go.Maps
set_option linter.unusedVariables false
set_option linter.unusedSimpArgs false
theorem idx106 (g off m c k : Nat) (i : Int) (hi : i = (k : Int)) (h : k < m) (W : World) : (Instr.indexAt 106 (.slice (some ⟨g, off, none⟩) m c) (.int .i64 i)).run Try.prog W = .ok (.pointer (some ⟨g, off + k * 2, none⟩)) W := by
  subst hi
  have h1 : (0 : Int) ≤ (k : Int) ∧ (k : Int) < (m : Int) := by omega
  go_simp
theorem idx107 (g off m c k : Nat) (i : Int) (hi : i = (k : Int)) (h : k < m) (W : World) : (Instr.indexAt 107 (.slice (some ⟨g, off, none⟩) m c) (.int .i64 i)).run Try.prog W = .ok (.pointer (some ⟨g, off + k, none⟩)) W := by
  subst hi
  have h1 : (0 : Int) ≤ (k : Int) ∧ (k : Int) < (m : Int) := by omega
  go_simp
theorem idx85 (g off m c k : Nat) (i : Int) (hi : i = (k : Int)) (h : k < m) (W : World) : (Instr.indexAt 85 (.slice (some ⟨g, off, none⟩) m c) (.int .i64 i)).run Try.prog W = .ok (.pointer (some ⟨g, off + k, none⟩)) W := by
  subst hi
  have h1 : (0 : Int) ≤ (k : Int) ∧ (k : Int) < (m : Int) := by omega
  go_simp
theorem txE_len (p : Int × Int) : (txE p).length = 2 := rfl
/-- the transactions' row -/
theorem MdAt.txr {W : World} {B p : Nat} {s : MS} {x : MX} (h : MdAt W B p s x) : ∃ A c, x.tv = .slice A s.txns.length c ∧ s.txns.length ≤ c ∧ RSl txE 2 W A s.txns.length s.txns := by
  obtain ⟨A, c, e, h1, _⟩ := h.tx.sl
  have h2 := h.tx
  rw [e] at h2
  exact ⟨A, c, e, h1, h2.rsl txE_len⟩
set_option maxRecDepth 100000 in
set_option maxHeartbeats 4000000 in
theorem clock_any (B p : Nat) (s : MS) (S : Nat → Prop) (w : World) (h : MR w B p s S) : Calls Try.prog 24 #[.pointer (some ⟨p, 0, none⟩)] w fun e w' => e = .returned (.int .i64 s.clock) ∧ w = w' := by
  obtain ⟨x, h, _⟩ := h
  have k8 : w.cell? ⟨p, 8, none⟩ = some (.int .i64 s.clock) := h.c0 8
  clear h
  go_enter Try.func24, Try.ntmps24
  go_wp2
  go_ret
  exact ⟨rfl, rfl⟩
set_option maxRecDepth 100000 in
set_option maxHeartbeats 4000000 in
theorem floor_any (B p : Nat) (s : MS) (S : Nat → Prop) (w : World) (h : MR w B p s S) : Calls Try.prog 25 #[.pointer (some ⟨p, 0, none⟩)] w fun e w' => e = .returned (.int .i64 s.floor) ∧ w = w' := by
  obtain ⟨x, h, _⟩ := h
  have k9 : w.cell? ⟨p, 9, none⟩ = some (.int .i64 s.floor) := h.c0 9
  clear h
  go_enter Try.func25, Try.ntmps25
  go_wp2
  go_ret
  exact ⟨rfl, rfl⟩
set_option maxRecDepth 100000 in
set_option maxHeartbeats 4000000 in
theorem retained_any (h : Hd) (w : World) (hn : h.L.length = h.n) (h8 : h.n ≤ 8) : Calls Try.prog 67 #[rowV h] w fun e w' => e = .returned (.int .i64 (retR (hdR h) : Nat)) ∧ Below w.heap.size w w' := by
  obtain ⟨A, n, c, L, ⟨iw, its, itm, iv⟩⟩ := h
  simp only at hn h8
  have hb : Below w.heap.size w (w.alloc (.cells #[.slice A n c, .int .i64 iw, .int .i64 its, .bool itm, .string iv] 114)) := (Below.refl _ w).alloc (Nat.le_refl _) _
  have HB := Lib.hid hb
  clear hb
  have HR : Hid ((0 < iw → ((retR (hdR ⟨A, n, c, L, ⟨iw, its, itm, iv⟩⟩) : Nat) : Int) = (n : Int) + 1) ∧ (¬ 0 < iw → ((retR (hdR ⟨A, n, c, L, ⟨iw, its, itm, iv⟩⟩) : Nat) : Int) = (n : Int))) := Lib.hid (by
    unfold retR hdR
    simp only
    constructor
    · intro h; rw [if_pos h, hn]; omega
    · intro h; rw [if_neg h, hn])
  have wn : IntKind.i64.wrap ((n : Int) + 1) = (n : Int) + 1 := IntWalk.i64_in _ (by omega)
  unfold rowV
  by_cases hi : 0 < iw
  · have d1 : decide (0 < iw) = true := decide_eq_true hi
    have d2 : decide (iw > 0) = true := decide_eq_true hi
    go_enter Try.func67, Try.ntmps67
    go_wp2
    go_ret
    exact ⟨by rw [HR.out.1 hi]; rfl, HB.out⟩
  · have d1 : decide (0 < iw) = false := decide_eq_false hi
    have d2 : decide (iw > 0) = false := decide_eq_false hi
    go_enter Try.func67, Try.ntmps67
    go_wp2
    go_ret
    exact ⟨by rw [HR.out.2 (by omega)]; rfl, HB.out⟩
theorem actN_take (l : List (Int × Int)) (k : Nat) (q : Int × Int) (h : l[k]? = some q) : actN (l.take (k + 1)) = actN (l.take k) + (if q.1 = 1 then 1 else 0) := by
  unfold actN
  rw [List.take_add_one, h, List.filter_append, List.length_append]
  simp only [Option.toList, List.filter_cons, List.filter_nil]
  by_cases e : q.1 = 1
  · rw [decide_eq_true e, if_pos e]; rfl
  · rw [decide_eq_false e, if_neg e]; rfl
set_option maxRecDepth 100000 in
set_option maxHeartbeats 4000000 in
theorem active_any (B p : Nat) (s : MS) (S : Nat → Prop) (w : World) (h : MR w B p s S) (hn : s.txns.length ≤ 100000) : Calls Try.prog 23 #[.pointer (some ⟨p, 0, none⟩)] w fun e w' => e = .returned (.int .i64 (actN s.txns : Nat)) ∧ Below w.heap.size w w' := by
  obtain ⟨x, h, _⟩ := h
  obtain ⟨A, c, etv, hc, hr⟩ := h.txr
  have k10 : w.cell? ⟨p, 10, none⟩ = some x.tv := h.c0 10
  rw [etv] at k10
  generalize hT : s.txns = L at *
  have HS := Lib.hid hr
  obtain ⟨n, hnl⟩ : ∃ n, L.length = n := ⟨_, rfl⟩
  rw [hnl] at k10 HS hn
  have HLN := Lib.hid hnl
  clear h hr hnl hc
  go_enter Try.func23, Try.ntmps23
  go_wp2
  go_loopw [3, 13] (fun s i W => ∃ (k : Nat) (y : Nat), k ≤ n ∧ i = .int .i64 k ∧ s = .int .i64 y ∧ y = actN (L.take k) ∧ y ≤ k ∧ Below w.heap.size w W) (fun _ i _ => n - (intOf i).toNat)
  case atStart => exact ⟨0, 0, Nat.zero_le _, rfl, rfl, rfl, Nat.le_refl _, Below.refl _ _⟩
  case round =>
    obtain ⟨k, y, hk, rfl, rfl, hy, hyk, hb⟩ := hrel
    have HB := Lib.hid hb
    have HY := Lib.hid hy
    clear hy
    by_cases hlt : k < n
    · obtain ⟨g, off, rfl, hg, hcc⟩ := HS.out.2 (by omega)
      have hrk : L[k]? = some (L[k]'(by rw [HLN.out]; exact hlt)) := List.getElem?_eq_getElem _
      generalize L[k]'(by rw [HLN.out]; exact hlt) = q at *
      obtain ⟨st, sn⟩ := q
      have y0 := (hb.cell (p := ⟨g, off + k * 2 + 0, none⟩) hg).trans (hcc k _ hrk 0 (by decide))
      have y1 := (hb.cell (p := ⟨g, off + k * 2 + 1, none⟩) hg).trans (hcc k _ hrk 1 (by decide))
      have i1 := idx106 g off n c k (k : Int) rfl hlt
      have d2 : decide ((k : Int) < (n : Int)) = true := decide_eq_true (by omega)
      have wk : IntKind.i64.wrap ((k : Int) + 1) = (k : Int) + 1 := IntWalk.i64_in _ (by omega)
      have wy : IntKind.i64.wrap ((y : Int) + 1) = (y : Int) + 1 := IntWalk.i64_in _ (by omega)
      have HNX := Lib.hid (actN_take L k (st, sn) hrk)
      have hb2 : Below w.heap.size w (wr.alloc (.cells #[.int .u8 st, .int .i64 sn] 112)) := hb.alloc hb.size _
      have HB2 := Lib.hid hb2
      simp only [txE, List.getElem?_cons_zero, List.getElem?_cons_succ, Nat.add_zero] at y0 y1
      clear hcc hrk hb hb2 hg
      by_cases hst : st = 1
      · have e1 : (st == 1) = true := by rw [hst]; rfl
        have HNY : Hid (y + 1 = actN (L.take (k + 1))) := Lib.hid (by rw [HNX.out, if_pos hst, HY.out])
        clear hst
        go_wp2
        go_roundw
        case rel => exact ⟨k + 1, y + 1, by omega, rfl, rfl, HNY.out, by omega, HB2.out⟩
        case measure => simp [intOf]; omega
      · have e1 : (st == 1) = false := by rw [beq_eq_false_iff_ne]; exact hst
        have HNY : Hid (y = actN (L.take (k + 1))) := Lib.hid (by rw [HNX.out, if_neg hst, HY.out]; rfl)
        clear hst
        go_wp2
        go_roundw
        case rel => exact ⟨k + 1, y, by omega, rfl, rfl, HNY.out, by omega, HB2.out⟩
        case measure => simp [intOf]; omega
    · have d2 : decide ((k : Int) < (n : Int)) = false := decide_eq_false (by omega)
      have HNY : Hid (y = actN L) := Lib.hid (by rw [HY.out, List.take_of_length_le (by rw [HLN.out]; omega)])
      clear hb
      go_wp2
      go_ret
      exact ⟨by rw [← HNY.out]; rfl, HB.out⟩
end Go.Proofs.Ytoinjnocopejjaa

/- Tx. -/
namespace Go.Proofs.Ytoinjnocopejjaa
open Go.ChangeShapes Go.WideShapes Go.ChangeAt Go.RowKit Go.Maps
set_option linter.unusedVariables false
set_option linter.unusedSimpArgs false
theorem MdAt.task {W : World} {B p : Nat} {s : MS} {x : MX} (h : MdAt W B p s x) {t : Nat} (ht : t < s.tasks.length) : ∃ A c, x.kv[t]? = some (.slice A (s.tasks.getD t []).length c) ∧ W.cell? ⟨x.tb, t, none⟩ = some (.slice A (s.tasks.getD t []).length c) ∧ Sl iE W A (s.tasks.getD t []).length c (s.tasks.getD t []) := by
  have hk : t < x.kv.length := by rw [h.kl]; exact ht
  have e : s.tasks[t]? = some (s.tasks.getD t []) := by rw [List.getD_eq_getElem?_getD, List.getElem?_eq_getElem ht]; rfl
  have ho := h.num t _ _ (List.getElem?_eq_getElem hk) e
  obtain ⟨A, c, e2, hs⟩ := ho.sl
  refine ⟨A, c, by rw [List.getElem?_eq_getElem hk, e2], ?_, hs⟩
  rw [h.tb.cell]
  simp only [List.getElem?_toArray]
  rw [List.getElem?_eq_getElem hk, e2]
def TxEnd (s : MS) (t n : Int) (w : World) (e : Ending) (w' : World) : Prop := e = .returned (.tuple #[.int .i64 (txW s t n), .int .u8 (stW s (txW s t n)), .int .i64 (snW s (txW s t n))]) ∧ Below w.heap.size w w'
theorem txEnd0 {s : MS} {t n : Int} {w w' : World} (h : txW s t n = 0) (hb : Below w.heap.size w w') : TxEnd s t n w (.returned (.tuple #[.int .i64 0, .int .u8 0, .int .i64 0])) w' := by
  unfold TxEnd
  rw [h]
  exact ⟨rfl, hb⟩
theorem txEnd1 {s : MS} {t n : Int} {w w' : World} {v st sn : Int} (h : txW s t n = v) (hv : 1 ≤ v) (hx : s.txns[(v - 1).toNat]? = some (st, sn)) (hb : Below w.heap.size w w') : TxEnd s t n w (.returned (.tuple #[.int .i64 v, .int .u8 st, .int .i64 sn])) w' := by
  have h1 : stW s v = st := by unfold stW; rw [if_neg (by omega), List.getD_eq_getElem?_getD, hx]; rfl
  have h2 : snW s v = sn := by unfold snW; rw [if_neg (by omega), List.getD_eq_getElem?_getD, hx]; rfl
  unfold TxEnd
  rw [h, h1, h2]
  exact ⟨rfl, hb⟩
theorem tx_nil (t n : Int) (w : World) : Calls Try.prog 15 #[.pointer none, .int .i64 t, .int .i64 n] w fun e w' => e = .returned (.tuple #[.int .i64 0, .int .u8 0, .int .i64 0]) ∧ w = w' := by
  go_enter Try.func15, Try.ntmps15
  go_wp2
  go_ret3
  exact ⟨rfl, rfl⟩
set_option maxRecDepth 100000 in
set_option maxHeartbeats 4000000 in
theorem tx_any (B p : Nat) (s : MS) (S : Nat → Prop) (t n : Int) (w : World) (h : MR w B p s S) (hn : s.txns.length ≤ 100000) : Calls Try.prog 15 #[.pointer (some ⟨p, 0, none⟩), .int .i64 t, .int .i64 n] w (TxEnd s t n w) := by
  obtain ⟨x, h, _⟩ := h
  have k11 : w.cell? ⟨p, 11, none⟩ = some (.slice (some ⟨x.tb, 0, none⟩) s.tasks.length s.tasks.length) := h.c0 11
  obtain ⟨m, hm⟩ : ∃ m, s.tasks.length = m := ⟨_, rfl⟩
  by_cases h1 : t < 0
  · have HT : Hid (txW s t n = 0) := Lib.hid (by unfold txW; rw [if_pos (.inl h1)])
    have d1 : decide (t < 0) = true := decide_eq_true h1
    rw [hm] at k11
    clear h hm
    go_enter Try.func15, Try.ntmps15
    go_wp2
    go_ret3
    exact txEnd0 HT.out (Below.refl _ _)
  · obtain ⟨i, rfl⟩ : ∃ i : Nat, t = (i : Int) := ⟨t.toNat, by omega⟩
    have d1 : decide ((i : Int) < 0) = false := decide_eq_false (by omega)
    by_cases h2 : m ≤ i
    · have HT : Hid (txW s (i : Int) n = 0) := Lib.hid (by unfold txW; rw [if_pos (.inr (.inl (by omega)))])
      have d2 : decide ((m : Int) ≤ (i : Int)) = true := decide_eq_true (by omega)
      have d3 : decide (m ≤ i) = true := decide_eq_true (by omega)
      rw [hm] at k11
      clear h hm h1
      go_enter Try.func15, Try.ntmps15
      go_wp2
      go_ret3
      exact txEnd0 HT.out (Below.refl _ _)
    · have d2 : decide ((m : Int) ≤ (i : Int)) = false := decide_eq_false (by omega)
      have d3 : decide (m ≤ i) = false := decide_eq_false (by omega)
      by_cases h3 : n < 1
      · have HT : Hid (txW s (i : Int) n = 0) := Lib.hid (by unfold txW; rw [if_pos (.inr (.inr (.inl h3)))])
        have d4 : decide (n < 1) = true := decide_eq_true h3
        rw [hm] at k11
        clear h hm h1 h2
        go_enter Try.func15, Try.ntmps15
        go_wp2
        go_ret3
        exact txEnd0 HT.out (Below.refl _ _)
      · obtain ⟨j, rfl⟩ : ∃ j : Nat, n = (j : Int) := ⟨n.toNat, by omega⟩
        have d4 : decide ((j : Int) < 1) = false := decide_eq_false (by omega)
        obtain ⟨A, c, hk, kt, hs⟩ := h.task (t := i) (by omega)
        have ht := h.ok.tx (i : Int) (j : Int)
        have hl2 : (s.tasks.getD i []).length ≤ s.txns.length := by
          have hi : i < s.tasks.length := by omega
          have e : s.tasks.getD i [] = s.tasks[i] := by rw [List.getD_eq_getElem?_getD, List.getElem?_eq_getElem hi]; rfl
          rw [e]; exact (h.ok.nums _ (List.getElem_mem hi)).1
        rw [show ((i : Int)).toNat = i from rfl] at ht
        have i1 := idx107 x.tb 0 m m i (i : Int) rfl (by omega)
        simp only [Nat.zero_add] at i1
        by_cases h4 : (s.tasks.getD i []).length < j
        · have HT : Hid (txW s (i : Int) (j : Int) = 0) := Lib.hid (by unfold txW; rw [if_pos (.inr (.inr (.inr (by rw [show ((i : Int)).toNat = i from rfl]; omega))))])
          generalize s.tasks.getD i [] = L at *
          obtain ⟨l, hl⟩ : ∃ l, L.length = l := ⟨_, rfl⟩
          rw [hl] at kt h4
          have d5 : decide ((l : Int) < (j : Int)) = true := decide_eq_true (by omega)
          have d6 : decide (l < j) = true := decide_eq_true (by omega)
          rw [hm] at k11
          clear h hm h1 h2 h3 h4 hk hs ht hl hl2
          go_enter Try.func15, Try.ntmps15
          go_wp2
          go_ret3
          exact txEnd0 HT.out (Below.refl _ _)
        · have e0 : txW s (i : Int) (j : Int) = (s.tasks.getD i []).getD (j - 1) 0 := by
            unfold txW
            rw [if_neg (by rw [show ((i : Int)).toNat = i from rfl]; omega), show ((i : Int)).toNat = i from rfl, show ((j : Int) - 1).toNat = j - 1 from by omega]
          rcases ht with ht | ht
          · exfalso
            have hi : i < s.tasks.length := by omega
            have e : s.tasks.getD i [] = s.tasks[i] := by rw [List.getD_eq_getElem?_getD, List.getElem?_eq_getElem hi]; rfl
            have hj : j - 1 < (s.tasks.getD i []).length := by omega
            have hv : (s.tasks.getD i []).getD (j - 1) 0 = (s.tasks.getD i [])[j - 1] := by rw [List.getD_eq_getElem?_getD, List.getElem?_eq_getElem hj]; rfl
            have := (h.ok.nums _ (by rw [e]; exact List.getElem_mem hi)).2 _ (List.getElem_mem hj)
            rw [← hv, ← e0, ht] at this
            omega
          obtain ⟨_, _, _, _, _, hw1, hw2⟩ := ht
          obtain ⟨v, hv⟩ : ∃ v : Nat, txW s (i : Int) (j : Int) = (v : Int) := ⟨(txW s (i : Int) (j : Int)).toNat, by omega⟩
          have HT := Lib.hid hv
          rw [hv] at hw1 hw2 e0
          obtain ⟨A2, c2, etv, hc2, hr⟩ := h.txr
          have k10 : w.cell? ⟨p, 10, none⟩ = some x.tv := h.c0 10
          rw [etv] at k10
          generalize s.tasks.getD i [] = L at *
          obtain ⟨l, hl⟩ : ∃ l, L.length = l := ⟨_, rfl⟩
          rw [hl] at kt h4 hl2
          have d5 : decide ((l : Int) < (j : Int)) = false := decide_eq_false (by omega)
          have d6 : decide (l < j) = false := decide_eq_false (by omega)
          obtain ⟨g, off, rfl, hg, hcell⟩ := hs.rd.2 (by rw [hl]; omega)
          have hjl : L[j - 1]? = some (v : Int) := by
            rw [List.getD_eq_getElem?_getD, List.getElem?_eq_getElem (by omega)] at e0
            rw [List.getElem?_eq_getElem (by omega)]; exact congrArg some e0.symm
          have q1 := hcell (j - 1) _ hjl
          have i2 := idx85 g off l c (j - 1) ((j : Int) - 1) (by omega) (by omega)
          have wj : wrap64 ((j : Int) - 1) = (j : Int) - 1 := by unfold wrap64; omega
          have wv : wrap64 ((v : Int) - 1) = (v : Int) - 1 := by unfold wrap64; omega
          obtain ⟨g2, off2, rfl, hg2, hcell2⟩ := hr.2 (by omega)
          obtain ⟨N, hN⟩ : ∃ N, s.txns.length = N := ⟨_, rfl⟩
          have hvx : s.txns[v - 1]? = some (s.txns[v - 1]'(by omega)) := List.getElem?_eq_getElem _
          generalize s.txns[v - 1]'(by omega) = q at hvx
          obtain ⟨st, sn⟩ := q
          have HX : Hid (s.txns[((v : Int) - 1).toNat]? = some (st, sn)) := Lib.hid (by rw [show ((v : Int) - 1).toNat = v - 1 from by omega]; exact hvx)
          have q2 := hcell2 (v - 1) _ hvx 0 (by decide)
          have q3 := hcell2 (v - 1) _ hvx 1 (by decide)
          simp only [txE, List.getElem?_cons_zero, List.getElem?_cons_succ, Nat.add_zero] at q2 q3
          rw [hN] at k10
          have i3 := idx106 g2 off2 N c2 (v - 1) ((v : Int) - 1) (by omega) (by omega)
          have HV : Hid (1 ≤ (v : Int)) := Lib.hid hw1
          unfold iE at q1
          rw [hm] at k11
          clear h hm h1 h2 h3 h4 hk hs hl hl2 e0 hv hw1 hw2 hr hcell hcell2 hvx hjl hN hc2 etv hn hg hg2
          go_enter Try.func15, Try.ntmps15
          go_wp2
          go_quiet (fail)
          go_wp2
          go_ret3
          exact txEnd1 HT.out HV.out HX.out (below_drewN (Below.refl _ _) _)
end Go.Proofs.Ytoinjnocopejjaa

/- The model's map: what a key has. -/
namespace Go.Proofs.Ytoinjnocopejjaa
open Go.ChangeShapes Go.WideShapes Go.ChangeAt Go.RowKit Go.Maps
set_option linter.unusedVariables false
set_option linter.unusedSimpArgs false
theorem law9 : Keyed Try.prog 9 := string_keyed Try.underlying9
theorem keyS (k : ByteArray) (hk : k.size ≤ maxLen) : keyOf Try.prog 9 (.string k) = some (.string (bl k)) := by
  simp [keyOf, Try.underlying9, mapKey, hk, bl]
theorem zero114 (w : World) : (zeroValue 114).run Try.prog w = .ok (rowV hd0) w := by kernel_rfl
section
variable {W W' : World} {B p : Nat} {s : MS} {x : MX}
def hdG (x : MX) (k : ByteArray) : Hd := getK hd0 x.hs k
theorem MdAt.getR (h : MdAt W B p s x) (k : ByteArray) : getR s k = hdR (hdG x k) := by
  unfold Ytoinjnocopejjaa.getR hdG
  rw [h.rows]
  exact mp_get hdR hd0 x.hs k
theorem MdAt.hdAt (h : MdAt W B p s x) (k : ByteArray) : HdAt W (hdG x k) := by
  unfold hdG
  cases e : hasK x.hs k with
  | true => exact h.ver _ (get_mem (d := hd0) e)
  | false => rw [get_none e]; exact hd0_at W
theorem MdAt.look (h : MdAt W B p s x) (k : ByteArray) (hk : k.size ≤ maxLen) (n : Nat) : (Instr.lookup 108 (.map (some x.b)) (.string k) false).run Try.prog (W.drewN n) = .ok (rowV (hdG x k)) (W.drewN n) := by
  have hm : (W.drewN n).ownsMap Try.prog 9 RH x.b s.rows.length (DM x) := h.map
  obtain ⟨v, ps, hrun, hv⟩ := hm.lookup law9 Try.underlying108 (zero114 _) (show RH (rowV hd0) = some (.held (rowV hd0), []) from rfl) (keyS k hk)
  unfold DM at hv
  rw [atKey_dm] at hv
  unfold RH at hv
  simp only [Option.some.injEq, Prod.mk.injEq, DataW.held.injEq] at hv
  rw [hrun, hv.1]
  unfold hdG
  rw [mp_get]
theorem MdAt.look0 (h : MdAt W B p s x) (k : ByteArray) (hk : k.size ≤ maxLen) : (Instr.lookup 108 (.map (some x.b)) (.string k) false).run Try.prog W = .ok (rowV (hdG x k)) W := h.look k hk 0
theorem MdAt.look_ok (h : MdAt W B p s x) (k : ByteArray) (hk : k.size ≤ maxLen) (n : Nat) : (Instr.lookup 108 (.map (some x.b)) (.string k) true).run Try.prog (W.drewN n) = .ok (.tuple #[rowV (hdG x k), .bool (hasK s.rows k)]) (W.drewN n) := by
  have hm : (W.drewN n).ownsMap Try.prog 9 RH x.b s.rows.length (DM x) := h.map
  obtain ⟨v, ps, hrun, hv⟩ := hm.look_ok law9 Try.underlying108 (zero114 _) (show RH (rowV hd0) = some (.held (rowV hd0), []) from rfl) (keyS k hk)
  unfold DM at hv hrun
  rw [atKey_dm] at hv
  rw [has_dm] at hrun
  unfold RH at hv
  simp only [Option.some.injEq, Prod.mk.injEq, DataW.held.injEq] at hv
  have e : hasK (mp rowV x.hs) k = hasK s.rows k := by rw [h.rows, mp_has, mp_has]
  rw [hrun, hv.1, e]
  unfold hdG
  rw [mp_get]
theorem vers_of {hd : Hd} (h : HdAt W hd) : Vers W.heap.size W hd.A hd.n hd.L := vrow_vers h.1
end
end Go.Proofs.Ytoinjnocopejjaa
