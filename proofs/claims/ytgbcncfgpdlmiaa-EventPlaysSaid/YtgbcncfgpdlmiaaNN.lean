/- The examples. -/
import Derived.Test.YtgbcncfgpdlmiaaM
namespace Go.Proofs.Ytgbcncfgpdlmiaa
open Go.ChangeShapes Go.WideShapes Go.ChangeAt Go.RowKit Go.Maps
set_option linter.unusedVariables false
set_option linter.unusedSimpArgs false

theorem built31f : Try.prog.built 31 [(1, .bool true)] = some #[.int .i64 0, .bool true, .string { data := #[] }, .slice none 0 0] := by kernel_rfl
theorem built45 (a b : Int) : Try.prog.built 45 [(0, .int .i64 a), (1, .int .i64 b)] = some #[.int .i64 a, .int .i64 b] := by kernel_rfl
/-- a recorder of two tasks, of a known history -/
def KR (w0 : World) (p : Nat) (L : List Ev) (W : World) : Prop := ∃ v Rs, RcAt W w0.heap.size p 2 v Rs ∧ Rs.map Prod.fst = L ∧ Below w0.heap.size w0 W
theorem EvO.np {W : World} {B n : Nat} {v : Value} {Rs : List RE} (h : EvO W B v n Rs) (hp : ∀ e ∈ Rs.map Prod.fst, e.2.2.2.2.2.2.length ≤ 100000) : ∀ r ∈ Rs, r.2.2.1 ≤ 100000 := fun r hr => by
  rw [← (h.po r hr).po.rd.1]
  exact hp _ (List.mem_map.2 ⟨r, hr, rfl⟩)
theorem FrR.bel {w0 W W' : World} {p : Nat} {tasks : Int} {v : Value} {Rs : List RE} (h : RcAt W w0.heap.size p tasks v Rs) (hb : Below w0.heap.size w0 W) (hf : FrR W W' p v) : Below w0.heap.size w0 W' :=
  hf.below hb hb.size h.hp (fun k e => (h.row.lt k e).1) (.inr trivial)
section
variable {w0 W : World} {p : Nat} {L L2 : List Ev} {c t : Int}
theorem KR.later {W' : World} (h : KR w0 p L W) (hb : Below W.heap.size W W') : KR w0 p L W' := by
  obtain ⟨v, Rs, h1, h2, h3⟩ := h
  exact ⟨v, Rs, h1.later hb, h2, stepB h3 hb⟩
theorem kr_of {W' : World} {v : Value} {Rs : List RE} {e : Ending} {wh : Int} {a : An} (h : RcAt W w0.heap.size p 2 v Rs) (hm : Rs.map Prod.fst = L) (hb : Below w0.heap.size w0 W) (hc : addC 2 L wh t = c) (hL : addL 2 L wh t a = L2) (hh : AdEnd w0.heap.size p 2 v Rs wh t a W e W') : e = .returned (.int .i64 c) ∧ KR w0 p L2 W' := by
  obtain ⟨rfl, v', Rs', k1, k2, k3, _⟩ := hh
  rw [hm] at k2 ⊢
  rw [hc]
  exact ⟨rfl, v', Rs', k1, k2.trans hL, FrR.bel h hb k3⟩
theorem kr_len {v : Value} {Rs : List RE} (hm : Rs.map Prod.fst = L) (hl : L.length ≤ 100000) : Rs.length ≤ 100000 := by rw [← hm, List.length_map] at hl; exact hl
theorem kr_inv (h : KR w0 p L W) (hl : L.length ≤ 100000) (hc : addC 2 L 1 t = c) (hL : addL 2 L 1 t an0 = L2) : Calls Try.prog 12 #[.pointer (some ⟨p, 0, none⟩), .int .i64 t] W fun e W' => e = .returned (.int .i64 c) ∧ KR w0 p L2 W' := by
  obtain ⟨v, Rs, h1, h2, h3⟩ := h
  exact (invoke_any _ p 2 v Rs W h1 h3.size (by decide) t (kr_len (v := v) h2 hl)).mono (fun e W' hh => kr_of h1 h2 h3 hc hL hh)
theorem kr_mark (h : KR w0 p L W) (hl : L.length ≤ 100000) (hc : addC 2 L 2 t = c) (hL : addL 2 L 2 t an0 = L2) : Calls Try.prog 13 #[.pointer (some ⟨p, 0, none⟩), .int .i64 t] W fun e W' => e = .returned (.int .i64 c) ∧ KR w0 p L2 W' := by
  obtain ⟨v, Rs, h1, h2, h3⟩ := h
  exact (mark_any _ p 2 v Rs W h1 h3.size (by decide) t (kr_len (v := v) h2 hl)).mono (fun e W' hh => kr_of h1 h2 h3 hc hL hh)
theorem kr_ret (fo : Bool) (h : KR w0 p L W) (hl : L.length ≤ 100000) (hc : addC 2 L 3 t = c) (hL : addL 2 L 3 t (0, fo, { data := #[] }, []) = L2) : Calls Try.prog 14 #[.pointer (some ⟨p, 0, none⟩), .int .i64 t, .agg #[.int .i64 0, .bool fo, .string { data := #[] }, .slice none 0 0]] W fun e W' => e = .returned (.int .i64 c) ∧ KR w0 p L2 W' := by
  obtain ⟨v, Rs, h1, h2, h3⟩ := h
  exact (return_any _ p 2 v Rs W h1 h3.size (by decide) t 0 fo { data := #[] } [] none 0 0 (fun W _ => PO.empty W) (by decide) (kr_len (v := v) h2 hl)).mono (fun e W' hh => kr_of h1 h2 h3 hc hL hh)
theorem kr_ret0 (h : KR w0 p L W) (hl : L.length ≤ 100000) (hc : addC 2 L 3 t = c) (hL : addL 2 L 3 t an0 = L2) : Calls Try.prog 14 #[.pointer (some ⟨p, 0, none⟩), .int .i64 t, .agg #[.int .i64 0, .bool false, .string { data := #[] }, .slice none 0 0]] W fun e W' => e = .returned (.int .i64 c) ∧ KR w0 p L2 W' := kr_ret false h hl hc hL
theorem kr_ret1 (h : KR w0 p L W) (hl : L.length ≤ 100000) (hc : addC 2 L 3 t = c) (hL : addL 2 L 3 t (0, true, { data := #[] }, []) = L2) : Calls Try.prog 14 #[.pointer (some ⟨p, 0, none⟩), .int .i64 t, .agg #[.int .i64 0, .bool true, .string { data := #[] }, .slice none 0 0]] W fun e W' => e = .returned (.int .i64 c) ∧ KR w0 p L2 W' := kr_ret true h hl hc hL
def ToldK (L : List Ev) (n : Nat) (w : World) (e : Ending) (w' : World) : Prop := ∃ A c Rs, e = .returned (.slice A n c) ∧ EvO w' w.heap.size (.slice A n c) n Rs ∧ Rs.map Prod.fst = L ∧ Below w.heap.size w w'
theorem told_of {w w' : World} {e : Ending} {n : Nat} (hl : L.length = n) (h : OwdEnd L w e w') : ToldK L n w e w' := by
  subst hl
  obtain ⟨A, c, n, Rs, rfl, h1, h2, h3⟩ := h
  have hn : n = L.length := by rw [← h1.row.1, ← h2, List.length_map]
  subst hn
  exact ⟨A, c, Rs, rfl, h1, h2, h3⟩
theorem kr_events {n : Nat} (hn : L.length = n) (h : KR w0 p L W) (hl : L.length ≤ 100000) (hp : ∀ e ∈ L, e.2.2.2.2.2.2.length ≤ 100000) : Calls Try.prog 15 #[.pointer (some ⟨p, 0, none⟩)] W (ToldK L n W) := by
  obtain ⟨v, Rs, h1, h2, h3⟩ := h
  refine (events_any _ p 2 v Rs W h1 (kr_len (v := v) h2 hl) (h1.row.np (by rw [h2]; exact hp))).mono (fun e W' hh => ?_)
  rw [h2] at hh
  exact told_of hn hh
/-- .. beside a history that was told -/
def KR3 (w0 : World) (p : Nat) (L : List Ev) (B9 : Nat) (tv : Value) (n : Nat) (Tr : List RE) (W : World) : Prop := ∃ v Rs, RcAt W w0.heap.size p 2 v Rs ∧ Rs.map Prod.fst = L ∧ Below w0.heap.size w0 W ∧ EvO W B9 tv n Tr ∧ ∀ k, tv.ownBlock = some k → k ≠ p ∧ v.ownBlock ≠ some k
theorem EvO.frR {W W' : World} {B B2 p n : Nat} {tasks : Int} {v tv : Value} {Rs Tr : List RE} (h : EvO W B tv n Tr) (hr : RcAt W B2 p tasks v Rs) (hf : FrR W W' p v) (hd : ∀ k, tv.ownBlock = some k → k ≠ p ∧ v.ownBlock ≠ some k) : EvO W' B tv n Tr :=
  ⟨h.row.keepS (fun i e => hf.block i (h.lt i e).2 (hd i e).1 (hd i e).2), fun x hx => (h.po x hx).keep hf.size (fun g e => hf.block g ((h.po x hx).lt g e).2 (((h.po x hx).base (Nat.zero_le _)).notR (hr.base (Nat.zero_le _)) g e).1 (((h.po x hx).base (Nat.zero_le _)).notR (hr.base (Nat.zero_le _)) g e).2)⟩
theorem KR3.kr {B9 n : Nat} {tv : Value} {Tr : List RE} (h : KR3 w0 p L B9 tv n Tr W) : KR w0 p L W := by
  obtain ⟨v, Rs, h1, h2, h3, _⟩ := h
  exact ⟨v, Rs, h1, h2, h3⟩
theorem KR3.told {B9 n : Nat} {tv : Value} {Tr : List RE} (h : KR3 w0 p L B9 tv n Tr W) : EvO W B9 tv n Tr := by
  obtain ⟨v, Rs, _, _, _, h4, _⟩ := h
  exact h4
theorem KR.and {n : Nat} {tv : Value} {Tr : List RE} {W' : World} (h : KR w0 p L W) (hb : Below W.heap.size W W') (ho : EvO W' W.heap.size tv n Tr) : KR3 w0 p L W.heap.size tv n Tr W' := by
  obtain ⟨v, Rs, h1, h2, h3⟩ := h
  refine ⟨v, Rs, h1.later hb, h2, stepB h3 hb, ho, fun k e => ⟨fun e2 => ?_, fun e2 => ?_⟩⟩
  · have := (ho.lt k e).1; have := h1.blk.lt; omega
  · have := (ho.lt k e).1; have := (h1.row.lt k e2).2; omega
theorem kr3_of {W' : World} {v : Value} {Rs : List RE} {e : Ending} {wh : Int} {a : An} {B9 n : Nat} {tv : Value} {Tr : List RE} (h : RcAt W w0.heap.size p 2 v Rs) (hm : Rs.map Prod.fst = L) (hb : Below w0.heap.size w0 W) (ho : EvO W B9 tv n Tr) (hd : ∀ k, tv.ownBlock = some k → k ≠ p ∧ v.ownBlock ≠ some k) (hc : addC 2 L wh t = c) (hL : addL 2 L wh t a = L2) (hh : AdEnd w0.heap.size p 2 v Rs wh t a W e W') : e = .returned (.int .i64 c) ∧ KR3 w0 p L2 B9 tv n Tr W' := by
  obtain ⟨rfl, v', Rs', k1, k2, k3, k4⟩ := hh
  rw [hm] at k2 ⊢
  rw [hc]
  refine ⟨rfl, v', Rs', k1, k2.trans hL, FrR.bel h hb k3, ho.frR h k3 hd, fun k e => ⟨(hd k e).1, fun e2 => ?_⟩⟩
  rcases k4 k e2 with e3 | e3
  · exact (hd k e).2 e3
  · have := (ho.lt k e).2; omega
theorem kr3_inv {B9 n : Nat} {tv : Value} {Tr : List RE} (h : KR3 w0 p L B9 tv n Tr W) (hl : L.length ≤ 100000) (hc : addC 2 L 1 t = c) (hL : addL 2 L 1 t an0 = L2) : Calls Try.prog 12 #[.pointer (some ⟨p, 0, none⟩), .int .i64 t] W fun e W' => e = .returned (.int .i64 c) ∧ KR3 w0 p L2 B9 tv n Tr W' := by
  obtain ⟨v, Rs, h1, h2, h3, h4, h5⟩ := h
  exact (invoke_any _ p 2 v Rs W h1 h3.size (by decide) t (kr_len (v := v) h2 hl)).mono (fun e W' hh => kr3_of h1 h2 h3 h4 h5 hc hL hh)
theorem kr3_ret0 {B9 n : Nat} {tv : Value} {Tr : List RE} (h : KR3 w0 p L B9 tv n Tr W) (hl : L.length ≤ 100000) (hc : addC 2 L 3 t = c) (hL : addL 2 L 3 t an0 = L2) : Calls Try.prog 14 #[.pointer (some ⟨p, 0, none⟩), .int .i64 t, .agg #[.int .i64 0, .bool false, .string { data := #[] }, .slice none 0 0]] W fun e W' => e = .returned (.int .i64 c) ∧ KR3 w0 p L2 B9 tv n Tr W' := by
  obtain ⟨v, Rs, h1, h2, h3, h4, h5⟩ := h
  exact (return_any _ p 2 v Rs W h1 h3.size (by decide) t 0 false { data := #[] } [] none 0 0 (fun W _ => PO.empty W) (by decide) (kr_len (v := v) h2 hl)).mono (fun e W' hh => kr3_of h1 h2 h3 h4 h5 hc hL hh)
theorem told_at {A : Option Addr} {B n c : Nat} {Rs : List RE} (h : EvO W B (.slice A n c) n Rs) (hm : Rs.map Prod.fst = L) (hn : 0 < n) : ∃ g, A = some ⟨g, 0, none⟩ ∧ g < W.heap.size ∧ ∀ j e, L[j]? = some e → W.cell? ⟨g, j * 7, none⟩ = some (.int .u8 e.1) ∧ W.cell? ⟨g, j * 7 + 1, none⟩ = some (.int .i64 e.2.1) ∧ W.cell? ⟨g, j * 7 + 2, none⟩ = some (.int .i64 e.2.2.1) ∧ W.cell? ⟨g, j * 7 + 4, none⟩ = some (.bool e.2.2.2.2.1) := by
  rcases h.row.2.2 with ⟨_, h0⟩ | ⟨g, cap, cur, e, hB, hg, _⟩
  · omega
  · cases e
    have hr := h.row.rsl evc_len
    obtain ⟨g', off, e2, hlt, hc⟩ := hr.2 hn
    cases e2
    refine ⟨g, rfl, hlt, fun j e hj => ?_⟩
    rw [← hm, List.getElem?_map] at hj
    cases hx : Rs[j]? with
    | none => rw [hx] at hj; cases hj
    | some r =>
      rw [hx] at hj
      simp only [Option.map_some, Option.some.injEq] at hj
      subst hj
      have h0 := hc j r hx 0 (by decide)
      have h1 := hc j r hx 1 (by decide)
      have h2 := hc j r hx 2 (by decide)
      have h4 := hc j r hx 4 (by decide)
      simp only [Nat.zero_add, Nat.add_zero] at h0 h1 h2 h4
      exact ⟨h0, h1, h2, h4⟩
end
theorem idx32k (g m c k : Nat) (h : k < m) (W : World) : (Instr.indexAt 32 (.slice (some ⟨g, 0, none⟩) m c) (.int .i64 (k : Nat))).run Try.prog W = .ok (.pointer (some ⟨g, k * 7, none⟩)) W := by
  have := idx32 g 0 m c k (k : Int) rfl h W
  rw [Nat.zero_add] at this; exact this
def kE1 : Ev := (1, 0, 0, an0)
def kE2 : Ev := (1, 1, 0, an0)
def kE3 : Ev := (2, 1, 0, an0)
def kE4 : Ev := (2, 0, 0, an0)
def kE5 : Ev := (3, 0, 0, (0, true, { data := #[] }, []))
def kE6 : Ev := (3, 1, 0, an0)
def kE7 : Ev := (1, 0, 1, an0)
theorem kwo : woL [(0, 0)] [kE1, kE2, kE3, kE4, kE5, kE6, kE7] = [kE2, kE3, kE6, kE1] := by decide +kernel
theorem kleg : legalL 2 [kE2, kE3, kE6, kE1] = true := by decide +kernel
theorem kbare : bareL [kE1, kE2, kE3, kE4, kE5] = [kE1, kE2, kE5] := by decide +kernel
set_option maxRecDepth 100000 in
set_option maxHeartbeats 8000000 in
theorem works_any (w : World) : Calls Try.prog 11 #[] w fun e w' => e = .returned (.bool true) ∧ Below w.heap.size w w' := by
  go_enter Try.func11, Try.ntmps11
  go_wp2_with fail
  refine (new_any 2 w (by decide) (by decide)).mono ?_
  rintro e w1 ⟨p, rfl, hr, hb⟩
  have HK1 : Hid (KR w p [] w1) := ⟨_, _, hr, rfl, hb⟩
  clear hr hb
  go_wp2_with (first
    | (refine wpl_build rfl 31 _ rfl _ built31 ?_)
    | (refine wpl_build rfl 31 _ rfl _ built31f ?_)
    | fail)
  refine (kr_inv (L := []) (L2 := [kE1]) (c := 0) (t := 0) HK1.out (by decide) (by decide +kernel) (by decide +kernel)).mono ?_
  rintro e w2 ⟨rfl, hk⟩
  have HK2 := Lib.hid hk
  clear hk HK1
  go_wp2_with (first
    | (refine wpl_build rfl 31 _ rfl _ built31 ?_)
    | (refine wpl_build rfl 31 _ rfl _ built31f ?_)
    | fail)
  refine (kr_inv (L := [kE1]) (L2 := [kE1]) (c := 7) (t := 0) HK2.out (by decide) (by decide +kernel) (by decide +kernel)).mono ?_
  rintro e w3 ⟨rfl, hk⟩
  have HK3 := Lib.hid hk
  clear hk HK2
  go_wp2_with (first
    | (refine wpl_build rfl 31 _ rfl _ built31 ?_)
    | (refine wpl_build rfl 31 _ rfl _ built31f ?_)
    | fail)
  refine (kr_ret0 (L := [kE1]) (L2 := [kE1]) (c := 7) (t := 0) HK3.out (by decide) (by decide +kernel) (by decide +kernel)).mono ?_
  rintro e w4 ⟨rfl, hk⟩
  have HK4 := Lib.hid hk
  clear hk HK3
  go_wp2_with (first
    | (refine wpl_build rfl 31 _ rfl _ built31 ?_)
    | (refine wpl_build rfl 31 _ rfl _ built31f ?_)
    | fail)
  refine (kr_inv (L := [kE1]) (L2 := [kE1, kE2]) (c := 0) (t := 1) HK4.out (by decide) (by decide +kernel) (by decide +kernel)).mono ?_
  rintro e w5 ⟨rfl, hk⟩
  have HK5 := Lib.hid hk
  clear hk HK4
  go_wp2_with (first
    | (refine wpl_build rfl 31 _ rfl _ built31 ?_)
    | (refine wpl_build rfl 31 _ rfl _ built31f ?_)
    | fail)
  refine (kr_mark (L := [kE1, kE2]) (L2 := [kE1, kE2, kE3]) (c := 0) (t := 1) HK5.out (by decide) (by decide +kernel) (by decide +kernel)).mono ?_
  rintro e w6 ⟨rfl, hk⟩
  have HK6 := Lib.hid hk
  clear hk HK5
  go_wp2_with (first
    | (refine wpl_build rfl 31 _ rfl _ built31 ?_)
    | (refine wpl_build rfl 31 _ rfl _ built31f ?_)
    | fail)
  refine (kr_mark (L := [kE1, kE2, kE3]) (L2 := [kE1, kE2, kE3, kE4]) (c := 0) (t := 0) HK6.out (by decide) (by decide +kernel) (by decide +kernel)).mono ?_
  rintro e w7 ⟨rfl, hk⟩
  have HK7 := Lib.hid hk
  clear hk HK6
  go_wp2_with (first
    | (refine wpl_build rfl 31 _ rfl _ built31 ?_)
    | (refine wpl_build rfl 31 _ rfl _ built31f ?_)
    | fail)
  refine (kr_ret1 (L := [kE1, kE2, kE3, kE4]) (L2 := [kE1, kE2, kE3, kE4, kE5]) (c := 0) (t := 0) HK7.out (by decide) (by decide +kernel) (by decide +kernel)).mono ?_
  rintro e w8 ⟨rfl, hk⟩
  have HK8 := Lib.hid hk
  clear hk HK7
  go_wp2_with (first
    | (refine wpl_build rfl 31 _ rfl _ built31 ?_)
    | (refine wpl_build rfl 31 _ rfl _ built31f ?_)
    | fail)
  refine (kr_inv (L := [kE1, kE2, kE3, kE4, kE5]) (L2 := [kE1, kE2, kE3, kE4, kE5]) (c := 1) (t := 2) HK8.out (by decide) (by decide +kernel) (by decide +kernel)).mono ?_
  rintro e w9 ⟨rfl, hk⟩
  have HK9 := Lib.hid hk
  clear hk HK8
  go_wp2_with fail
  refine (kr_events (n := 5) rfl HK9.out (by decide) (by decide +kernel)).mono ?_
  rintro e w10 ⟨A, ca, Rs, rfl, ho, hm, hb⟩
  have HK10 := Lib.hid (HK9.out.and hb ho)
  obtain ⟨g, rfl, hg, hcell⟩ := told_at ho hm (by decide)
  have HTM := Lib.hid hm
  have x0 : w10.cell? ⟨g, 28, none⟩ = some (.int .u8 3) := (hcell 4 kE5 rfl).1
  have x4 : w10.cell? ⟨g, 32, none⟩ = some (.bool true) := (hcell 4 kE5 rfl).2.2.2
  have y1 : w10.cell? ⟨g, 15, none⟩ = some (.int .i64 1) := (hcell 2 kE3 rfl).2.1
  have y2 : w10.cell? ⟨g, 16, none⟩ = some (.int .i64 0) := (hcell 2 kE3 rfl).2.2.1
  have i4 : ∀ W, (Instr.indexAt 32 (.slice (some ⟨g, 0, none⟩) 5 ca) (.int .i64 4)).run Try.prog W = .ok (.pointer (some ⟨g, 28, none⟩)) W := fun W => idx32k g 5 ca 4 (by decide) W
  have i2 : ∀ W, (Instr.indexAt 32 (.slice (some ⟨g, 0, none⟩) 5 ca) (.int .i64 2)).run Try.prog W = .ok (.pointer (some ⟨g, 14, none⟩)) W := fun W => idx32k g 5 ca 2 (by decide) W
  clear hb ho hm hcell HK9
  go_wp2_with (first
    | (refine wpl_build rfl 31 _ rfl _ built31 ?_)
    | (refine wpl_build rfl 31 _ rfl _ built31f ?_)
    | fail)
  refine (kr3_ret0 (L := [kE1, kE2, kE3, kE4, kE5]) (L2 := [kE1, kE2, kE3, kE4, kE5, kE6]) (c := 0) (t := 1) HK10.out (by decide) (by decide +kernel) (by decide +kernel)).mono ?_
  rintro e w11 ⟨rfl, hk⟩
  have HK11 := Lib.hid hk
  clear hk HK10
  go_wp2_with (first
    | (refine wpl_build rfl 31 _ rfl _ built31 ?_)
    | (refine wpl_build rfl 31 _ rfl _ built31f ?_)
    | fail)
  refine (kr3_inv (L := [kE1, kE2, kE3, kE4, kE5, kE6]) (L2 := [kE1, kE2, kE3, kE4, kE5, kE6, kE7]) (c := 0) (t := 0) HK11.out (by decide) (by decide +kernel) (by decide +kernel)).mono ?_
  rintro e w12 ⟨rfl, hk⟩
  have HK12 := Lib.hid hk
  clear hk HK11
  clear x0 x4 y1 y2 i4 i2
  go_wp2_with fail
  refine (kr_events (n := 7) rfl HK12.out.kr (by decide) (by decide +kernel)).mono ?_
  rintro e w13 ⟨A7, c7, Rs7, rfl, ho, hm, hb⟩
  have HK13 := Lib.hid (HK12.out.kr.later hb)
  have HT := Lib.hid (HK12.out.told.later hb)
  have HT7 := Lib.hid ho
  have HM7 := Lib.hid hm
  have hbx : Below w13.heap.size w13 (w13.alloc (.cells #[.int .i64 0, .int .i64 0] 45)) := (Below.refl _ _).alloc (Nat.le_refl _) _
  have HX := Lib.hid (without1_any A7 7 c7 w13.heap.size (0, 0) Rs7 (w13.alloc (.cells #[.int .i64 0, .int .i64 0] 45)) (ho.evs.later hbx) (by decide) (ho.np (by rw [hm]; decide +kernel)) (fun r hr => (show ∀ e ∈ [kE1, kE2, kE3, kE4, kE5, kE6, kE7], -9223372036854775808 ≤ e.2.2.1 ∧ e.2.2.1 ≤ 9223372036854775807 by decide +kernel) r.1 (by rw [← hm]; exact List.mem_map.2 ⟨r, hr, rfl⟩)) (Blk.rsl (x := (0, 0)) (Blk.new w13 _ 45)))
  rw [hm, kwo] at HX
  have HBT : Hid (Below w13.heap.size w13 (w13.alloc (.cells #[.int .i64 0, .int .i64 0] 45))) := hbx
  have HBW : Hid (Below w.heap.size w (w13.alloc (.cells #[.int .i64 0, .int .i64 0] 45))) := by
    obtain ⟨_, _, _, _, h3⟩ := HK13.out
    exact stepB h3 hbx
  clear ho hm hb hbx HK12
  go_wp2_with (first
    | (refine wpl_build rfl 45 _ rfl _ (built45 0 0) ?_)
    | fail)
  refine HX.out.mono ?_
  rintro e w14 hx
  obtain ⟨A8, c8, Rs8, rfl, ho, hm, hb⟩ := told_of (n := 4) rfl hx
  obtain ⟨g8, rfl, hg8, hcell⟩ := told_at ho hm (by decide)
  have HT8 := Lib.hid ho
  have HM8 := Lib.hid hm
  have HBT8 := Lib.hid (stepB HBT.out hb)
  have HBW8 := Lib.hid (stepB HBW.out hb)
  have x1 : w14.cell? ⟨g8, 1, none⟩ = some (.int .i64 1) := (hcell 0 kE2 rfl).2.1
  have z0 : w14.cell? ⟨g8, 21, none⟩ = some (.int .u8 1) := (hcell 3 kE1 rfl).1
  have z1 : w14.cell? ⟨g8, 22, none⟩ = some (.int .i64 0) := (hcell 3 kE1 rfl).2.1
  have z2 : w14.cell? ⟨g8, 23, none⟩ = some (.int .i64 0) := (hcell 3 kE1 rfl).2.2.1
  have i0 : ∀ W, (Instr.indexAt 32 (.slice (some ⟨g8, 0, none⟩) 4 c8) (.int .i64 0)).run Try.prog W = .ok (.pointer (some ⟨g8, 0, none⟩)) W := fun W => idx32k g8 4 c8 0 (by decide) W
  have i3 : ∀ W, (Instr.indexAt 32 (.slice (some ⟨g8, 0, none⟩) 4 c8) (.int .i64 3)).run Try.prog W = .ok (.pointer (some ⟨g8, 21, none⟩)) W := fun W => idx32k g8 4 c8 3 (by decide) W
  have HLE := Lib.hid (legal_any 2 (some ⟨g8, 0, none⟩) 4 c8 Rs8 w14 ho.evs (ho.np (by rw [hm]; decide +kernel)) (by decide))
  rw [hm, kleg] at HLE
  clear hx ho hm hb hcell HX
  go_wp2_with fail
  refine HLE.out.mono ?_
  rintro e w15 ⟨rfl, hb⟩
  have HB9 := Lib.hid (stepB HBW8.out hb)
  have HBA := Lib.hid (bare_any (some ⟨g, 0, none⟩) 5 ca Rs w15 (HT.out.evs.later (stepB HBT8.out hb)) (by decide) (HT.out.np (by rw [HTM.out]; decide +kernel)))
  rw [HTM.out, kbare] at HBA
  clear hb x1 z0 z1 z2 i0 i3
  go_wp2_with fail
  refine HBA.out.mono ?_
  rintro e w16 hx
  obtain ⟨A9, c9, Rs9, rfl, ho, hm, hb⟩ := told_of (n := 3) rfl hx
  have HB10 := Lib.hid (stepB HB9.out hb)
  clear hx ho hm hb HBA HLE
  go_wp2
  go_ret
  exact ⟨rfl, HB10.out⟩
end Go.Proofs.Ytgbcncfgpdlmiaa
