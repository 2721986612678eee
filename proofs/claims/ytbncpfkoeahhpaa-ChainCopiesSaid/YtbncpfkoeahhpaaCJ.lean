/- The iterator over a chain. -/
import Derived.Test.YtbncpfkoeahhpaaCI
import Derived.Test.YtbncpfkoeahhpaaRT
import Derived.Deep.LoopGhost
namespace Go.Proofs.Ytbncpfkoeahhpaa
open Go.ChangeShapes Go.WideShapes Go.ChangeAt Go.RowKit Go.Shelf Go.Maps
set_option linter.unusedVariables false
set_option linter.unusedSimpArgs false

attribute [local go_sem] Oper.semAt_some
/-- from x over these versions one comes to y -/
def Lp (st : AS) (nd : Int → Nd) : Int → List Vn → Int → Prop
  | x, [], y => x = y
  | x, v :: L, y => isA st x = true ∧ (nd x).1 = v ∧ Lp st nd (nd x).2 L y
theorem Lp.snoc {st : AS} {nd : Int → Nd} : ∀ {L : List Vn} {x y : Int}, Lp st nd x L y → isA st y = true → Lp st nd x (L ++ [(nd y).1]) (nd y).2
  | [], x, y, h, hy => by
    have h' : x = y := h
    subst h'
    exact ⟨hy, rfl, rfl⟩
  | v :: L, x, y, h, hy => ⟨h.1, h.2.1, h.2.2.snoc hy⟩
/-- what a List tells: no more than k -/
def lsF (st : AS) (nd : Int → Nd) : Nat → Int → List Vn
  | 0, _ => []
  | k + 1, x => if isA st x then (nd x).1 :: lsF st nd k (nd x).2 else []
theorem lsF_end {st : AS} {nd : Int → Nd} : ∀ {L : List Vn} {x y : Int} {k : Nat}, Lp st nd x L y → isA st y = false → L.length ≤ k → lsF st nd k x = L
  | [], x, y, k, h, hy, _ => by
    have h' : x = y := h
    subst h'
    cases k with
    | zero => rfl
    | succ k => simp [lsF, hy]
  | v :: L, x, y, 0, h, hy, hk => by simp at hk
  | v :: L, x, y, k + 1, h, hy, hk => by
    simp only [List.length_cons, Nat.add_le_add_iff_right] at hk
    rw [lsF, if_pos h.1, h.2.1, lsF_end h.2.2 hy hk]
theorem lsF_full {st : AS} {nd : Int → Nd} : ∀ {L M : List Vn} {x y : Int}, Lp st nd x (L ++ M) y → lsF st nd L.length x = L
  | [], M, x, y, h => rfl
  | v :: L, M, x, y, h => by
    rw [List.length_cons, lsF, if_pos h.1, h.2.1, lsF_full h.2.2]
/-- a version's node, or the empty one -/
def ndO (st : AS) (nd : Int → Nd) (x : Int) : Nd := if isA st x then nd x else nd0
theorem hYat (F : Fence) (m : Nat) (P : Program) (l : Nat) (args : Array Value) (W : World) (R : Ending → World → Prop) (h : YieldAt F m P l args W R) : ∃ fn tmps assign body, (Instr.yield l args).run P W = .ok (.round l fn tmps assign body) W ∧ RoundIn F m P l fn tmps assign body W R := h
/-- between two rounds -/
def FRel (st : AS) (nd : Int → Nd) (x0 : Int) (Ba Bt q : Nat) (W w0 : World) (J : List Vn → World → Prop) (pre : List Vn) (p i : Value) (wr : World) : Prop :=
  ∃ (x : Int) (g : Nat), hR x ∧ Lp st nd x0 pre x ∧ p = .pointer (some ⟨g, 0, none⟩) ∧ i = .bool (isA st x) ∧ Blk wr g (ncl (ndO st nd x)) 31 ∧ Blk wr Ba #[.pointer (some ⟨q, 0, none⟩)] 22 ∧ Blk wr Bt #[.int .u64 x0] 24 ∧ Below w0.heap.size w0 wr ∧ W.heap.size ≤ g ∧ W.heap.size ≤ wr.heap.size ∧ J pre wr
set_option maxRecDepth 100000 in
set_option maxHeartbeats 4000000 in
theorem from_any (q : Nat) (x : Int) (k : Nat) (w : World) : CallsIn Fence.wide k Try.prog 37 #[.pointer (some ⟨q, 0, none⟩), .int .u64 x] w fun e w' => e = .returned (.func (.func 57) #[] #[.pointer (some ⟨w.heap.size, 0, none⟩), .pointer (some ⟨w.heap.size + 1, 0, none⟩)]) ∧ w' = (w.alloc (.cells #[.pointer (some ⟨q, 0, none⟩)] 22)).alloc (.cells #[.int .u64 x] 24) := by
  refine callsIn_of_wp Try.func37 rfl trivial ?_ rfl
  simp only [Try.ntmps37, List.size_toArray, List.length_cons, List.length_nil, Nat.reduceAdd, Nat.reduceSub, Array.replicate_succ, Array.replicate_zero, List.push_toArray, List.append_toArray, List.nil_append, List.cons_append]
  gi_wp2
  go_ret
  exact ⟨rfl, rfl⟩
set_option maxRecDepth 100000 in
set_option maxHeartbeats 8000000 in
theorem from1_in (n : Nat) (hn : 1 ≤ n) (l Ba Bt n₀ B q : Nat) (cf : Conf) (a m : Nat) (st : AS) (S : Nat → Prop) (nd : Int → Nd) (U : List Int) (K : Nat) (x0 : Int) (hx0 : hR x0) (N : Nat) (w0 : World) (hc : CR w0 B q cf a m st S) (hi : CI m st nd U K) (hn0 : w0.heap.size ≤ n₀)
    (J Jx : List Vn → World → Prop) (W : World) (ha : Blk W Ba #[.pointer (some ⟨q, 0, none⟩)] 22) (ht : Blk W Bt #[.int .u64 x0] 24) (hW : Below w0.heap.size w0 W) (hnW : n₀ ≤ W.heap.size)
    (hJ : AbT W.heap.size 31 J) (hJx : AbT W.heap.size 31 Jx) (hN : ∀ pre W, J pre W → pre.length < N)
    (hY : ∀ pre x W1, J pre W1 → YieldAt Fence.wide (n - 1) Try.prog l ((fun v : Vn => #[Value.agg #[.int .i64 v.1, .int .i64 v.2.1, .bool v.2.2.1, .string v.2.2.2]]) x) W1 fun e W' => (e = .returned (.bool true) ∧ J (pre ++ [x]) W' ∧ KpT n₀ W1 W') ∨ (e = .returned (.bool false) ∧ Jx (pre ++ [x]) W'))
    (hj0 : J [] W) : CallsIn Fence.wide n Try.prog 57 #[.func (.yield l) #[] #[], .pointer (some ⟨Ba, 0, none⟩), .pointer (some ⟨Bt, 0, none⟩)] W fun e W' => (∃ v, e = .returned v) ∧
      ((∃ ys, (∃ y, Lp st nd x0 ys y ∧ isA st y = false) ∧ J ys W') ∨ (∃ pre, (∃ y, Lp st nd x0 pre y) ∧ Jx pre W')) := by
  have HC := Lib.hid hc
  have HI := Lib.hid hi
  have HRD : Hid (∀ W x, Below w0.heap.size w0 W → hR x → ∀ k, CallsIn Fence.wide k Try.prog 9 #[.pointer (some ⟨q, 0, none⟩), .int .u64 x] W fun e w' => e = .returned (.tuple #[ndv (ndO st nd x), .bool (isA st x)]) ∧ Below W.heap.size W w') := fun W x hb hx k => callsIn_wide.2 (chread_any B q cf a m st S nd U K W (HC.out.later hb) HI.out x hx)
  have HHR : Hid (∀ x, hR x → isA st x = true → hR (nd x).2) := fun x hx h => by
    have := (HI.out.val x hx h).1.2.2.2.2
    exact ⟨this.1, by have := this.2; omega⟩
  have HX0 := Lib.hid hx0
  have HA := Lib.hid ha
  have HT := Lib.hid ht
  have HWB := Lib.hid hW
  have HJJ := Lib.hid hJ
  have HJX := Lib.hid hJx
  have HNN := Lib.hid hN
  have HYY := Lib.hid hY
  have HJ0 := Lib.hid hj0
  have hca := ha.cell 0
  have hct := ht.cell 0
  simp only [List.getElem?_toArray, List.getElem?_cons_zero, List.getElem?_cons_succ] at hca hct
  clear hc hi ha ht hW hJ hJx hN hY hj0 hx0
  refine callsIn_of_wp Try.func57 rfl trivial ?_ rfl
  simp only [Try.ntmps57, List.size_toArray, List.length_cons, List.length_nil, Nat.reduceAdd, Nat.reduceSub, Array.replicate_succ, Array.replicate_zero, List.push_toArray, List.append_toArray, List.nil_append, List.cons_append]
  gi_wp2
  refine ⟨trivial, ?_⟩
  refine (HRD.out W x0 HWB.out HX0.out _).mono ?_
  rintro e W2 ⟨rfl, hb⟩
  unfold ndv
  obtain ⟨n1, hn1⟩ : ∃ n1, ndO st nd x0 = n1 := ⟨_, rfl⟩
  obtain ⟨b1, hb1⟩ : ∃ b1, isA st x0 = b1 := ⟨_, rfl⟩
  rw [hn1, hb1]
  have HN1 := Lib.hid hn1
  have HB1 := Lib.hid hb1
  have HBW := Lib.hid hb
  obtain ⟨⟨wr_, t, b, v⟩, y⟩ := n1
  clear hn1 hb1 hb hca hct
  gi_wp2
  have hby : Below W2.heap.size W2 (W2.alloc (.cells #[.int .i64 wr_, .int .i64 t, .bool b, .string v, .int .u64 y] 31)) := (Below.refl _ _).alloc (Nat.le_refl _) _
  have hb3 := stepB HBW.out hby
  have hF0 : FRel st nd x0 Ba Bt q W w0 J [] (.pointer (some ⟨W2.heap.size, 0, none⟩)) (.bool b1) (W2.alloc (.cells #[.int .i64 wr_, .int .i64 t, .bool b, .string v, .int .u64 y] 31)) :=
    ⟨x0, W2.heap.size, HX0.out, rfl, rfl, by rw [HB1.out], by rw [HN1.out]; exact Blk.new _ _ _, HA.out.later hb3, HT.out.later hb3, HWB.out.trans (hb3.mono HWB.out.size), HBW.out.size, hb3.size, HJJ.out _ _ _ none HJ0.out (grown_of_below hb3) (fun r e => by cases e)⟩
  have HF0 := Lib.hid hF0
  generalize W2.alloc (.cells #[.int .i64 wr_, .int .i64 t, .bool b, .string v, .int .u64 y] 31) = W3 at *
  clear hF0 hby hb3 HBW HN1 HB1
  gi_loopw [4, 5] (fun p i wr => ∃ pre, FRel st nd x0 Ba Bt q W w0 J pre p i wr) (fun p i wr => leastOf (fun d => ∃ pre, FRel st nd x0 Ba Bt q W w0 J pre p i wr ∧ d = N - pre.length))
  case atStart => exact ⟨[], HF0.out⟩
  case round =>
    obtain ⟨⟨pre, hF, hd⟩, _⟩ := leastOf_spec (p := fun d => ∃ pre, FRel st nd x0 Ba Bt q W w0 J pre u4 u5 wr ∧ d = N - pre.length) ⟨_, hrel.choose, hrel.choose_spec, rfl⟩
    clear hrel
    have HL := Lib.hid hd
    clear hd
    obtain ⟨x, g, hx, hlp, rfl, rfl, hbg, hba, hbt, hbw, hgw, hsw, hj⟩ := hF
    have HX := Lib.hid hx
    have HLP := Lib.hid hlp
    have HBA := Lib.hid hba
    have HBT := Lib.hid hbt
    have HWW := Lib.hid hbw
    have HGW := Lib.hid hgw
    have HSW := Lib.hid hsw
    have HJ1 := Lib.hid hj
    have hlt := HNN.out pre wr hj
    have HLT := Lib.hid hlt
    clear hx hlp hba hbt hbw hgw hsw hj hlt HF0
    by_cases his : isA st x = true
    · have HIS := Lib.hid his
      have ho : ndO st nd x = nd x := by unfold ndO; rw [if_pos his]
      rw [ho] at hbg
      have HNX := Lib.hid (HHR.out x HX.out his)
      have HL2 := Lib.hid (HLP.out.snoc his)
      obtain ⟨fn, tmps, assign, body, hy, hR⟩ := hYat _ _ _ _ _ _ _ (HYY.out pre (nd x).1 wr HJ1.out)
      have HND := Lib.hid (rfl : nd x = nd x)
      obtain ⟨nx, hnx⟩ : ∃ nx, nd x = nx := ⟨_, rfl⟩
      rw [hnx] at hbg hy hR HNX HL2
      obtain ⟨⟨wr2, t2, b2, v2⟩, y2⟩ := nx
      have c0 := hbg.cell 0
      have c1 := hbg.cell 1
      have c2 := hbg.cell 2
      have c3 := hbg.cell 3
      simp only [ncl, List.getElem?_toArray, List.getElem?_cons_zero, List.getElem?_cons_succ] at c0 c1 c2 c3
      dsimp only at hy hR
      have HBG := Lib.hid hbg
      rw [his]
      clear hnx hbg ho his
      gi_wp2
      refine hR.mono ?_
      rintro e W4 (⟨rfl, hj4, hk4⟩ | ⟨rfl, hjx4⟩)
      · have ha4 := hk4.tag _ _ _ (.inl rfl) HBA.out
        have ht4 := hk4.tag _ _ _ (.inr (.inl rfl)) HBT.out
        have hg4 := hk4.tag _ _ _ (.inr (.inr rfl)) HBG.out
        have hw4 : Below w0.heap.size w0 W4 := HWW.out.trans (hk4.below.mono hn0)
        have hs4 := hk4.size
        have HJ4 := Lib.hid hj4
        have d0 := hg4.cell 0
        have d1 := hg4.cell 1
        have d2 := hg4.cell 2
        have d3 := hg4.cell 3
        have d4 := hg4.cell 4
        have hby : Below W4.heap.size W4 (W4.alloc (.cells (ncl ((wr2, t2, b2, v2), y2)) 31)) := (Below.refl _ _).alloc (Nat.le_refl _) _
        have hn5 : Blk (W4.alloc (.cells (ncl ((wr2, t2, b2, v2), y2)) 31)) W4.heap.size (ncl ((wr2, t2, b2, v2), y2)) 31 := Blk.new _ _ _
        have HN5 := Lib.hid hn5
        have HA5 := Lib.hid (ha4.later hby)
        have HT5 := Lib.hid (ht4.later hby)
        have HW5 := Lib.hid (hw4.trans (hby.mono hw4.size))
        have HS5 : Hid (W.heap.size ≤ W4.heap.size) := Nat.le_trans HSW.out hs4
        have HJ5 := Lib.hid (HJJ.out _ _ _ none HJ4.out (grown_of_below hby) (fun r e => by cases e))
        have e0 := HA5.out.cell 0
        have e4 := HN5.out.cell 4
        simp only [ncl, List.getElem?_toArray, List.getElem?_cons_zero, List.getElem?_cons_succ] at d0 d1 d2 d3 d4 e0 e4
        clear hj4 hk4 ha4 ht4 hg4 hw4 hs4 hby hn5 c0 c1 c2 c3 hy hR
        simp only [ncl] at HN5 HA5 HT5 HW5 HJ5 e0 e4
        gi_wp2
        refine ⟨trivial, ?_⟩
        refine (HRD.out _ y2 HW5.out HNX.out _).mono ?_
        rintro e W6 ⟨rfl, hb⟩
        unfold ndv
        have HA6 := Lib.hid (HA5.out.later hb)
        have HT6 := Lib.hid (HT5.out.later hb)
        have HN6 := Lib.hid (HN5.out.later hb)
        have HW6 := Lib.hid (HW5.out.trans (hb.mono HW5.out.size))
        have HJ6 := Lib.hid (HJJ.out _ _ _ none HJ5.out (grown_of_below hb) (fun r e => by cases e))
        have HS6 : Hid (W4.heap.size < W6.heap.size) := HN6.out.lt
        obtain ⟨g2, hg2⟩ : ∃ g2, W4.heap.size = g2 := ⟨_, rfl⟩
        rw [hg2] at HN6 HS5 HS6 ⊢
        clear hb HA5 HT5 HN5 HW5 HJ5 hg2 d0 d1 d2 d3 d4 e0 e4
        obtain ⟨n3, hn3⟩ : ∃ n3, ndO st nd y2 = n3 := ⟨_, rfl⟩
        rw [hn3]
        have HN3 := Lib.hid hn3
        clear hn3
        obtain ⟨⟨wr3, t3, b3, v3⟩, y3⟩ := n3
        have d0 := HN6.out.cell 0
        have d1 := HN6.out.cell 1
        have d2 := HN6.out.cell 2
        have d3 := HN6.out.cell 3
        have d4 := HN6.out.cell 4
        have f0 := HN6.out.frozen
        simp only [ncl, List.getElem?_toArray, List.getElem?_cons_zero, List.getElem?_cons_succ] at d0 d1 d2 d3 d4
        have HGR : Hid (W6.grownBy (((((W6.setCell ⟨g2, 0, none⟩ (.int .i64 wr3)).setCell ⟨g2, 1, none⟩ (.int .i64 t3)).setCell ⟨g2, 2, none⟩ (.bool b3)).setCell ⟨g2, 3, none⟩ (.string v3)).setCell ⟨g2, 4, none⟩ (.int .u64 y3)) (some g2)) :=
          grown_trans (grown_set W6 g2 0 _) (grown_trans (grown_set _ g2 1 _) (grown_trans (grown_set _ g2 2 _) (grown_trans (grown_set _ g2 3 _) (grown_set _ g2 4 _))))
        have HBK : Hid (Blk (((((W6.setCell ⟨g2, 0, none⟩ (.int .i64 wr3)).setCell ⟨g2, 1, none⟩ (.int .i64 t3)).setCell ⟨g2, 2, none⟩ (.bool b3)).setCell ⟨g2, 3, none⟩ (.string v3)).setCell ⟨g2, 4, none⟩ (.int .u64 y3)) g2 (ncl ((wr3, t3, b3, v3), y3)) 31) := by
          have k0 : Blk _ g2 #[.int .i64 wr3, .int .i64 t2, .bool b2, .string v2, .int .u64 y2] 31 := HN6.out.set (j := 0) (.int .i64 wr3)
          have k1 : Blk _ g2 #[.int .i64 wr3, .int .i64 t3, .bool b2, .string v2, .int .u64 y2] 31 := k0.set (j := 1) (.int .i64 t3)
          have k2 : Blk _ g2 #[.int .i64 wr3, .int .i64 t3, .bool b3, .string v2, .int .u64 y2] 31 := k1.set (j := 2) (.bool b3)
          have k3 : Blk _ g2 #[.int .i64 wr3, .int .i64 t3, .bool b3, .string v3, .int .u64 y2] 31 := k2.set (j := 3) (.string v3)
          exact k3.set (j := 4) (.int .u64 y3)
        gi_wp2
        have hl := HL.out
        rw [HIS.out] at hl
        have hF2 : FRel st nd x0 Ba Bt q W w0 J (pre ++ [(wr2, t2, b2, v2)]) (.pointer (some ⟨g2, 0, none⟩)) (.bool (isA st y2)) (((((W6.setCell ⟨g2, 0, none⟩ (.int .i64 wr3)).setCell ⟨g2, 1, none⟩ (.int .i64 t3)).setCell ⟨g2, 2, none⟩ (.bool b3)).setCell ⟨g2, 3, none⟩ (.string v3)).setCell ⟨g2, 4, none⟩ (.int .u64 y3)) :=
          ⟨y2, g2, HNX.out, HL2.out, rfl, rfl, by rw [HN3.out]; exact HBK.out, HA6.out.grown HGR.out (fun e => by cases e; exact absurd (blk_t HA6.out HN6.out) (by decide)), HT6.out.grown HGR.out (fun e => by cases e; exact absurd (blk_t HT6.out HN6.out) (by decide)),
            HW6.out.grown HGR.out HW6.out.size (fun k e => by cases e; have := HS5.out; omega), HS5.out, Nat.le_trans HS5.out (Nat.le_trans (Nat.le_of_lt HS6.out) HGR.out.size), HJJ.out _ _ _ (some g2) HJ6.out HGR.out (fun r e => by cases e; exact ⟨HS5.out, _, HN6.out⟩)⟩
        have hlt := HLT.out
        refine ⟨⟨_, hF2⟩, Nat.lt_of_le_of_lt ((leastOf_spec ⟨_, _, hF2, rfl⟩).2 _ ⟨_, hF2, rfl⟩) ?_⟩
        rw [hl, List.length_append, List.length_singleton]
        omega
      · have HJX4 := Lib.hid hjx4
        clear hjx4
        gi_wp2
        go_end0
        exact ⟨⟨_, rfl⟩, .inr ⟨_, ⟨_, HL2.out⟩, HJX4.out⟩⟩
    · have hfs : isA st x = false := by simpa using his
      have HFS := Lib.hid hfs
      rw [hfs]
      clear his hfs hbg
      gi_wp2
      refine ⟨fun _ h => (by cases h), ?_⟩
      gi_wp2
      go_end0
      exact ⟨⟨_, rfl⟩, .inl ⟨_, ⟨_, HLP.out, HFS.out⟩, HJ1.out⟩⟩
end Go.Proofs.Ytbncpfkoeahhpaa
