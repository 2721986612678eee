/- Who is busy, how many are active: by the iterator over all. -/
import Derived.Test.YtmkgipbepipjkaaDoorG
import Derived.Test.YtmkgipbepipjkaaDoorKP
import Derived.OwnWalkIn
namespace Go.Proofs.YtmkgipbepipjkaaDoor
open Go.ChangeShapes Go.WideShapes Go.ChangeAt Go.RowKit Go.Shelf
set_option linter.unusedVariables false
set_option linter.unusedSimpArgs false
attribute [local go_sem] Oper.semAt_some

/-- what a round keeps: what lay below n₀, and the box B0 -/
structure KpC (n₀ B0 : Nat) (W W' : World) : Prop where
  os : W'.os = W.os
  tape : W'.tape = W.tape
  output : W'.output = W.output
  size : W.heap.size ≤ W'.heap.size
  low : ∀ k, k < n₀ → W'.heap[k]? = W.heap[k]?
  box : ∀ o, W.heap[B0]? = some o → o.isCells = true → W'.heap[B0]? = some o
theorem KpC.refl (n₀ B0 : Nat) (W : World) : KpC n₀ B0 W W := ⟨rfl, rfl, rfl, Nat.le_refl _, fun _ _ => rfl, fun _ h _ => h⟩
theorem KpC.trans {n₀ B0 : Nat} {A B C : World} (h : KpC n₀ B0 A B) (k : KpC n₀ B0 B C) : KpC n₀ B0 A C :=
  ⟨k.os.trans h.os, k.tape.trans h.tape, k.output.trans h.output, Nat.le_trans h.size k.size, fun i hi => (k.low i hi).trans (h.low i hi), fun o ho hc => k.box o (h.box o ho hc) hc⟩
theorem KpC.put {n₀ B0 M : Nat} (hM : n₀ ≤ M) : ∀ (W : World) (l : Nat) (o o' : Obj), M ≤ l → W.heap[l]? = some o → o.isCells = false → o.isWalk = false → KpC n₀ B0 W (W.putObj l o') := fun W l o o' hl ho hc _ =>
  have hg := grownBy_putObj' W l o'
  ⟨hg.os, hg.tape, hg.output, hg.size, fun k hk => by
    by_cases h2 : k < W.heap.size
    · exact hg.block k h2 (fun e => by cases e; omega)
    · have hl2 := (Array.getElem?_eq_some_iff.1 ho).1
      omega, fun o2 ho2 hc2 => by
    by_cases e : B0 = l
    · subst e; rw [ho] at ho2; cases ho2; rw [hc] at hc2; cases hc2
    · exact (hg.block B0 (Array.getElem?_eq_some_iff.1 ho2).1 (fun e2 => e (by cases e2; rfl))).trans ho2⟩
theorem KpC.of_below {n₀ B0 : Nat} {W W' : World} (h : Below W.heap.size W W') (hn : n₀ ≤ W.heap.size) : KpC n₀ B0 W W' :=
  ⟨h.os, h.tape, h.output, h.size, fun k hk => h.block k (by omega), fun o ho _ => (h.block B0 (Array.getElem?_eq_some_iff.1 ho).1).trans ho⟩
theorem KpC.setCell {n₀ B0 : Nat} (W : World) {b off : Nat} (h0 : n₀ ≤ b) (h1 : b ≠ B0) (v : Value) : KpC n₀ B0 W (W.setCell ⟨b, off, none⟩ v) :=
  have hh : ∀ k, k ≠ b → (W.setCell ⟨b, off, none⟩ v).heap[k]? = W.heap[k]? := fun k hk => Below.heap_setCell W ⟨b, off, none⟩ v k hk
  ⟨rfl, rfl, rfl, by simp [World.setCell], fun k hk => hh k (by omega), fun o ho _ => (hh B0 (by omega)).trans ho⟩
theorem KpC.grown {n₀ B0 : Nat} {W W' : World} {r : Option Nat} (hg : W.grownBy W' r) (hn : n₀ ≤ W.heap.size) (h1 : ∀ k, r = some k → n₀ ≤ k ∧ k ≠ B0) : KpC n₀ B0 W W' :=
  ⟨hg.os, hg.tape, hg.output, hg.size, fun k hk => hg.block k (by omega) (fun e => by have := (h1 k e.symm).1; omega), fun o ho _ => (hg.block B0 (Array.getElem?_eq_some_iff.1 ho).1 (fun e => (h1 B0 e.symm).2 rfl)).trans ho⟩
theorem KpC.below {n₀ B0 : Nat} {W W' : World} (h : KpC n₀ B0 W W') : Below n₀ W W' := ⟨h.os, h.tape, h.output, h.size, fun k hk => h.low k hk⟩
theorem kc_t {n₀ B0 : Nat} : ∀ {A B C : World}, KpC n₀ B0 A B → KpC n₀ B0 B C → KpC n₀ B0 A C := fun h k => h.trans k
/-- the writers from a place on, with their places -/
def seqE (L : List Wr) (en k : Nat) : List (Nat × Wr) := (List.range k).map fun j => (en + j, L.getD (en + j) w0r)
theorem seqE_succ (L : List Wr) (en k : Nat) : seqE L en (k + 1) = seqE L en k ++ [(en + k, L.getD (en + k) w0r)] := by simp [seqE, List.range_succ]
theorem seqE_len (L : List Wr) (en k : Nat) : (seqE L en k).length = k := by simp [seqE]
def encE (x : Nat × Wr) : Array Value := #[.int .i64 ((x.1 : Int) + 1), .agg #[.int .u8 x.2.1, .int .i64 x.2.2]]
theorem WrAt.below {w W : World} {B p : Nat} {v : Value} {L : List Wr} {la : Int} {en : Nat} (h : WrAt w B p v L la en) (hb : Below w.heap.size w W) : WrAt W B p v L la en := h.later hb
set_option maxRecDepth 100000 in
set_option maxHeartbeats 4000000 in
theorem all1_in (n : Nat) (hn : 1 ≤ n) (l B0 n₀ B p : Nat) (v : Value) (L : List Wr) (la : Int) (en : Nat) (w0 : World) (hlen : L.length ≤ 1000000) (hO : WrAt w0 B p v L la en) (hn0 : w0.heap.size ≤ n₀)
    (J Jx : List (Nat × Wr) → World → Prop)
    (hY : ∀ pre x W, J pre W → pre.length < L.length - en → YieldAt Fence.wide (n - 1) Tryd.prog l #[.int .i64 ((x.1 : Int) + 1), .agg #[.int .u8 x.2.1, .int .i64 x.2.2]] W fun e W' =>
      (e = .returned (.bool true) ∧ J (pre ++ [x]) W' ∧ KpC n₀ B0 W W') ∨ (e = .returned (.bool false) ∧ Jx (pre ++ [x]) W'))
    (W : World) (h0 : W.heap[B0]? = some (.cells #[.pointer (some ⟨p, 0, none⟩)] 22 (0, 0))) (hW : Below w0.heap.size w0 W) (hj0 : J [] W) :
    CallsIn Fence.wide n Tryd.prog 40 #[.func (.yield l) #[] #[], .pointer (some ⟨B0, 0, none⟩)] W fun e W' => (∃ v, e = .returned v) ∧
      ((∃ ys, ys = seqE L en (L.length - en) ∧ J ys W') ∨ (∃ pre, (∃ k, k ≤ L.length - en ∧ pre = seqE L en k) ∧ Jx pre W')) := by
  have HO := Lib.hid hO
  have HW := Lib.hid hW
  have H0 := Lib.hid h0
  have hle := hO.le
  have c0 := cell_of_heap (j := 0) h0
  simp only [List.getElem?_toArray, List.getElem?_cons_zero] at c0
  obtain ⟨A, c, rfl, hc, k0, k1, k2, _⟩ := (hO.later hW).cells
  clear hO hW h0
  refine callsIn_of_wp Tryd.func40 rfl trivial ?_ rfl
  simp only [Tryd.ntmps40, List.size_toArray, List.length_cons, List.length_nil, Nat.reduceAdd, Nat.reduceSub, Array.replicate_succ, Array.replicate_zero, List.push_toArray, List.append_toArray, List.nil_append, List.cons_append]
  gi_wp2
  clear c0 k0 k1 k2
  gi_loopw [3] (fun i wr => ∃ k : Nat, en + k ≤ L.length ∧ i = .int .i64 ((en + k : Nat) : Int) ∧ J (seqE L en k) wr ∧ KpC n₀ B0 W wr)
    (fun i _ => L.length - (intOf i).toNat)
  case atStart => exact ⟨0, by omega, rfl, hj0, KpC.refl _ _ _⟩
  case round =>
    obtain ⟨k, hk, rfl, hJs, hkp⟩ := hrel
    have HKP := Lib.hid hkp
    have hwr : Below w0.heap.size w0 wr := HW.out.trans (hkp.below.mono hn0)
    have hX := HO.out.later hwr
    have c0 := cell_of_heap (j := 0) (hkp.box _ H0.out rfl)
    simp only [List.getElem?_toArray, List.getElem?_cons_zero] at c0
    have k0 := hX.blk.cell 0
    simp only [List.getElem?_toArray, List.getElem?_cons_zero] at k0
    obtain ⟨j, hj⟩ : ∃ j, en + k = j := ⟨_, rfl⟩
    rw [hj] at hk ⊢
    have HJ := Lib.hid hj
    by_cases hlt : j < L.length
    · obtain ⟨A2, c2, e2, _, hat⟩ := hX.own.sl
      cases e2
      obtain ⟨g, rfl, _, _, _, x0, x1, _⟩ := hat j hlt
      have hple : (seqE L en k).length < L.length - en := by rw [seqE_len]; omega
      obtain ⟨x, hx⟩ : ∃ x, L.getD j w0r = x := ⟨_, rfl⟩
      rw [hx] at x0 x1
      have Hsq : Hid (seqE L en k ++ [(j, x)] = seqE L en (k + 1)) := by show _ = _; rw [seqE_succ, hj, hx]
      obtain ⟨xs, xt⟩ := x
      obtain ⟨fn, tmps, assign, body, hy, hR⟩ := hY _ (j, (xs, xt)) _ hJs hple
      dsimp only at hy hR
      simp only at x0 x1
      have i1 := windex g L.length c j (j : Int) rfl hlt
      have wj : IntKind.i64.wrap ((j : Int) + 1) = (j : Int) + 1 := IntWalk.i64_in _ (by omega)
      rw [Hsq.out] at hR
      clear hX hwr hkp hat hx hj hJs
      gi_wp2
      refine hR.mono ?_
      rintro e W3 (⟨rfl, hJ3, hk3⟩ | ⟨rfl, hJx3⟩)
      · have HJ3 := Lib.hid hJ3
        have HK3 := Lib.hid (HKP.out.trans hk3)
        clear hJ3 hk3
        gi_wp2
        go_roundw
        case rel => exact ⟨k + 1, by have := HJ.out; omega, by rw [← HJ.out]; go_num, HJ3.out, HK3.out⟩
        case measure => simp [intOf]; omega
      · have HJx3 := Lib.hid hJx3
        clear hJx3
        gi_wp2
        refine bodyPost_ret (results_none rfl _ _ _) rfl ?_
        exact ⟨⟨_, rfl⟩, .inr ⟨_, ⟨k + 1, by have := HJ.out; omega, rfl⟩, HJx3.out⟩⟩
    · obtain rfl : L.length = j := by omega
      have HR : Hid (seqE L en k = seqE L en (L.length - en)) := by show _ = _; rw [show k = L.length - en by omega]
      have HJS := Lib.hid hJs
      clear hX hwr hkp hJs hj
      gi_wp2
      go_end0
      exact ⟨⟨_, rfl⟩, .inl ⟨_, HR.out, HJS.out⟩⟩
set_option maxRecDepth 100000 in
set_option maxHeartbeats 4000000 in
theorem all_any (n p : Nat) (w : World) :
    CallsIn Fence.wide n Tryd.prog 32 #[.pointer (some ⟨p, 0, none⟩)] w fun e w' => e = .returned (.func (.func 40) #[] #[.pointer (some ⟨w.heap.size, 0, none⟩)]) ∧ w' = w.alloc (.cells #[.pointer (some ⟨p, 0, none⟩)] 22) := by
  refine callsIn_of_wp Tryd.func32 rfl trivial ?_ rfl
  simp only [Tryd.ntmps32, List.size_toArray, List.length_cons, List.length_nil, Nat.reduceAdd, Nat.reduceSub, Array.replicate_succ, Array.replicate_zero, List.push_toArray, List.append_toArray, List.nil_append, List.cons_append]
  gi_wp2
  go_ret
  exact ⟨rfl, rfl⟩
theorem all_stops (n : Nat) (hn : 1 ≤ n) (B0 n₀ B p : Nat) (v : Value) (L : List Wr) (la : Int) (en : Nat) (w0 w : World) (hlen : L.length ≤ 1000000) (hO : WrAt w0 B p v L la en) (hn0 : w0.heap.size ≤ n₀) (hB0 : B0 < w.heap.size) (hw : Below w0.heap.size w0 w)
    (h0 : w.heap[B0]? = some (.cells #[.pointer (some ⟨p, 0, none⟩)] 22 (0, 0))) :
    SeqStopsK Fence.wide n Tryd.prog 40 #[.pointer (some ⟨B0, 0, none⟩)] (fun x : Nat × Wr => #[Value.int .i64 ((x.1 : Int) + 1), .agg #[.int .u8 x.2.1, .int .i64 x.2.2]]) (KpC n₀ B0) (fun ys => ys = seqE L en (L.length - en)) (fun pre => ∃ k, k ≤ L.length - en ∧ pre = seqE L en k) (L.length - en) w := fun l J Jx W hW hJ _ hY hj0 =>
  all1_in n hn l B0 n₀ B p v L la en w0 hlen hO hn0 J Jx hY W ((hW.block _ hB0).trans h0) (stepB hw hW) hj0
end Go.Proofs.YtmkgipbepipjkaaDoor
