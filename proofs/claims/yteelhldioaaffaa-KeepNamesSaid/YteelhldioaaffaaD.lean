/- Package keep's iterator over versions, till the newest one up to a number. -/
import Derived.Test.YteelhldioaaffaaC
import Derived.Test.YteelhldioaaffaaKP
namespace Go.Proofs.Yteelhldioaaffaa
open Go.ChangeShapes Go.WideShapes Go.ChangeAt Go.RowKit Go.Shelf
set_option linter.unusedVariables false
attribute [local go_sem] Oper.semAt_some
/-- the first k versions with their places -/
def seqn (vs : List Ver) (k : Nat) : List (Nat × Ver) := (List.range k).map fun j => (j, vs.getD j ver0)
theorem seqn_succ (vs : List Ver) (k : Nat) : seqn vs (k + 1) = seqn vs k ++ [(k, vs.getD k ver0)] := by simp [seqn, List.range_succ]
theorem seqn_len (vs : List Ver) (k : Nat) : (seqn vs k).length = k := by simp [seqn]
/-- how many come -/
def mU (vs : List Ver) (num : Int) : Nat := if upto vs num < vs.length then upto vs num + 1 else vs.length
def encU (x : Nat × Ver) : Array Value := #[.int .i64 (x.1 : Int), .agg #[.int .i64 x.2.w, .int .i64 x.2.ts, .bool x.2.tomb, .string x.2.val]]
set_option maxRecDepth 100000 in
set_option maxHeartbeats 2000000 in
theorem until1_in (n : Nat) (hn : 1 ≤ n) (l B0 B1 n₀ n₁ len cap : Nat) (A : Option Addr) (num : Int) (vs : List Ver) (hlen : len ≤ 1000000)
    (J Jx : List (Nat × Ver) → World → Prop) (H : Nat) (hJ : AbidesFrom H J)
    (hY : ∀ pre x W, J pre W → pre.length < len → YieldAt Fence.wide (n - 1) Try.prog l #[.int .i64 (x.1 : Int), .agg #[.int .i64 x.2.w, .int .i64 x.2.ts, .bool x.2.tomb, .string x.2.val]] W fun e W' =>
      (e = .returned (.bool true) ∧ J (pre ++ [x]) W' ∧ KpB n₀ n₁ W W') ∨ (e = .returned (.bool false) ∧ Jx (pre ++ [x]) W'))
    (W : World) (h0 : W.heap[B0]? = some (.cells #[.slice A len cap] 24 (0, 0))) (h1 : W.heap[B1]? = some (.cells #[.int .i64 num] 3 (0, 0))) (hB1 : n₁ ≤ B1) (hs : Vers n₀ W A len vs) (hn0 : n₀ ≤ n₁) (hn1 : n₁ ≤ W.heap.size) (hj0 : J [] W) :
    CallsIn Fence.wide n Try.prog 26 #[.func (.yield l) #[] #[], .pointer (some ⟨B0, 0, none⟩), .pointer (some ⟨B1, 0, none⟩)] W fun e W' => (∃ v, e = .returned v) ∧
      ((∃ ys, ys = seqn vs (mU vs num) ∧ J ys W') ∨ (∃ pre, (∃ k, k ≤ mU vs num ∧ pre = seqn vs k) ∧ Jx pre W')) := by
  have Hs := Lib.hid hs
  have H1 := Lib.hid h1
  have c0 := cell_of_heap (j := 0) h0
  simp only [List.getElem?_toArray, List.getElem?_cons_zero] at c0
  clear hs h1 h0
  refine callsIn_of_wp Try.func26 rfl trivial ?_ rfl
  simp only [Try.ntmps26, List.size_toArray, List.length_cons, List.length_nil, Nat.reduceAdd, Nat.reduceSub, Array.replicate_succ, Array.replicate_zero, List.push_toArray, List.append_toArray, List.nil_append, List.cons_append]
  gi_wp2
  gi_loopw [8] (fun i wr => ∃ k : Nat, k ≤ len ∧ i = .int .i64 k ∧ (∀ j, j < k → num < (vs.getD j ver0).ts) ∧ J (seqn vs k) wr ∧ KpB n₀ n₁ W wr)
    (fun i _ => len - (intOf i).toNat)
  case atStart => exact ⟨0, Nat.zero_le _, rfl, fun j hj => by omega, hj0, KpB.refl _ _ _⟩
  case round =>
    obtain ⟨k, hk, rfl, hall, hJs, hnx⟩ := hrel
    have Hall := Lib.hid hall
    clear hall
    by_cases hlt : k < len
    · obtain ⟨g, off, rfl, hg, hc⟩ := (Hs.out.below hnx.below).2 (by omega)
      have hck := hc k hlt
      have Hl := Lib.hid Hs.out.1
      have hple : (seqn vs k).length < len := by rw [seqn_len]; exact hlt
      obtain ⟨v, hv⟩ : ∃ v, vs.getD k ver0 = v := ⟨_, rfl⟩
      rw [hv] at hck
      have Hv := Lib.hid hv
      obtain ⟨a0, a1, a2, a3⟩ := hck
      have hx1 := index_run g off len cap k (k : Int) rfl hlt
      have hszr : n₁ ≤ wr.heap.size := Nat.le_trans hn1 hnx.size
      have hJ1 : J (seqn vs k) (wr.alloc (.cells #[.int .i64 v.w, .int .i64 v.ts, .bool v.tomb, .string v.val] 27)) := hJ _ _ _ none hJs (World.grownBy_alloc wr _ none) (fun r e => by cases e)
      obtain ⟨fn, tmps, assign, body, hy, hR⟩ := hY _ (k, v) _ hJ1 hple
      dsimp only at hy hR
      have hk1 : KpB n₀ n₁ W (wr.alloc (.cells #[.int .i64 v.w, .int .i64 v.ts, .bool v.tomb, .string v.val] 27)) :=
        hnx.trans (KpB.of_below ((Below.refl _ _).alloc (Nat.le_refl _) _) (Nat.le_trans hn0 hszr))
      have Hbx := Lib.hid (heap_alloc_new wr (.cells #[.int .i64 v.w, .int .i64 v.ts, .bool v.tomb, .string v.val] 27))
      have Hsq : Hid (seqn vs k ++ [(k, v)] = seqn vs (k + 1)) := by show _ = _; rw [seqn_succ, Hv.out]
      rw [Hsq.out] at hR
      clear hc hv hnx hJs hJ1
      gi_wp2
      refine hR.mono ?_
      rintro e W3 (⟨rfl, hJ3, hk3⟩ | ⟨rfl, hJx3⟩)
      · have b1 := cell_of_heap (j := 1) (hk3.box hszr Hbx.out)
        have b2 := cell_of_heap (j := 0) ((hk1.trans hk3).box hB1 H1.out)
        simp only [List.getElem?_toArray, List.getElem?_cons_zero, List.getElem?_cons_succ] at b1 b2
        by_cases ht : v.ts ≤ num
        · have HR : Hid (seqn vs (k + 1) = seqn vs (mU vs num)) := by
            have : upto vs num = k := upto_eq vs num k (by have := Hl.out; omega) Hall.out (fun _ => by rw [Hv.out]; exact ht)
            show _ = _
            unfold mU
            rw [this, if_pos (by have := Hl.out; omega)]
          gi_wp2
          trace_state
          refine bodyPost_ret (results_none rfl _ _ _) rfl ?_
          exact ⟨⟨_, rfl⟩, .inl ⟨_, HR.out, hJ3⟩⟩
        · have Hall2 : Hid (∀ j, j < k + 1 → num < (vs.getD j ver0).ts) := fun j hj => by
            by_cases e : j = k
            · subst e; rw [Hv.out]; omega
            · exact Hall.out j (by omega)
          gi_wp2
          go_roundw
          case rel => exact ⟨k + 1, by omega, by go_num, Hall2.out, hJ3, hk1.trans hk3⟩
          case measure => simp [intOf]; omega
      · have hle : k + 1 ≤ mU vs num := by
          unfold mU
          have : k ≤ upto vs num := by
            rcases Nat.lt_or_ge (upto vs num) k with c | c
            · have h2 := upto_at vs num (by have := Hl.out; omega)
              have h3 := Hall.out _ c
              omega
            · exact c
          have := Hl.out
          split <;> omega
        gi_wp2
        refine bodyPost_ret (results_none rfl _ _ _) rfl ?_
        exact ⟨⟨_, rfl⟩, .inr ⟨_, ⟨k + 1, hle, rfl⟩, hJx3⟩⟩
    · obtain rfl : k = len := by omega
      have HR : Hid (seqn vs k = seqn vs (mU vs num)) := by
        have hl := Hs.out.1
        have : upto vs num = k := upto_eq vs num k (by omega) Hall.out (fun h => by omega)
        show _ = _
        unfold mU
        rw [this, if_neg (by omega), hl]
      gi_wp2
      go_end0
      exact ⟨⟨_, rfl⟩, .inl ⟨_, HR.out, hJs⟩⟩
set_option maxHeartbeats 1000000 in
theorem until_any (n : Nat) (num : Int) (A : Option Addr) (len cap : Nat) (w : World) :
    CallsIn Fence.wide n Try.prog 22 #[.slice A len cap, .int .i64 num] w fun e w' => e = .returned (.func (.func 26) #[] #[.pointer (some ⟨w.heap.size, 0, none⟩), .pointer (some ⟨w.heap.size + 1, 0, none⟩)]) ∧
      w' = (w.alloc (.cells #[.slice A len cap] 24)).alloc (.cells #[.int .i64 num] 3) := by
  refine callsIn_of_wp Try.func22 rfl trivial ?_ rfl
  simp only [Try.ntmps22, List.size_toArray, List.length_cons, List.length_nil, Nat.reduceAdd, Nat.reduceSub, Array.replicate_succ, Array.replicate_zero, List.push_toArray, List.append_toArray, List.nil_append, List.cons_append]
  gi_wp2
  go_ret
  exact ⟨rfl, rfl⟩
theorem until_stops (n : Nat) (hn : 1 ≤ n) (B0 B1 n₀ n₁ len cap : Nat) (A : Option Addr) (num : Int) (vs : List Ver) (hlen : len ≤ 1000000)
    (w : World) (hB0 : B0 < w.heap.size) (hB1 : B1 < w.heap.size) (hn1' : n₁ ≤ B1) (hn0 : n₀ ≤ n₁) (hn1 : n₁ ≤ w.heap.size)
    (h0 : w.heap[B0]? = some (.cells #[.slice A len cap] 24 (0, 0))) (h1 : w.heap[B1]? = some (.cells #[.int .i64 num] 3 (0, 0))) (hs : Vers n₀ w A len vs) :
    SeqStopsK Fence.wide n Try.prog 26 #[.pointer (some ⟨B0, 0, none⟩), .pointer (some ⟨B1, 0, none⟩)] (fun x : Nat × Ver => #[Value.int .i64 (x.1 : Int), .agg #[.int .i64 x.2.w, .int .i64 x.2.ts, .bool x.2.tomb, .string x.2.val]]) (KpB n₀ n₁)
      (fun ys => ys = seqn vs (mU vs num)) (fun pre => ∃ k, k ≤ mU vs num ∧ pre = seqn vs k) len w := fun l J Jx W hW hJ _ hY hj0 =>
  until1_in n hn l B0 B1 n₀ n₁ len cap A num vs hlen J Jx W.heap.size hJ hY W ((hW.block _ hB0).trans h0) ((hW.block _ hB1).trans h1) hn1' (hs.below (hW.mono (Nat.le_trans hn0 hn1))) hn0 (Nat.le_trans hn1 hW.size) hj0
end Go.Proofs.Yteelhldioaaffaa
