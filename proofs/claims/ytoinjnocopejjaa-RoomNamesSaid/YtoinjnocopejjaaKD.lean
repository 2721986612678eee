/- KD, KE, KF, KG in one. -/
import Derived.Test.YtoinjnocopejjaaKA
import Derived.Test.YtoinjnocopejjaaKP
import Derived.Laws.AppendOwn
/- Package keep's iterator over versions, till the newest one up to a number. -/
namespace Go.Proofs.Ytoinjnocopejjaa
open Go.ChangeShapes Go.WideShapes Go.ChangeAt Go.RowKit Go.Shelf
set_option linter.unusedVariables false
attribute [local go_sem] Oper.semAt_some
/-- the first k versions with their places -/
def seqn (vs : List Ver) (k : Nat) : List (Nat × Ver) := (List.range k).map fun j => (j, vs.getD j ver0)
theorem seqn_succ (vs : List Ver) (k : Nat) : seqn vs (k + 1) = seqn vs k ++ [(k, vs.getD k ver0)] := by simp [seqn, List.range_succ]
theorem seqn_len (vs : List Ver) (k : Nat) : (seqn vs k).length = k := by simp [seqn]
/-- how many come -/
def mU (vs : List Ver) (num : Int) : Nat := if upto vs num < vs.length then upto vs num + 1 else vs.length
def encU (x : Nat × Ver) : Array Value := #[.int .i64 (x.1 : Int), .agg #[.int .i64 x.2.w, .int .i64 x.2.ts, .bool x.2.tomb, .string x.2.val]]
set_option maxRecDepth 100000 in
set_option maxHeartbeats 2000000 in
theorem until1_in (n : Nat) (hn : 1 ≤ n) (l B0 B1 n₀ n₁ len cap : Nat) (A : Option Addr) (num : Int) (vs : List Ver) (hlen : len ≤ 1000000)
    (J Jx : List (Nat × Ver) → World → Prop) (H : Nat) (hJ : AbidesFrom H J)
    (hY : ∀ pre x W, J pre W → pre.length < len → YieldAt Fence.wide (n - 1) Try.prog l #[.int .i64 (x.1 : Int), .agg #[.int .i64 x.2.w, .int .i64 x.2.ts, .bool x.2.tomb, .string x.2.val]] W fun e W' =>
      (e = .returned (.bool true) ∧ J (pre ++ [x]) W' ∧ KpB n₀ n₁ W W') ∨ (e = .returned (.bool false) ∧ Jx (pre ++ [x]) W'))
    (W : World) (h0 : W.heap[B0]? = some (.cells #[.slice A len cap] 38 (0, 0))) (h1 : W.heap[B1]? = some (.cells #[.int .i64 num] 3 (0, 0))) (hB1 : n₁ ≤ B1) (hs : Vers n₀ W A len vs) (hn0 : n₀ ≤ n₁) (hn1 : n₁ ≤ W.heap.size) (hj0 : J [] W) :
    CallsIn Fence.wide n Try.prog 114 #[.func (.yield l) #[] #[], .pointer (some ⟨B0, 0, none⟩), .pointer (some ⟨B1, 0, none⟩)] W fun e W' => (∃ v, e = .returned v) ∧
      ((∃ ys, ys = seqn vs (mU vs num) ∧ J ys W') ∨ (∃ pre, (∃ k, k ≤ mU vs num ∧ pre = seqn vs k) ∧ Jx pre W')) := by
  have Hs := Lib.hid hs
  have H1 := Lib.hid h1
  have c0 := cell_of_heap (j := 0) h0
  simp only [List.getElem?_toArray, List.getElem?_cons_zero] at c0
  clear hs h1 h0
  refine callsIn_of_wp Try.func114 rfl trivial ?_ rfl
  simp only [Try.ntmps114, List.size_toArray, List.length_cons, List.length_nil, Nat.reduceAdd, Nat.reduceSub, Array.replicate_succ, Array.replicate_zero, List.push_toArray, List.append_toArray, List.nil_append, List.cons_append]
  gi_wp2
  gi_loopw [8] (fun i wr => ∃ k : Nat, k ≤ len ∧ i = .int .i64 k ∧ (∀ j, j < k → num < (vs.getD j ver0).ts) ∧ J (seqn vs k) wr ∧ KpB n₀ n₁ W wr)
    (fun i _ => len - (intOf i).toNat)
  case atStart => exact ⟨0, Nat.zero_le _, rfl, fun j hj => by omega, hj0, KpB.refl _ _ _⟩
  case round =>
    obtain ⟨k, hk, rfl, hall, hJs, hnx⟩ := hrel
    have Hall := Lib.hid hall
    clear hall
    by_cases hlt : k < len
    · obtain ⟨g, off, rfl, hg, hc⟩ := (Hs.out.below hnx.below).2 (by omega)
      have hck := hc k hlt
      have Hl := Lib.hid Hs.out.1
      have hple : (seqn vs k).length < len := by rw [seqn_len]; exact hlt
      obtain ⟨v, hv⟩ : ∃ v, vs.getD k ver0 = v := ⟨_, rfl⟩
      rw [hv] at hck
      have Hv := Lib.hid hv
      obtain ⟨a0, a1, a2, a3⟩ := hck
      have hx1 := index_run g off len cap k (k : Int) rfl hlt
      have hszr : n₁ ≤ wr.heap.size := Nat.le_trans hn1 hnx.size
      have hJ1 : J (seqn vs k) (wr.alloc (.cells #[.int .i64 v.w, .int .i64 v.ts, .bool v.tomb, .string v.val] 26)) := hJ _ _ _ none hJs (World.grownBy_alloc wr _ none) (fun r e => by cases e)
      obtain ⟨fn, tmps, assign, body, hy, hR⟩ := hY _ (k, v) _ hJ1 hple
      dsimp only at hy hR
      have hk1 : KpB n₀ n₁ W (wr.alloc (.cells #[.int .i64 v.w, .int .i64 v.ts, .bool v.tomb, .string v.val] 26)) :=
        hnx.trans (KpB.of_below ((Below.refl _ _).alloc (Nat.le_refl _) _) (Nat.le_trans hn0 hszr))
      have Hbx := Lib.hid (heap_alloc_new wr (.cells #[.int .i64 v.w, .int .i64 v.ts, .bool v.tomb, .string v.val] 26))
      have Hsq : Hid (seqn vs k ++ [(k, v)] = seqn vs (k + 1)) := by show _ = _; rw [seqn_succ, Hv.out]
      rw [Hsq.out] at hR
      clear hc hv hnx hJs hJ1
      gi_wp2
      refine hR.mono ?_
      rintro e W3 (⟨rfl, hJ3, hk3⟩ | ⟨rfl, hJx3⟩)
      · have b1 := cell_of_heap (j := 1) (hk3.box hszr Hbx.out)
        have b2 := cell_of_heap (j := 0) ((hk1.trans hk3).box hB1 H1.out)
        simp only [List.getElem?_toArray, List.getElem?_cons_zero, List.getElem?_cons_succ] at b1 b2
        by_cases ht : v.ts ≤ num
        · have HR : Hid (seqn vs (k + 1) = seqn vs (mU vs num)) := by
            have : upto vs num = k := upto_eq vs num k (by have := Hl.out; omega) Hall.out (fun _ => by rw [Hv.out]; exact ht)
            show _ = _
            unfold mU
            rw [this, if_pos (by have := Hl.out; omega)]
          gi_wp2
          trace_state
          refine bodyPost_ret (results_none rfl _ _ _) rfl ?_
          exact ⟨⟨_, rfl⟩, .inl ⟨_, HR.out, hJ3⟩⟩
        · have Hall2 : Hid (∀ j, j < k + 1 → num < (vs.getD j ver0).ts) := fun j hj => by
            by_cases e : j = k
            · subst e; rw [Hv.out]; omega
            · exact Hall.out j (by omega)
          gi_wp2
          go_roundw
          case rel => exact ⟨k + 1, by omega, by go_num, Hall2.out, hJ3, hk1.trans hk3⟩
          case measure => simp [intOf]; omega
      · have hle : k + 1 ≤ mU vs num := by
          unfold mU
          have : k ≤ upto vs num := by
            rcases Nat.lt_or_ge (upto vs num) k with c | c
            · have h2 := upto_at vs num (by have := Hl.out; omega)
              have h3 := Hall.out _ c
              omega
            · exact c
          have := Hl.out
          split <;> omega
        gi_wp2
        refine bodyPost_ret (results_none rfl _ _ _) rfl ?_
        exact ⟨⟨_, rfl⟩, .inr ⟨_, ⟨k + 1, hle, rfl⟩, hJx3⟩⟩
    · obtain rfl : k = len := by omega
      have HR : Hid (seqn vs k = seqn vs (mU vs num)) := by
        have hl := Hs.out.1
        have : upto vs num = k := upto_eq vs num k (by omega) Hall.out (fun h => by omega)
        show _ = _
        unfold mU
        rw [this, if_neg (by omega), hl]
      gi_wp2
      go_end0
      exact ⟨⟨_, rfl⟩, .inl ⟨_, HR.out, hJs⟩⟩
set_option maxHeartbeats 1000000 in
theorem until_any (n : Nat) (num : Int) (A : Option Addr) (len cap : Nat) (w : World) :
    CallsIn Fence.wide n Try.prog 104 #[.slice A len cap, .int .i64 num] w fun e w' => e = .returned (.func (.func 114) #[] #[.pointer (some ⟨w.heap.size, 0, none⟩), .pointer (some ⟨w.heap.size + 1, 0, none⟩)]) ∧
      w' = (w.alloc (.cells #[.slice A len cap] 38)).alloc (.cells #[.int .i64 num] 3) := by
  refine callsIn_of_wp Try.func104 rfl trivial ?_ rfl
  simp only [Try.ntmps104, List.size_toArray, List.length_cons, List.length_nil, Nat.reduceAdd, Nat.reduceSub, Array.replicate_succ, Array.replicate_zero, List.push_toArray, List.append_toArray, List.nil_append, List.cons_append]
  gi_wp2
  go_ret
  exact ⟨rfl, rfl⟩
theorem until_stops (n : Nat) (hn : 1 ≤ n) (B0 B1 n₀ n₁ len cap : Nat) (A : Option Addr) (num : Int) (vs : List Ver) (hlen : len ≤ 1000000)
    (w : World) (hB0 : B0 < w.heap.size) (hB1 : B1 < w.heap.size) (hn1' : n₁ ≤ B1) (hn0 : n₀ ≤ n₁) (hn1 : n₁ ≤ w.heap.size)
    (h0 : w.heap[B0]? = some (.cells #[.slice A len cap] 38 (0, 0))) (h1 : w.heap[B1]? = some (.cells #[.int .i64 num] 3 (0, 0))) (hs : Vers n₀ w A len vs) :
    SeqStopsK Fence.wide n Try.prog 114 #[.pointer (some ⟨B0, 0, none⟩), .pointer (some ⟨B1, 0, none⟩)] (fun x : Nat × Ver => #[Value.int .i64 (x.1 : Int), .agg #[.int .i64 x.2.w, .int .i64 x.2.ts, .bool x.2.tomb, .string x.2.val]]) (KpB n₀ n₁)
      (fun ys => ys = seqn vs (mU vs num)) (fun pre => ∃ k, k ≤ mU vs num ∧ pre = seqn vs k) len w := fun l J Jx W hW hJ _ hY hj0 =>
  until1_in n hn l B0 B1 n₀ n₁ len cap A num vs hlen J Jx W.heap.size hJ hY W ((hW.block _ hB0).trans h0) ((hW.block _ hB1).trans h1) hn1' (hs.below (hW.mono (Nat.le_trans hn0 hn1))) hn0 (Nat.le_trans hn1 hW.size) hj0
end Go.Proofs.Ytoinjnocopejjaa

/- Package keep's Seen. -/
namespace Go.Proofs.Ytoinjnocopejjaa
open Go.ChangeShapes Go.WideShapes Go.ChangeAt Go.RowKit Go.Shelf
set_option linter.unusedVariables false
attribute [local go_sem] Oper.semAt_some
theorem blk_own {β : Type} (B : Nat) (c : β → Array Value) (t : TypeId) : Own (fun s W => Blk W B (c s) t) := fun s X Y row hs hg hrow => by
  have hs' : X.heap[B]? = some (.cells (c s) t (0, 0)) := hs
  show Y.heap[B]? = _
  rw [hg.block B (Array.getElem?_eq_some_iff.1 hs').1 (fun e => by obtain ⟨o, ho, hc⟩ := hrow B e.symm; rw [hs'] at ho; cases ho; cases hc)]
  exact hs'
theorem Blk.below {W W' : World} {B n₀ : Nat} {c : Array Value} {t : TypeId} (h : Blk W B c t) (hb : Below n₀ W W') (hB : B < n₀) : Blk W' B c t := (hb.block B hB).trans h
theorem Blk.kp {W W' : World} {B n₀ n₁ : Nat} {c : Array Value} {t : TypeId} (h : Blk W B c t) (hb : KpB n₀ n₁ W W') (hB : n₁ ≤ B) : Blk W' B c t := hb.box hB h
theorem blk_kept {W : World} {B D : Nat} {c : Array Value} {t : TypeId} {o : Obj} {o' : Obj} (h : Blk W B c t) (hD : W.heap[D]? = some o) (ho : o.isCells = false) : Blk (W.putObj D o') B c t := by
  have h' : W.heap[B]? = some (.cells c t (0, 0)) := h
  show (W.putObj D o').heap[B]? = _
  rw [(grownBy_putObj' W D o').block B h.lt (fun e => by cases e; rw [h'] at hD; cases hD; cases ho)]
  exact h'
theorem seen_no {vs : List Ver} {s : Int} (h : ∀ p ∈ seqn vs (mU vs s), ¬ (p.2.ts ≤ s ∧ p.2.tomb = false)) : seenB vs s = false ∧ seen vs s = ver0 := by
  have e : seenB vs s = false := by
    unfold seenB
    by_cases hl : upto vs s < vs.length
    · have hm : (upto vs s, vs.getD (upto vs s) ver0) ∈ seqn vs (mU vs s) := by
        unfold mU seqn
        rw [if_pos hl, List.mem_map]
        exact ⟨_, List.mem_range.2 (Nat.lt_succ_self _), rfl⟩
      have h1 := h _ hm
      have h2 := upto_at vs s hl
      dsimp only at h1
      have h3 : (vs.getD (upto vs s) ver0).tomb = true := by
        cases ht : (vs.getD (upto vs s) ver0).tomb
        · exact absurd ⟨h2, ht⟩ h1
        · rfl
      rw [h3]; simp
    · rw [decide_eq_false hl]; rfl
  exact ⟨e, by unfold seen; rw [e]; rfl⟩
theorem seen_yes {vs : List Ver} {s : Int} {k : Nat} {ini : List (Nat × Ver)} {x : Nat × Ver} (hk : k ≤ mU vs s) (he : seqn vs k = ini ++ [x]) (h1 : x.2.ts ≤ s) (h2 : x.2.tomb = false) : seenB vs s = true ∧ seen vs s = x.2 := by
  obtain ⟨j, rfl⟩ : ∃ j, k = j + 1 := by
    cases k with
    | zero => simp [seqn] at he
    | succ j => exact ⟨j, rfl⟩
  rw [seqn_succ] at he
  obtain ⟨_, e2⟩ := List.append_inj' he rfl
  have hx : x.2 = vs.getD j ver0 := by
    have := List.cons.inj e2
    rw [← this.1]
  have hle := upto_le vs s
  have hju : j = upto vs s := by
    rcases Nat.lt_or_ge j (upto vs s) with c | c
    · have := upto_lt vs s j c
      rw [← hx] at this; omega
    · unfold mU at hk
      split at hk <;> omega
  have hlt : upto vs s < vs.length := by
    unfold mU at hk
    split at hk
    · assumption
    · omega
  have e : seenB vs s = true := by
    unfold seenB
    rw [decide_eq_true hlt, ← hju, ← hx, h2]; rfl
  exact ⟨e, by unfold seen; rw [e, if_pos rfl, ← hju, ← hx]⟩
def vcells (v : Ver) : Array Value := #[.int .i64 v.w, .int .i64 v.ts, .bool v.tomb, .string v.val]
def NoSeen (s : Int) (pre : List (Nat × Ver)) : Prop := ∀ p ∈ pre, ¬ (p.2.ts ≤ s ∧ p.2.tomb = false)
def setV (W : World) (B : Nat) (v : Ver) : World := (((W.setCell ⟨B, 0, none⟩ (.int .i64 v.w)).setCell ⟨B, 1, none⟩ (.int .i64 v.ts)).setCell ⟨B, 2, none⟩ (.bool v.tomb)).setCell ⟨B, 3, none⟩ (.string v.val)
theorem Blk.setV {W : World} {B : Nat} {u : Ver} {t : TypeId} (h : Blk W B (vcells u) t) (v : Ver) : Blk (setV W B v) B (vcells v) t := (((h.set (j := 0) _).set (j := 1) _).set (j := 2) _).set (j := 3) _
theorem Blk.otherV {W : World} {B B' : Nat} {c : Array Value} {t : TypeId} (h : Blk W B c t) (hne : B ≠ B') (v : Ver) : Blk (Ytoinjnocopejjaa.setV W B' v) B c t := (((h.other hne _).other hne _).other hne _).other hne _
theorem keepsV (W : World) (B : Nat) (v : Ver) : KeepsOthers W (setV W B v) := (((KeepsOthers.setCell _ _ _).trans (KeepsOthers.setCell _ _ _)).trans (KeepsOthers.setCell _ _ _)).trans (KeepsOthers.setCell _ _ _)
theorem kpV {n₀ n₁ : Nat} (W : World) {B : Nat} (h0 : n₀ ≤ B) (h1 : B < n₁) (v : Ver) : KpB n₀ n₁ W (setV W B v) :=
  (((KpB.setCell W h0 h1 _).trans (KpB.setCell _ h0 h1 _)).trans (KpB.setCell _ h0 h1 _)).trans (KpB.setCell _ h0 h1 _)
theorem belowV {B0 : Nat} {a W : World} (h : Below B0 a W) {B : Nat} (hB : B0 ≤ B) (v : Ver) : Below B0 a (setV W B v) :=
  (((h.setCell (p := ⟨B, 0, none⟩) hB _).setCell (p := ⟨B, 1, none⟩) hB _).setCell (p := ⟨B, 2, none⟩) hB _).setCell (p := ⟨B, 3, none⟩) hB _
set_option maxRecDepth 100000 in
set_option maxHeartbeats 2000000 in
theorem Seen_any (A : Option Addr) (len cap : Nat) (s : Int) (vs : List Ver) (w : World) (hlen : len ≤ 1000000) (hs : Vers w.heap.size w A len vs) :
    Calls Try.prog 100 #[.slice A len cap, .int .i64 s] w fun e w' => e = .returned (.tuple #[(seen vs s).agg, .bool (seenB vs s)]) ∧ Below w.heap.size w w' := by
  have Hs := Lib.hid hs
  clear hs
  refine (callsIn_wide (n := 6)).1 ?_
  refine callsIn_of_wp_marks Try.func100 rfl trivial ?_ rfl
  simp only [Try.ntmps100, List.size_toArray, List.length_cons, List.length_nil, Nat.reduceAdd, Nat.reduceSub, Array.replicate_succ, Array.replicate_zero, List.push_toArray, List.append_toArray, List.nil_append, List.cons_append]
  gi_wp2
  refine ⟨trivial, ?_⟩
  refine (until_any _ _ _ _ _ _).mono ?_
  rintro e W1 ⟨rfl, hW1⟩
  have b0 : Blk W1 w.heap.size #[.int .i64 s] 3 := by
    rw [hW1]; exact ((((Blk.new w _ 3).alloc _).alloc _).alloc _).alloc _
  have b1 : Blk W1 (w.heap.size + 1) (vcells ver0) 26 := by
    have := Blk.new (w.alloc (.cells #[.int .i64 s] 3)) (vcells ver0) 26
    rw [World.size_alloc] at this
    rw [hW1]; exact ((this.alloc _).alloc _).alloc _
  have b2 : Blk W1 (w.heap.size + 1 + 1) #[.bool false] 4 := by
    have := Blk.new ((w.alloc (.cells #[.int .i64 s] 3)).alloc (.cells (vcells ver0) 26)) #[.bool false] 4
    simp only [World.size_alloc] at this
    rw [hW1]; exact (this.alloc _).alloc _
  have b3 : Blk W1 (w.heap.size + 1 + 1 + 1) #[.slice A len cap] 38 := by
    have := Blk.new (((w.alloc (.cells #[.int .i64 s] 3)).alloc (.cells (vcells ver0) 26)).alloc (.cells #[.bool false] 4)) #[.slice A len cap] 38
    simp only [World.size_alloc] at this
    rw [hW1]; exact this.alloc _
  have b4 : Blk W1 (w.heap.size + 1 + 1 + 1 + 1) #[.int .i64 s] 3 := by
    have := Blk.new ((((w.alloc (.cells #[.int .i64 s] 3)).alloc (.cells (vcells ver0) 26)).alloc (.cells #[.bool false] 4)).alloc (.cells #[.slice A len cap] 38)) #[.int .i64 s] 3
    simp only [World.size_alloc] at this
    rw [hW1]; exact this
  have hB0 : Below w.heap.size w W1 := by
    rw [hW1]; exact (((((Below.refl _ w).alloc (Nat.le_refl _) _).alloc (by simp) _).alloc (by simp; omega) _).alloc (by simp; omega) _).alloc (by simp; omega) _
  have hsz1 : w.heap.size + 5 = W1.heap.size := by rw [hW1]; simp
  simp only [World.size_alloc]
  clear hW1
  have Hsz1 := Lib.hid hsz1
  clear hsz1
  gi_wp2
  refine wpIn_rangeFunc_ownH rfl (by omega) (gf := 114) (lb := #[.pointer (some ⟨w.heap.size + 1 + 1 + 1, 0, none⟩), .pointer (some ⟨w.heap.size + 1 + 1 + 1 + 1, 0, none⟩)]) rfl trivial (enters_of Try.func114 (by kernel_rfl) rfl)
    (until_stops _ (by omega) (w.heap.size + 1 + 1 + 1) (w.heap.size + 1 + 1 + 1 + 1) w.heap.size (w.heap.size + 3) len cap A s vs hlen W1 (by have := Hsz1.out; omega) (by have := Hsz1.out; omega) (by omega) (by omega) (by have := Hsz1.out; omega) b3 b4 (Hs.out.below hB0))
    kp_t (KpB.put (by have := Hsz1.out; omega)) (Below.refl _ _) (fun _ => rfl)
    (fun pre W => (NoSeen s pre ∧ Blk W w.heap.size #[.int .i64 s] 3 ∧ Blk W (w.heap.size + 1) (vcells ver0) 26 ∧ Blk W (w.heap.size + 1 + 1) #[.bool false] 4) ∧ Below w.heap.size w W)
    (fun c pre W => (c = .ret ∧ ∃ ini x, pre = ini ++ [x] ∧ x.2.ts ≤ s ∧ x.2.tomb = false ∧ Blk W (w.heap.size + 1) (vcells x.2) 26 ∧ Blk W (w.heap.size + 1 + 1) #[.bool true] 4) ∧ Below w.heap.size w W)
    (OwnFrom.and (OwnFrom.and (ownFrom_pure _ _) (OwnFrom.and ((blk_own _ _ _).from _) (OwnFrom.and ((blk_own _ _ _).from _) ((blk_own _ _ _).from _)))) (ownFrom_below (Nat.le_refl _) (by have := Hsz1.out; omega)))
    (fun c => OwnFrom.and (fun s' X Y row hs hg hr => by
      obtain ⟨hc, ini, x, e1, e2, e2', e3, e4⟩ := hs
      exact ⟨hc, ini, x, e1, e2, e2', (blk_own _ (fun _ : Unit => _) _).from _ () X Y row e3 hg hr, (blk_own _ (fun _ : Unit => _) _).from _ () X Y row e4 hg hr⟩) (ownFrom_below (Nat.le_refl _) (by have := Hsz1.out; omega)))
    ⟨⟨(fun p hp => by simp at hp), b0, b1, b2⟩, hB0⟩
    (fun x a' W => ∃ Bx, w.heap.size + 3 ≤ Bx ∧ Blk W Bx (vcells x.2) 26 ∧ a' = { tmps := #[.slice A len cap, .int .i64 s, undef, .pointer (some ⟨w.heap.size, 0, none⟩), .pointer (some ⟨w.heap.size + 1, 0, none⟩), .pointer (some ⟨w.heap.size + 1 + 1, 0, none⟩), undef, .pointer (some ⟨Bx, 0, none⟩),
      .slice A len cap, .int .i64 s, .func (.func 114) #[] #[.pointer (some ⟨w.heap.size + 1 + 1 + 1, 0, none⟩), .pointer (some ⟨w.heap.size + 1 + 1 + 1 + 1, 0, none⟩)], .int .i64 (x.1 : Int), .agg #[.int .i64 x.2.w, .int .i64 x.2.ts, .bool x.2.tomb, .string x.2.val], undef, undef, undef, undef, undef, undef, undef, undef, undef, undef, undef], defers := [] })
    (fun x a' s' X Y row hs hg hr => by
      obtain ⟨Bx, h1, h2, h3⟩ := hs
      exact ⟨Bx, h1, (blk_own _ (fun _ : Unit => _) _).from _ () X Y row h2 hg hr, h3⟩) ?assign ?body ?done ?stop
  case assign =>
    rintro l pre x W K ⟨⟨hp, c0, c1, c2⟩, hB⟩ hK
    have Hp := Lib.hid hp
    clear hp
    gi_wp2
    have hl := c2.lt
    exact hK _ _ ((KeepsOthers.alloc _ _).from _) (KpB.of_below ((Below.refl _ W).alloc (Nat.le_refl _) _) hB.size) ⟨⟨Hp.out, c0.alloc _, c1.alloc _, c2.alloc _⟩, hB.alloc hB.size _⟩ ⟨W.heap.size, by omega, Blk.new W _ _, rfl⟩
  case body =>
    rintro l pre x a' W hl _ ⟨⟨hp, c0, c1, c2⟩, hB⟩ ⟨Bx, hBx, cx, rfl⟩ _
    have Hp := Lib.hid hp
    clear hp
    have k0 := c0.cell 0
    have x0 := cx.cell 0
    have x1 := cx.cell 1
    have x2 := cx.cell 2
    have x3 := cx.cell 3
    have y0 := c1.cell 0
    have y1 := c1.cell 1
    have y2 := c1.cell 2
    have y3 := c1.cell 3
    have z0 := c2.cell 0
    simp only [vcells, List.getElem?_toArray, List.getElem?_cons_zero, List.getElem?_cons_succ] at k0 x0 x1 x2 x3 y0 y1 y2 y3 z0
    have f0 := c1.frozen 0
    have f1 := c1.frozen 1
    have f2 := c1.frozen 2
    have f3 := c1.frozen 3
    have g0 := c2.frozen 0
    by_cases he : x.2.ts ≤ s ∧ x.2.tomb = false
    · obtain ⟨h1, h2⟩ := he
      have h2' : (!x.2.tomb) = true := by rw [h2]; rfl
      have H2 := Lib.hid h2
      clear h2
      gi_wp2
      show ownPostG _ _ _ _ _ _ _ _ ((Ytoinjnocopejjaa.setV W (w.heap.size + 1) x.2).setCell ⟨w.heap.size + 1 + 1, 0, none⟩ (.bool true))
      exact ⟨((keepsV _ _ _).trans (KeepsOthers.setCell _ _ _)).from _, ⟨rfl, pre, x, rfl, by omega, H2.out, (c1.setV _).other (by omega) _, (c2.otherV (by omega) _).set (j := 0) _⟩, (belowV hB (by omega) _).setCell (p := ⟨w.heap.size + 1 + 1, 0, none⟩) (by simp; omega) _⟩
    · have Hall : Hid (NoSeen s (pre ++ [x])) := fun p hp => by
        rcases List.mem_append.1 hp with h | h
        · exact Hp.out p h
        · rw [List.mem_singleton.1 h]; exact he
      by_cases h1 : x.2.ts ≤ s
      · have h2' : (!x.2.tomb) = false := by
          cases ht : x.2.tomb
          · exact absurd ⟨h1, ht⟩ he
          · rfl
        clear he
        gi_wp2
        exact ⟨KeepsFrom.refl _ _, KpB.refl _ _ _, ⟨Hall.out, c0, c1, c2⟩, hB⟩
      · clear he
        gi_wp2
        exact ⟨KeepsFrom.refl _ _, KpB.refl _ _ _, ⟨Hall.out, c0, c1, c2⟩, hB⟩
  case done =>
    rintro D ys W hD rfl ⟨⟨hall, c0, c1, c2⟩, hB⟩ hK
    have HR := Lib.hid (seen_no hall)
    clear hall
    have y0 := c1.cell 0
    have y1 := c1.cell 1
    have y2 := c1.cell 2
    have y3 := c1.cell 3
    have z0 := c2.cell 0
    simp only [vcells, ver0, List.getElem?_toArray, List.getElem?_cons_zero, List.getElem?_cons_succ] at y0 y1 y2 y3 z0
    have f0 := c1.frozen 0
    have f1 := c1.frozen 1
    have f2 := c1.frozen 2
    have f3 := c1.frozen 3
    have g0 := c2.frozen 0
    gi_wp2
    show bodyPostM _ _ _ _ _ _ _ ((Ytoinjnocopejjaa.setV W (w.heap.size + 1) ver0).setCell ⟨w.heap.size + 1 + 1, 0, none⟩ (.bool false))
    have d1' := (c1.setV ver0).other (B' := w.heap.size + 1 + 1) (j := 0) (by omega) (.bool false)
    have d2' := (c2.otherV (B' := w.heap.size + 1) (by omega) ver0).set (j := 0) (.bool false)
    have hB2 := (belowV hB (B := w.heap.size + 1) (by omega) ver0).setCell (p := ⟨w.heap.size + 1 + 1, 0, none⟩) (by simp; omega) (.bool false)
    have hK2 := ((keepsV W (w.heap.size + 1) ver0).trans (KeepsOthers.setCell _ ⟨w.heap.size + 1 + 1, 0, none⟩ (.bool false))).same D _ hK rfl
    generalize (Ytoinjnocopejjaa.setV W (w.heap.size + 1) ver0).setCell ⟨w.heap.size + 1 + 1, 0, none⟩ (.bool false) = W2 at *
    refine ⟨by simp, .inl ⟨_, _, rfl, run_takeDeferred hK2, ?_⟩⟩
    have d1 := blk_kept (o' := .deferred none) d1' hK2 rfl
    have d2 := blk_kept (o' := .deferred none) d2' hK2 rfl
    have y0 := d1.cell 0
    have y1 := d1.cell 1
    have y2 := d1.cell 2
    have y3 := d1.cell 3
    have z0 := d2.cell 0
    simp only [vcells, ver0, List.getElem?_toArray, List.getElem?_cons_zero, List.getElem?_cons_succ] at y0 y1 y2 y3
    change _ = some (Value.bool false) at z0
    refine ⟨.tuple #[ver0.agg, .bool false], ?_, ⟨by rw [HR.out.1, HR.out.2], hB2.trans (belowK_b (w := w) (Nat.le_refl _) W2 D _ _ (by have := Hsz1.out; omega) hK2 rfl rfl)⟩⟩
    simp [results, Try.f100, go_sem, y0, y1, y2, y3, z0, Ver.agg, ver0]
  case stop =>
    rintro D c pre W hD ⟨k, hk, hpre⟩ ⟨⟨rfl, ini, x, e1, e2, e2', c1, c2⟩, hB⟩ hK
    have HR := Lib.hid (seen_yes hk (hpre.symm.trans e1) e2 e2')
    clear e1 e2 e2' hpre
    gi_wp2
    refine ⟨by simp, .inl ⟨_, _, rfl, run_takeDeferred hK, ?_⟩⟩
    have d1 := blk_kept (o' := .deferred none) c1 hK rfl
    have d2 := blk_kept (o' := .deferred none) c2 hK rfl
    have y0 := d1.cell 0
    have y1 := d1.cell 1
    have y2 := d1.cell 2
    have y3 := d1.cell 3
    have z0 := d2.cell 0
    simp only [vcells, List.getElem?_toArray, List.getElem?_cons_zero, List.getElem?_cons_succ] at y0 y1 y2 y3 z0
    refine ⟨.tuple #[x.2.agg, .bool true], ?_, ⟨by rw [HR.out.1, HR.out.2], hB.trans (belowK_b (w := w) (Nat.le_refl _) W D _ _ (by have := Hsz1.out; omega) hK rfl rfl)⟩⟩
    simp [results, Try.f100, go_sem, y0, y1, y2, y3, z0, Ver.agg]
end Go.Proofs.Ytoinjnocopejjaa

/- Versions in memory of the call's own; the library's Clone of them. -/
namespace Go.Proofs.Ytoinjnocopejjaa
open Go.ChangeShapes Go.WideShapes Go.ChangeAt Go.RowKit
set_option linter.unusedVariables false
/-- versions as the memory's cells -/
def vsv : List Ver → List Value
  | [] => []
  | v :: l => .int .i64 v.w :: .int .i64 v.ts :: .bool v.tomb :: .string v.val :: vsv l
theorem vsv_len : ∀ l : List Ver, (vsv l).length = l.length * 4
  | [] => rfl
  | v :: l => by simp [vsv, vsv_len l]; omega
theorem vsv_app : ∀ (l m : List Ver), vsv (l ++ m) = vsv l ++ vsv m
  | [], m => rfl
  | v :: l, m => by simp [vsv, vsv_app l m]
theorem vsv_take : ∀ (l : List Ver) (k : Nat), (vsv l).take (k * 4) = vsv (l.take k)
  | l, 0 => by simp [vsv]
  | [], k + 1 => by simp [vsv]
  | v :: l, k + 1 => by
    rw [show (k + 1) * 4 = k * 4 + 1 + 1 + 1 + 1 from by omega]
    simp only [vsv, List.take_succ_cons, vsv_take l k]
theorem vsv_at : ∀ (l : List Ver) (j : Nat), j < l.length → (vsv l)[j * 4]? = some (.int .i64 (l.getD j ver0).w) ∧ (vsv l)[j * 4 + 1]? = some (.int .i64 (l.getD j ver0).ts) ∧
    (vsv l)[j * 4 + 1 + 1]? = some (.bool (l.getD j ver0).tomb) ∧ (vsv l)[j * 4 + 1 + 1 + 1]? = some (.string (l.getD j ver0).val)
  | [], j, h => by simp at h
  | v :: l, 0, h => ⟨rfl, rfl, rfl, rfl⟩
  | v :: l, j + 1, h => by
    have ih := vsv_at l j (by simp at h; omega)
    rw [show (j + 1) * 4 = j * 4 + 1 + 1 + 1 + 1 from by omega]
    simp only [vsv, List.getElem?_cons_succ, List.getD_cons_succ]
    exact ih
theorem vsv_one : ∀ (l : List Ver), ∀ u ∈ vsv l, u.oneCell' = true
  | [], u, h => by cases h
  | v :: l, u, h => by
    simp only [vsv, List.mem_cons] at h
    rcases h with rfl | rfl | rfl | rfl | h
    · rfl
    · rfl
    · rfl
    · rfl
    · exact vsv_one l u h
/-- the first versions of a block of cells -/
structure VRow (W : World) (B : Nat) (A : Option Addr) (n : Nat) (vs : List Ver) : Prop where
  len : vs.length = n
  blk : 0 < n → ∃ g cur, A = some ⟨g, 0, none⟩ ∧ B ≤ g ∧ Blk W g cur 26 ∧ n * 4 ≤ cur.size ∧ cur.toList.take (n * 4) = vsv vs
theorem vrow_vers {W : World} {B n : Nat} {A : Option Addr} {vs : List Ver} (h : VRow W B A n vs) : Vers W.heap.size W A n vs :=
  ⟨h.len, fun hn => by
    obtain ⟨g, cur, hA, _, hb, hs, ht⟩ := h.blk hn
    refine ⟨g, 0, hA, hb.lt, fun j hj => ?_⟩
    have e := vsv_at vs j (by rw [h.len]; exact hj)
    have hc : ∀ i, i < n * 4 → W.cell? ⟨g, i, none⟩ = (vsv vs)[i]? := fun i hi => by
      rw [hb.cell, ← ht, List.getElem?_take_of_lt hi, Array.getElem?_toList]
    rw [Nat.zero_add]
    exact ⟨(hc _ (by omega)).trans e.1, (hc _ (by omega)).trans e.2.1, (hc _ (by omega)).trans e.2.2.1, (hc _ (by omega)).trans e.2.2.2⟩⟩
theorem VRow.below {W W' : World} {B n : Nat} {A : Option Addr} {vs : List Ver} (h : VRow W B A n vs) (hb : Below W.heap.size W W') : VRow W' B A n vs :=
  ⟨h.len, fun hn => by
    obtain ⟨g, cur, hA, hB, hk, hs, ht⟩ := h.blk hn
    exact ⟨g, cur, hA, hB, hk.below hb hk.lt, hs, ht⟩⟩
theorem VRow.take {W : World} {B n k : Nat} {A : Option Addr} {vs : List Ver} (h : VRow W B A n vs) (hk : k ≤ n) : VRow W B A k (vs.take k) :=
  ⟨by rw [List.length_take, h.len]; omega, fun hp => by
    obtain ⟨g, cur, hA, hB, hb, hs, ht⟩ := h.blk (by omega)
    refine ⟨g, cur, hA, hB, hb, by omega, ?_⟩
    rw [← vsv_take, ← ht, List.take_take, show min (k * 4) (n * 4) = k * 4 from by omega]⟩
theorem own_vrow {w : World} {B n : Nat} {v : Value} {vs : List Ver} (h : w.ownsRow B 26 4 v n (vsv vs)) : ∃ A c, v = .slice A n c ∧ n ≤ c ∧ VRow w B A n vs := by
  have hl : vs.length = n := by have := h.1; rw [vsv_len] at this; omega
  rcases h.2 with ⟨rfl, rfl⟩ | ⟨g, cap, cur, rfl, hg, hb, hc, _, hs, ht⟩
  · exact ⟨none, 0, rfl, Nat.le_refl _, ⟨hl, fun h => by omega⟩⟩
  · exact ⟨some ⟨g, 0, none⟩, cap, rfl, hc, ⟨hl, fun _ => ⟨g, cur, rfl, hg, hb, by rw [hs]; omega, ht⟩⟩⟩
theorem v27info : (Try.prog.info? 26).map (fun i => (i.zero, i.size, i.bytes)) = some (some (.agg #[.int .i64 0, .int .i64 0, .bool false, .string ⟨#[]⟩]), 4, 40) := by kernel_rfl
/-- the cells of a slice that reads as versions -/
theorem vers_cells {n : Nat} {W : World} {g off : Nat} {vs : List Ver} (hl : vs.length = n) (h : ∀ j, j < n → VerAt W g (off + j * 4) (vs.getD j ver0)) :
    ∀ i u, (vsv vs)[i]? = some u → W.cell? ((⟨g, off, none⟩ : Addr).add i) = some u := fun i u hu => by
  have hi : i < vs.length * 4 := by rw [← vsv_len]; exact (List.getElem?_eq_some_iff.1 hu).1
  have hj : i / 4 < n := by omega
  have e := vsv_at vs (i / 4) (by omega)
  have hc := h (i / 4) hj
  rw [add_plain]
  have h4 : i = i / 4 * 4 ∨ i = i / 4 * 4 + 1 ∨ i = i / 4 * 4 + 1 + 1 ∨ i = i / 4 * 4 + 1 + 1 + 1 := by omega
  generalize i / 4 = q at *
  obtain ⟨e0, e1, e2, e3⟩ := e
  rcases h4 with rfl | rfl | rfl | rfl
  · rw [e0] at hu; cases hu; exact hc.c0
  · rw [e1] at hu; cases hu; exact hc.c1
  · rw [e2] at hu; cases hu; exact hc.c2
  · rw [e3] at hu; cases hu; exact hc.c3
def CloneEnd (vs : List Ver) (n : Nat) (w : World) (e : Ending) (w' : World) : Prop :=
  ∃ A' c', e = .returned (.slice A' n c') ∧ n ≤ c' ∧ VRow w' w.heap.size A' n vs ∧ Below w.heap.size w w'
set_option maxRecDepth 100000 in
set_option maxHeartbeats 2000000 in
theorem clone_any (A : Option Addr) (n c : Nat) (vs : List Ver) (w : World) (hn : n ≤ 1000000) (hs : Vers w.heap.size w A n vs) :
    Calls Try.prog 63 #[.slice A n c] w (CloneEnd vs n w) := by
  have Hs := Lib.hid hs
  clear hs
  cases A with
  | none =>
    have hn0 : n = 0 := by
      rcases Nat.eq_zero_or_pos n with h | h
      · exact h
      · obtain ⟨g, off, e, _⟩ := Hs.out.2 h; cases e
    subst hn0
    have hv : Hid (vs = []) := List.eq_nil_of_length_eq_zero Hs.out.1
    have hq := fun W => Lib.run_eql_slice_nil (P := Try.prog) W 38 26 none 0 c 0 0 Try.underlying38
    go_enter Try.func63, Try.ntmps63
    go_wp2
    go_ret
    exact ⟨none, 0, rfl, Nat.le_refl _, ⟨by rw [hv.out]; rfl, fun h => by omega⟩, Below.refl _ _⟩
  | some a =>
    obtain ⟨i0, hi, hz0, hz1, hz2⟩ := info_parts v27info
    have hown0 := World.ownsRow_lit (base := w.heap.size) (size := 4) (e := 26) w #[] 0 (Nat.le_refl _) (by unfold maxLen; omega) (by simp)
    have Hl : Hid ((vsv vs).length = n * 4) := by show _ = _; rw [vsv_len, Hs.out.1]
    have Hc : Hid (∀ i u, (vsv vs)[i]? = some u → (w.alloc (.cells #[] 26)).cell? (a.add i) = some u) := by
      by_cases h0 : 0 < n
      · obtain ⟨g, off, e, hg, hc⟩ := Hs.out.2 h0
        cases e
        intro i u hu
        have := vers_cells Hs.out.1 hc i u hu
        exact (((Below.refl w.heap.size w).alloc (Nat.le_refl _) (.cells #[] 26)).cell (p := (⟨g, off, none⟩ : Addr).add i) (by rw [add_plain]; exact hg)).trans this
      · have hv : vs = [] := List.eq_nil_of_length_eq_zero (by have := Hs.out.1; omega)
        intro i u hu
        rw [hv] at hu; simp [vsv] at hu
    have hq := fun W => Lib.run_eql_slice_nil (P := Try.prog) W 38 26 (some a) n c 0 0 Try.underlying38
    go_enter Try.func63, Try.ntmps63
    go_wp2_with (at_builtin; refine wpList_append_own _ rfl _ _ 38 rfl w.heap.size 26 i0 _ 4 40 Try.underlying38 hi hz0 hz1 hz2 rfl (by decide) _ 0 [] rfl hown0 a n c (vsv vs) rfl Hl.out Hc.out (vsv_one vs) (by unfold maxLen; omega) (by omega) (by simp) ?_; intro v' w3 hown' hgrow3 hnil3)
    simp only [Nat.zero_add, List.nil_append] at hown'
    obtain ⟨A', c', rfl, hc', hrow⟩ := own_vrow hown'
    have hb : Below w.heap.size w w3 := ((Below.refl _ _).alloc (Nat.le_refl _) _).grown hgrow3 (by simp) (fun j e => by cases e; exact Nat.le_refl _)
    clear hown' hgrow3 hnil3
    go_wp2
    go_ret
    exact ⟨A', c', rfl, hc', hrow, hb⟩
end Go.Proofs.Ytoinjnocopejjaa

/- Package keep's Kept. -/
namespace Go.Proofs.Ytoinjnocopejjaa
open Go.ChangeShapes Go.WideShapes Go.ChangeAt Go.RowKit Go.Shelf
set_option linter.unusedVariables false
attribute [local go_sem] Oper.semAt_some
/-- how many are kept of those that came -/
def nOf (f : Int) (pre : List (Nat × Ver)) : Int := pre.foldl (fun n p => if f < p.2.ts ∨ p.2.tomb = false then wrap64 ((p.1 : Int) + 1) else n) 0
theorem nOf_snoc (f : Int) (pre : List (Nat × Ver)) (x : Nat × Ver) : nOf f (pre ++ [x]) = if f < x.2.ts ∨ x.2.tomb = false then wrap64 ((x.1 : Int) + 1) else nOf f pre := by
  unfold nOf; rw [List.foldl_append]; rfl
theorem wrap_succ (k : Nat) (h : k ≤ 1000000) : wrap64 ((k : Int) + 1) = ((k + 1 : Nat) : Int) := by unfold wrap64; omega
theorem nOf_seqn (vs : List Ver) (f : Int) : ∀ k, k ≤ upto vs f → k ≤ 1000000 → nOf f (seqn vs k) = k
  | 0, _, _ => rfl
  | k + 1, h, h2 => by
    rw [seqn_succ, nOf_snoc, if_pos (.inl (upto_lt vs f k (by omega)))]
    exact wrap_succ k (by omega)
theorem nOf_all (vs : List Ver) (f : Int) (hl2 : vs.length ≤ 1000000) : nOf f (seqn vs (mU vs f)) = (nkept vs f : Nat) := by
  have hu := upto_le vs f
  unfold mU nkept
  by_cases hl : upto vs f < vs.length
  · rw [if_pos hl, seqn_succ, nOf_snoc]
    have ha := upto_at vs f hl
    dsimp only
    by_cases ht : (vs.getD (upto vs f) ver0).tomb = false
    · rw [if_pos (.inr ht), if_pos ⟨hl, ht⟩]; exact wrap_succ _ (by omega)
    · rw [if_neg (fun h => h.elim (fun h => by omega) ht), if_neg (fun h => ht h.2), nOf_seqn vs f _ (Nat.le_refl _) (by omega)]
  · have e : upto vs f = vs.length := by omega
    rw [if_neg hl, if_neg (fun h => hl h.1), ← e, nOf_seqn vs f _ (Nat.le_refl _) (by omega)]
theorem Vers.take {n₀ n k : Nat} {W : World} {A : Option Addr} {vs : List Ver} (h : Vers n₀ W A n vs) (hk : k ≤ n) : Vers n₀ W A k (vs.take k) :=
  ⟨by rw [List.length_take, h.1]; omega, fun hp => by
    obtain ⟨g, off, hA, hg, hc⟩ := h.2 (by omega)
    refine ⟨g, off, hA, hg, fun j hj => ?_⟩
    rw [List.getD_eq_getElem?_getD, List.getElem?_take_of_lt hj, ← List.getD_eq_getElem?_getD]
    exact hc j (by omega)⟩
theorem wpIn_nopanic {F : Fence} {n : Nat} {P : Program} {c : Code} {K : Act → World → Prop} {Q : Exit → Act → World → Prop} {a : Act} {w : World}
    (h : c.wpIn F n P (Exit.then K (fun _ _ _ => False)) a w) : c.wpIn F n P (Exit.then K Q) a w :=
  Code.wpIn_mono (fun e a w h => by cases e <;> first | exact h | exact h.elim) h
theorem VRow.kept {W : World} {B D n : Nat} {A : Option Addr} {vs : List Ver} {o o' : Obj} (h : VRow W B A n vs) (hD : W.heap[D]? = some o) (ho : o.isCells = false) : VRow (W.putObj D o') B A n vs :=
  ⟨h.len, fun hn => by
    obtain ⟨g, cur, hA, hB, hk, hs, ht⟩ := h.blk hn
    exact ⟨g, cur, hA, hB, blk_kept hk hD ho, hs, ht⟩⟩
theorem VRow.mono {W : World} {B B' n : Nat} {A : Option Addr} {vs : List Ver} (h : VRow W B A n vs) (hb : B' ≤ B) : VRow W B' A n vs :=
  ⟨h.len, fun hn => by
    obtain ⟨g, cur, hA, hB, hk, hs, ht⟩ := h.blk hn
    exact ⟨g, cur, hA, Nat.le_trans hb hB, hk, hs, ht⟩⟩
def KeptEnd (vs : List Ver) (n : Nat) (w : World) (e : Ending) (w' : World) : Prop :=
  ∃ A', e = .returned (.slice A' n n) ∧ VRow w' w.heap.size A' n vs ∧ Below w.heap.size w w'
set_option maxRecDepth 100000 in
set_option maxHeartbeats 2000000 in
theorem Kept_any (A : Option Addr) (len cap : Nat) (f : Int) (vs : List Ver) (w : World) (hlen : len ≤ 1000000) (hcap : len ≤ cap) (hs : Vers w.heap.size w A len vs) :
    Calls Try.prog 87 #[.slice A len cap, .int .i64 f] w (KeptEnd (kept vs f) (nkept vs f) w) := by
  have Hs := Lib.hid hs
  clear hs
  refine (callsIn_wide (n := 6)).1 ?_
  refine callsIn_of_wp_marks Try.func87 rfl trivial ?_ rfl
  simp only [Try.ntmps87, List.size_toArray, List.length_cons, List.length_nil, Nat.reduceAdd, Nat.reduceSub, Array.replicate_succ, Array.replicate_zero, List.push_toArray, List.append_toArray, List.nil_append, List.cons_append]
  gi_wp2
  refine ⟨trivial, ?_⟩
  refine (until_any _ _ _ _ _ _).mono ?_
  rintro e W1 ⟨rfl, hW1⟩
  have b0 : Blk W1 w.heap.size #[.int .i64 f] 3 := by
    rw [hW1]; exact (((Blk.new w _ 3).alloc _).alloc _).alloc _
  have b1 : Blk W1 (w.heap.size + 1) #[.int .i64 0] 3 := by
    have := Blk.new (w.alloc (.cells #[.int .i64 f] 3)) #[.int .i64 0] 3
    rw [World.size_alloc] at this
    rw [hW1]; exact (this.alloc _).alloc _
  have b3 : Blk W1 (w.heap.size + 1 + 1) #[.slice A len cap] 38 := by
    have := Blk.new ((w.alloc (.cells #[.int .i64 f] 3)).alloc (.cells #[.int .i64 0] 3)) #[.slice A len cap] 38
    simp only [World.size_alloc] at this
    rw [hW1]; exact this.alloc _
  have b4 : Blk W1 (w.heap.size + 1 + 1 + 1) #[.int .i64 f] 3 := by
    have := Blk.new (((w.alloc (.cells #[.int .i64 f] 3)).alloc (.cells #[.int .i64 0] 3)).alloc (.cells #[.slice A len cap] 38)) #[.int .i64 f] 3
    simp only [World.size_alloc] at this
    rw [hW1]; exact this
  have hB0 : Below w.heap.size w W1 := by
    rw [hW1]; exact ((((Below.refl _ w).alloc (Nat.le_refl _) _).alloc (by simp) _).alloc (by simp; omega) _).alloc (by simp; omega) _
  have hsz1 : w.heap.size + 4 = W1.heap.size := by rw [hW1]; simp
  simp only [World.size_alloc]
  clear hW1
  have Hsz1 := Lib.hid hsz1
  clear hsz1
  gi_wp2
  refine wpIn_rangeFunc_ownH rfl (by omega) (gf := 114) (lb := #[.pointer (some ⟨w.heap.size + 1 + 1, 0, none⟩), .pointer (some ⟨w.heap.size + 1 + 1 + 1, 0, none⟩)]) rfl trivial (enters_of Try.func114 (by kernel_rfl) rfl)
    (until_stops _ (by omega) (w.heap.size + 1 + 1) (w.heap.size + 1 + 1 + 1) w.heap.size (w.heap.size + 2) len cap A f vs hlen W1 (by have := Hsz1.out; omega) (by have := Hsz1.out; omega) (by omega) (by omega) (by have := Hsz1.out; omega) b3 b4 (Hs.out.below hB0))
    kp_t (KpB.put (by have := Hsz1.out; omega)) (Below.refl _ _) (fun _ => rfl)
    (fun pre W => (Blk W w.heap.size #[.int .i64 f] 3 ∧ Blk W (w.heap.size + 1) #[.int .i64 (nOf f pre)] 3) ∧ Below w.heap.size w W)
    (fun _ _ _ => False)
    (OwnFrom.and (OwnFrom.and ((blk_own _ _ _).from _) ((blk_own _ _ _).from _)) (ownFrom_below (Nat.le_refl _) (by have := Hsz1.out; omega)))
    (fun _ _ _ _ _ hs _ _ => hs)
    ⟨⟨b0, b1⟩, hB0⟩
    (fun x a' W => ∃ Bx, w.heap.size + 2 ≤ Bx ∧ Blk W Bx (vcells x.2) 26 ∧ a' = { tmps := #[.slice A len cap, .int .i64 f, undef, .pointer (some ⟨w.heap.size, 0, none⟩), .slice none 0 0, .pointer (some ⟨w.heap.size + 1, 0, none⟩), .int .i64 (x.1 : Int), .pointer (some ⟨Bx, 0, none⟩),
      .slice A len cap, .int .i64 f, .func (.func 114) #[] #[.pointer (some ⟨w.heap.size + 1 + 1, 0, none⟩), .pointer (some ⟨w.heap.size + 1 + 1 + 1, 0, none⟩)], .int .i64 (x.1 : Int), .agg #[.int .i64 x.2.w, .int .i64 x.2.ts, .bool x.2.tomb, .string x.2.val], undef, undef, undef, undef, undef, undef, undef, undef, undef, undef, undef, undef, undef, undef, undef, undef, undef, undef], defers := [] })
    (fun x a' s' X Y row hs hg hr => by
      obtain ⟨Bx, h1, h2, h3⟩ := hs
      exact ⟨Bx, h1, (blk_own _ (fun _ : Unit => _) _).from _ () X Y row h2 hg hr, h3⟩) ?assign ?body ?done ?stop
  case assign =>
    rintro l pre x W K ⟨⟨c0, c1⟩, hB⟩ hK
    gi_wp2
    have hl := c1.lt
    exact hK _ _ ((KeepsOthers.alloc _ _).from _) (KpB.of_below ((Below.refl _ W).alloc (Nat.le_refl _) _) hB.size) ⟨⟨c0.alloc _, c1.alloc _⟩, hB.alloc hB.size _⟩ ⟨W.heap.size, by omega, Blk.new W _ _, rfl⟩
  case body =>
    rintro l pre x a' W hl _ ⟨⟨c0, c1⟩, hB⟩ ⟨Bx, hBx, cx, rfl⟩ hpl
    have k0 := c0.cell 0
    have x1 := cx.cell 1
    have x2 := cx.cell 2
    have y0 := c1.cell 0
    simp only [vcells, List.getElem?_toArray, List.getElem?_cons_zero, List.getElem?_cons_succ] at k0 x1 x2 y0
    have f0 := c1.frozen 0
    by_cases he : f < x.2.ts ∨ x.2.tomb = false
    · have HN : Hid (nOf f (pre ++ [x]) = wrap64 ((x.1 : Int) + 1)) := by show _ = _; rw [nOf_snoc, if_pos he]
      by_cases h1 : f < x.2.ts
      · clear he
        gi_wp2
        exact ⟨(KeepsOthers.setCell _ _ _).from _, KpB.setCell _ (by omega) (by omega) _, ⟨c0.other (by omega) _, by rw [HN.out]; exact c1.set _⟩, hB.setCell (p := ⟨w.heap.size + 1, 0, none⟩) (by simp) _⟩
      · have ht : (!x.2.tomb) = true := by rcases he with h | h; exact absurd h h1; rw [h]; rfl
        clear he
        gi_wp2
        exact ⟨(KeepsOthers.setCell _ _ _).from _, KpB.setCell _ (by omega) (by omega) _, ⟨c0.other (by omega) _, by rw [HN.out]; exact c1.set _⟩, hB.setCell (p := ⟨w.heap.size + 1, 0, none⟩) (by simp) _⟩
    · have HN : Hid (nOf f (pre ++ [x]) = nOf f pre) := by show _ = _; rw [nOf_snoc, if_neg he]
      have h1 : ¬ f < x.2.ts := fun h => he (.inl h)
      have ht : (!x.2.tomb) = false := by
        cases h : x.2.tomb
        · exact absurd (.inr h) he
        · rfl
      clear he
      gi_wp2
      exact ⟨KeepsFrom.refl _ _, KpB.refl _ _ _, ⟨c0, by rw [HN.out]; exact c1⟩, hB⟩
  case done =>
    rintro D ys W hD rfl ⟨⟨c0, c1⟩, hB⟩ hK
    rw [nOf_all vs f (by rw [Hs.out.1]; exact hlen)] at c1
    have hnk := nkept_le vs f
    rw [Hs.out.1] at hnk
    have HT := Lib.hid ((Hs.out.below hB).mono hB.size |>.take hnk)
    obtain ⟨nk, hnk'⟩ : ∃ nk, nkept vs f = nk := ⟨_, rfl⟩
    have HK : Hid (kept vs f = vs.take nk) := by show _ = _; unfold kept; rw [hnk']
    rw [hnk'] at c1 hnk HT
    have Hnk := Lib.hid hnk'
    clear hnk'
    have y0 := c1.cell 0
    have hlt1 := c1.lt
    simp only [List.getElem?_toArray, List.getElem?_cons_zero] at y0
    have C1 := Lib.hid (fun (W2 : World) (h : Vers W2.heap.size W2 A nk (vs.take nk)) => clone_any A nk cap (vs.take nk) W2 (by omega) h)
    have hj1 : (0 : Int) ≤ (nk : Int) := by omega
    have hj2 : (nk : Int) ≤ (cap : Int) := by omega
    have hmx : Try.prog.follows .mixedOrders = true := by kernel_rfl
    gi_wp2
    have hF23 : Fence.wide.fn 63 := trivial
    have HTd := Lib.hid ((HT.out.below (Below.drew (Below.refl _ W))).mono (show W.heap.size ≤ W.drew.heap.size from Nat.le_refl _))
    have y0d : W.drew.cell? ⟨w.heap.size + 1, 0, none⟩ = some (.int .i64 (nk : Int)) := by rw [World.cell?_drew]; exact y0
    have hlt1d : w.heap.size + 1 < W.drew.heap.size := hlt1
    refine wpIn_nopanic ?_
    gi_region_with_o (gi_at_call 63; refine (callsIn_wide.2 (C1.out W.drew HTd.out)).mono ?_; rintro e w2 ⟨A', c', rfl, hc', hrow, hb⟩; have hc2 : (nk : Int) ≤ (c' : Int) := (by omega); have y2 : w2.cell? ⟨w.heap.size + 1, 0, none⟩ = some (.int .i64 (nk : Int)) := (hb.cell (p := ⟨w.heap.size + 1, 0, none⟩) hlt1d).trans y0d)
    all_goals gi_wp2
    all_goals (
      have hDl : D < W.drew.heap.size := (Array.getElem?_eq_some_iff.1 hK).1
      have hK2 : w2.heap[D]? = some (Obj.deferred (some [])) := (hb.block D hDl).trans hK
      have hB2 : Below w.heap.size w w2 := (Below.drew hB).trans (hb.mono hB.size)
      refine ⟨by simp, .inl ⟨_, _, rfl, run_takeDeferred hK2, ?_⟩⟩
      refine ⟨_, results_tmp rfl _ _ _, ?_⟩
      rw [HK.out, Hnk.out]
      exact ⟨A', rfl, (hrow.kept hK2 rfl).mono hB.size, hB2.trans (belowK_b (w := w) (Nat.le_refl _) w2 D _ _ (by have := Hsz1.out; omega) hK2 rfl rfl)⟩)
  case stop =>
    rintro D c pre W _ _ h _
    exact h.elim
end Go.Proofs.Ytoinjnocopejjaa
