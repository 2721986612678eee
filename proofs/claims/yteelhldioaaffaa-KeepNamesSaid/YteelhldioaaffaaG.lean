/- Package keep's Kept. -/
import Derived.Test.YteelhldioaaffaaF
namespace Go.Proofs.Yteelhldioaaffaa
open Go.ChangeShapes Go.WideShapes Go.ChangeAt Go.RowKit Go.Shelf
set_option linter.unusedVariables false
attribute [local go_sem] Oper.semAt_some
/-- how many are kept of those that came -/
def nOf (f : Int) (pre : List (Nat × Ver)) : Int := pre.foldl (fun n p => if f < p.2.ts ∨ p.2.tomb = false then wrap64 ((p.1 : Int) + 1) else n) 0
theorem nOf_snoc (f : Int) (pre : List (Nat × Ver)) (x : Nat × Ver) : nOf f (pre ++ [x]) = if f < x.2.ts ∨ x.2.tomb = false then wrap64 ((x.1 : Int) + 1) else nOf f pre := by
  unfold nOf; rw [List.foldl_append]; rfl
theorem wrap_succ (k : Nat) (h : k ≤ 1000000) : wrap64 ((k : Int) + 1) = ((k + 1 : Nat) : Int) := by unfold wrap64; omega
theorem nOf_seqn (vs : List Ver) (f : Int) : ∀ k, k ≤ upto vs f → k ≤ 1000000 → nOf f (seqn vs k) = k
  | 0, _, _ => rfl
  | k + 1, h, h2 => by
    rw [seqn_succ, nOf_snoc, if_pos (.inl (upto_lt vs f k (by omega)))]
    exact wrap_succ k (by omega)
theorem nOf_all (vs : List Ver) (f : Int) (hl2 : vs.length ≤ 1000000) : nOf f (seqn vs (mU vs f)) = (nkept vs f : Nat) := by
  have hu := upto_le vs f
  unfold mU nkept
  by_cases hl : upto vs f < vs.length
  · rw [if_pos hl, seqn_succ, nOf_snoc]
    have ha := upto_at vs f hl
    dsimp only
    by_cases ht : (vs.getD (upto vs f) ver0).tomb = false
    · rw [if_pos (.inr ht), if_pos ⟨hl, ht⟩]; exact wrap_succ _ (by omega)
    · rw [if_neg (fun h => h.elim (fun h => by omega) ht), if_neg (fun h => ht h.2), nOf_seqn vs f _ (Nat.le_refl _) (by omega)]
  · have e : upto vs f = vs.length := by omega
    rw [if_neg hl, if_neg (fun h => hl h.1), ← e, nOf_seqn vs f _ (Nat.le_refl _) (by omega)]
theorem Vers.take {n₀ n k : Nat} {W : World} {A : Option Addr} {vs : List Ver} (h : Vers n₀ W A n vs) (hk : k ≤ n) : Vers n₀ W A k (vs.take k) :=
  ⟨by rw [List.length_take, h.1]; omega, fun hp => by
    obtain ⟨g, off, hA, hg, hc⟩ := h.2 (by omega)
    refine ⟨g, off, hA, hg, fun j hj => ?_⟩
    rw [List.getD_eq_getElem?_getD, List.getElem?_take_of_lt hj, ← List.getD_eq_getElem?_getD]
    exact hc j (by omega)⟩
theorem wpIn_nopanic {F : Fence} {n : Nat} {P : Program} {c : Code} {K : Act → World → Prop} {Q : Exit → Act → World → Prop} {a : Act} {w : World}
    (h : c.wpIn F n P (Exit.then K (fun _ _ _ => False)) a w) : c.wpIn F n P (Exit.then K Q) a w :=
  Code.wpIn_mono (fun e a w h => by cases e <;> first | exact h | exact h.elim) h
theorem VRow.kept {W : World} {B D n : Nat} {A : Option Addr} {vs : List Ver} {o o' : Obj} (h : VRow W B A n vs) (hD : W.heap[D]? = some o) (ho : o.isCells = false) : VRow (W.putObj D o') B A n vs :=
  ⟨h.len, fun hn => by
    obtain ⟨g, cur, hA, hB, hk, hs, ht⟩ := h.blk hn
    exact ⟨g, cur, hA, hB, blk_kept hk hD ho, hs, ht⟩⟩
theorem VRow.mono {W : World} {B B' n : Nat} {A : Option Addr} {vs : List Ver} (h : VRow W B A n vs) (hb : B' ≤ B) : VRow W B' A n vs :=
  ⟨h.len, fun hn => by
    obtain ⟨g, cur, hA, hB, hk, hs, ht⟩ := h.blk hn
    exact ⟨g, cur, hA, Nat.le_trans hb hB, hk, hs, ht⟩⟩
def KeptEnd (vs : List Ver) (n : Nat) (w : World) (e : Ending) (w' : World) : Prop :=
  ∃ A', e = .returned (.slice A' n n) ∧ VRow w' w.heap.size A' n vs ∧ Below w.heap.size w w'
set_option maxRecDepth 100000 in
set_option maxHeartbeats 2000000 in
theorem Kept_any (A : Option Addr) (len cap : Nat) (f : Int) (vs : List Ver) (w : World) (hlen : len ≤ 1000000) (hcap : len ≤ cap) (hs : Vers w.heap.size w A len vs) :
    Calls Try.prog 13 #[.slice A len cap, .int .i64 f] w (KeptEnd (kept vs f) (nkept vs f) w) := by
  have Hs := Lib.hid hs
  clear hs
  refine (callsIn_wide (n := 6)).1 ?_
  refine callsIn_of_wp_marks Try.func13 rfl trivial ?_ rfl
  simp only [Try.ntmps13, List.size_toArray, List.length_cons, List.length_nil, Nat.reduceAdd, Nat.reduceSub, Array.replicate_succ, Array.replicate_zero, List.push_toArray, List.append_toArray, List.nil_append, List.cons_append]
  gi_wp2
  refine ⟨trivial, ?_⟩
  refine (until_any _ _ _ _ _ _).mono ?_
  rintro e W1 ⟨rfl, hW1⟩
  have b0 : Blk W1 w.heap.size #[.int .i64 f] 3 := by
    rw [hW1]; exact (((Blk.new w _ 3).alloc _).alloc _).alloc _
  have b1 : Blk W1 (w.heap.size + 1) #[.int .i64 0] 3 := by
    have := Blk.new (w.alloc (.cells #[.int .i64 f] 3)) #[.int .i64 0] 3
    rw [World.size_alloc] at this
    rw [hW1]; exact (this.alloc _).alloc _
  have b3 : Blk W1 (w.heap.size + 1 + 1) #[.slice A len cap] 24 := by
    have := Blk.new ((w.alloc (.cells #[.int .i64 f] 3)).alloc (.cells #[.int .i64 0] 3)) #[.slice A len cap] 24
    simp only [World.size_alloc] at this
    rw [hW1]; exact this.alloc _
  have b4 : Blk W1 (w.heap.size + 1 + 1 + 1) #[.int .i64 f] 3 := by
    have := Blk.new (((w.alloc (.cells #[.int .i64 f] 3)).alloc (.cells #[.int .i64 0] 3)).alloc (.cells #[.slice A len cap] 24)) #[.int .i64 f] 3
    simp only [World.size_alloc] at this
    rw [hW1]; exact this
  have hB0 : Below w.heap.size w W1 := by
    rw [hW1]; exact ((((Below.refl _ w).alloc (Nat.le_refl _) _).alloc (by simp) _).alloc (by simp; omega) _).alloc (by simp; omega) _
  have hsz1 : w.heap.size + 4 = W1.heap.size := by rw [hW1]; simp
  simp only [World.size_alloc]
  clear hW1
  have Hsz1 := Lib.hid hsz1
  clear hsz1
  gi_wp2
  refine wpIn_rangeFunc_ownH rfl (by omega) (gf := 26) (lb := #[.pointer (some ⟨w.heap.size + 1 + 1, 0, none⟩), .pointer (some ⟨w.heap.size + 1 + 1 + 1, 0, none⟩)]) rfl trivial (enters_of Try.func26 (by kernel_rfl) rfl)
    (until_stops _ (by omega) (w.heap.size + 1 + 1) (w.heap.size + 1 + 1 + 1) w.heap.size (w.heap.size + 2) len cap A f vs hlen W1 (by have := Hsz1.out; omega) (by have := Hsz1.out; omega) (by omega) (by omega) (by have := Hsz1.out; omega) b3 b4 (Hs.out.below hB0))
    kp_t (KpB.put (by have := Hsz1.out; omega)) (Below.refl _ _) (fun _ => rfl)
    (fun pre W => (Blk W w.heap.size #[.int .i64 f] 3 ∧ Blk W (w.heap.size + 1) #[.int .i64 (nOf f pre)] 3) ∧ Below w.heap.size w W)
    (fun _ _ _ => False)
    (OwnFrom.and (OwnFrom.and ((blk_own _ _ _).from _) ((blk_own _ _ _).from _)) (ownFrom_below (Nat.le_refl _) (by have := Hsz1.out; omega)))
    (fun _ _ _ _ _ hs _ _ => hs)
    ⟨⟨b0, b1⟩, hB0⟩
    (fun x a' W => ∃ Bx, w.heap.size + 2 ≤ Bx ∧ Blk W Bx (vcells x.2) 27 ∧ a' = { tmps := #[.slice A len cap, .int .i64 f, undef, .pointer (some ⟨w.heap.size, 0, none⟩), .slice none 0 0, .pointer (some ⟨w.heap.size + 1, 0, none⟩), .int .i64 (x.1 : Int), .pointer (some ⟨Bx, 0, none⟩),
      .slice A len cap, .int .i64 f, .func (.func 26) #[] #[.pointer (some ⟨w.heap.size + 1 + 1, 0, none⟩), .pointer (some ⟨w.heap.size + 1 + 1 + 1, 0, none⟩)], .int .i64 (x.1 : Int), .agg #[.int .i64 x.2.w, .int .i64 x.2.ts, .bool x.2.tomb, .string x.2.val], undef, undef, undef, undef, undef, undef, undef, undef, undef, undef, undef, undef, undef, undef, undef, undef, undef, undef], defers := [] })
    (fun x a' s' X Y row hs hg hr => by
      obtain ⟨Bx, h1, h2, h3⟩ := hs
      exact ⟨Bx, h1, (blk_own _ (fun _ : Unit => _) _).from _ () X Y row h2 hg hr, h3⟩) ?assign ?body ?done ?stop
  case assign =>
    rintro l pre x W K ⟨⟨c0, c1⟩, hB⟩ hK
    gi_wp2
    have hl := c1.lt
    exact hK _ _ ((KeepsOthers.alloc _ _).from _) (KpB.of_below ((Below.refl _ W).alloc (Nat.le_refl _) _) hB.size) ⟨⟨c0.alloc _, c1.alloc _⟩, hB.alloc hB.size _⟩ ⟨W.heap.size, by omega, Blk.new W _ _, rfl⟩
  case body =>
    rintro l pre x a' W hl _ ⟨⟨c0, c1⟩, hB⟩ ⟨Bx, hBx, cx, rfl⟩ hpl
    have k0 := c0.cell 0
    have x1 := cx.cell 1
    have x2 := cx.cell 2
    have y0 := c1.cell 0
    simp only [vcells, List.getElem?_toArray, List.getElem?_cons_zero, List.getElem?_cons_succ] at k0 x1 x2 y0
    have f0 := c1.frozen 0
    by_cases he : f < x.2.ts ∨ x.2.tomb = false
    · have HN : Hid (nOf f (pre ++ [x]) = wrap64 ((x.1 : Int) + 1)) := by show _ = _; rw [nOf_snoc, if_pos he]
      by_cases h1 : f < x.2.ts
      · clear he
        gi_wp2
        exact ⟨(KeepsOthers.setCell _ _ _).from _, KpB.setCell _ (by omega) (by omega) _, ⟨c0.other (by omega) _, by rw [HN.out]; exact c1.set _⟩, hB.setCell (p := ⟨w.heap.size + 1, 0, none⟩) (by simp) _⟩
      · have ht : (!x.2.tomb) = true := by rcases he with h | h; exact absurd h h1; rw [h]; rfl
        clear he
        gi_wp2
        exact ⟨(KeepsOthers.setCell _ _ _).from _, KpB.setCell _ (by omega) (by omega) _, ⟨c0.other (by omega) _, by rw [HN.out]; exact c1.set _⟩, hB.setCell (p := ⟨w.heap.size + 1, 0, none⟩) (by simp) _⟩
    · have HN : Hid (nOf f (pre ++ [x]) = nOf f pre) := by show _ = _; rw [nOf_snoc, if_neg he]
      have h1 : ¬ f < x.2.ts := fun h => he (.inl h)
      have ht : (!x.2.tomb) = false := by
        cases h : x.2.tomb
        · exact absurd (.inr h) he
        · rfl
      clear he
      gi_wp2
      exact ⟨KeepsFrom.refl _ _, KpB.refl _ _ _, ⟨c0, by rw [HN.out]; exact c1⟩, hB⟩
  case done =>
    rintro D ys W hD rfl ⟨⟨c0, c1⟩, hB⟩ hK
    rw [nOf_all vs f (by rw [Hs.out.1]; exact hlen)] at c1
    have hnk := nkept_le vs f
    rw [Hs.out.1] at hnk
    have HT := Lib.hid ((Hs.out.below hB).mono hB.size |>.take hnk)
    obtain ⟨nk, hnk'⟩ : ∃ nk, nkept vs f = nk := ⟨_, rfl⟩
    have HK : Hid (kept vs f = vs.take nk) := by show _ = _; unfold kept; rw [hnk']
    rw [hnk'] at c1 hnk HT
    have Hnk := Lib.hid hnk'
    clear hnk'
    have y0 := c1.cell 0
    have hlt1 := c1.lt
    simp only [List.getElem?_toArray, List.getElem?_cons_zero] at y0
    have C1 := Lib.hid (fun (W2 : World) (h : Vers W2.heap.size W2 A nk (vs.take nk)) => clone_any A nk cap (vs.take nk) W2 (by omega) h)
    have hj1 : (0 : Int) ≤ (nk : Int) := by omega
    have hj2 : (nk : Int) ≤ (cap : Int) := by omega
    have hmx : Try.prog.follows .mixedOrders = true := by kernel_rfl
    gi_wp2
    have hF23 : Fence.wide.fn 23 := trivial
    have HTd := Lib.hid ((HT.out.below (Below.drew (Below.refl _ W))).mono (show W.heap.size ≤ W.drew.heap.size from Nat.le_refl _))
    have y0d : W.drew.cell? ⟨w.heap.size + 1, 0, none⟩ = some (.int .i64 (nk : Int)) := by rw [World.cell?_drew]; exact y0
    have hlt1d : w.heap.size + 1 < W.drew.heap.size := hlt1
    refine wpIn_nopanic ?_
    gi_region_with_o (gi_at_call 23; refine (callsIn_wide.2 (C1.out W.drew HTd.out)).mono ?_; rintro e w2 ⟨A', c', rfl, hc', hrow, hb⟩; have hc2 : (nk : Int) ≤ (c' : Int) := (by omega); have y2 : w2.cell? ⟨w.heap.size + 1, 0, none⟩ = some (.int .i64 (nk : Int)) := (hb.cell (p := ⟨w.heap.size + 1, 0, none⟩) hlt1d).trans y0d)
    all_goals gi_wp2
    all_goals (
      have hDl : D < W.drew.heap.size := (Array.getElem?_eq_some_iff.1 hK).1
      have hK2 : w2.heap[D]? = some (Obj.deferred (some [])) := (hb.block D hDl).trans hK
      have hB2 : Below w.heap.size w w2 := (Below.drew hB).trans (hb.mono hB.size)
      refine ⟨by simp, .inl ⟨_, _, rfl, run_takeDeferred hK2, ?_⟩⟩
      refine ⟨_, results_tmp rfl _ _ _, ?_⟩
      rw [HK.out, Hnk.out]
      exact ⟨A', rfl, (hrow.kept hK2 rfl).mono hB.size, hB2.trans (belowK_b (w := w) (Nat.le_refl _) w2 D _ _ (by have := Hsz1.out; omega) hK2 rfl rfl)⟩)
  case stop =>
    rintro D c pre W _ _ h _
    exact h.elim
end Go.Proofs.Yteelhldioaaffaa
