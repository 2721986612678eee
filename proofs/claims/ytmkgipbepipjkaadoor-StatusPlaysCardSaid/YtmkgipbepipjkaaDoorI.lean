/- Busy, Active. -/
import Derived.Test.YtmkgipbepipjkaaDoorH
namespace Go.Proofs.YtmkgipbepipjkaaDoor
open Go.ChangeShapes Go.WideShapes Go.ChangeAt Go.RowKit Go.Shelf
set_option linter.unusedVariables false
set_option linter.unusedSimpArgs false
attribute [local go_sem] Oper.semAt_some

theorem blk_own {β : Type} (B : Nat) (c : β → Array Value) (t : TypeId) : Own (fun s W => Blk W B (c s) t) := fun s X Y row hs hg hrow => by
  have hs' : X.heap[B]? = some (.cells (c s) t (0, 0)) := hs
  show Y.heap[B]? = _
  rw [hg.block B (Array.getElem?_eq_some_iff.1 hs').1 (fun e => by obtain ⟨o, ho, hc⟩ := hrow B e.symm; rw [hs'] at ho; cases ho; cases hc)]
  exact hs'
theorem keeps_below {W W' : World} (h : Below W.heap.size W W') : KeepsOthers W W' := ⟨h.size, fun k o hk _ => (h.block k (Array.getElem?_eq_some_iff.1 hk).1).trans hk⟩
/-- who of those that came is busy -/
def busyOf (pre : List (Nat × Wr)) : List Int := (pre.filter fun x => busyB x.2).map fun x => (x.1 : Int) + 1
theorem busyOf_snoc (pre : List (Nat × Wr)) (x : Nat × Wr) : busyOf (pre ++ [x]) = if busyB x.2 then busyOf pre ++ [(x.1 : Int) + 1] else busyOf pre := by
  unfold busyOf
  cases h : busyB x.2 <;> simp [List.filter_append, h]
theorem busyOf_len (pre : List (Nat × Wr)) : (busyOf pre).length ≤ pre.length := by
  unfold busyOf; rw [List.length_map]; exact List.length_filter_le _ _
/-- who is busy -/
def busyL (L : List Wr) : List Int := busyOf (seqE L 0 L.length)
theorem seqE_skip (L : List Wr) (m : Nat) : ∀ en, seqE L 0 (en + m) = seqE L 0 en ++ seqE L en m := fun en => by
  unfold seqE
  rw [List.range_add, List.map_append]
  congr 1
  rw [List.map_map]
  apply List.map_congr_left
  intro j _
  simp
theorem busyOf_none (L : List Wr) : ∀ en, (∀ j, j < en → busyB (L.getD j w0r) = false) → busyOf (seqE L 0 en) = []
  | 0, _ => rfl
  | en + 1, h => by
    rw [seqE_succ, busyOf_snoc, busyOf_none L en (fun j hj => h j (by omega))]
    have := h en (by omega)
    simp only [Nat.zero_add]
    rw [if_neg (by rw [this]; decide)]
theorem busyOf_app (a b : List (Nat × Wr)) : busyOf (a ++ b) = busyOf a ++ busyOf b := by simp [busyOf, List.filter_append]
theorem busy_from {L : List Wr} {en : Nat} (he : en ≤ L.length) (h : ∀ j, j < en → busyB (L.getD j w0r) = false) : busyOf (seqE L en (L.length - en)) = busyL L := by
  unfold busyL
  have e := seqE_skip L (L.length - en) en
  rw [show en + (L.length - en) = L.length by omega] at e
  rw [e, busyOf_app, busyOf_none L en h, List.nil_append]
/-- how many of those that came are active -/
def actOf (pre : List (Nat × Wr)) : Nat := (pre.filter fun x => decide (x.2.1 = 1)).length
theorem actOf_snoc (pre : List (Nat × Wr)) (x : Nat × Wr) : actOf (pre ++ [x]) = if x.2.1 = 1 then actOf pre + 1 else actOf pre := by
  unfold actOf
  by_cases h : x.2.1 = 1 <;> simp [List.filter_append, h]
theorem actOf_len (pre : List (Nat × Wr)) : actOf pre ≤ pre.length := List.length_filter_le _ _
def actL (L : List Wr) : Nat := actOf (seqE L 0 L.length)
theorem actOf_none (L : List Wr) : ∀ en, (∀ j, j < en → busyB (L.getD j w0r) = false) → actOf (seqE L 0 en) = 0
  | 0, _ => rfl
  | en + 1, h => by
    rw [seqE_succ, actOf_snoc, actOf_none L en (fun j hj => h j (by omega))]
    have := h en (by omega)
    simp only [Nat.zero_add]
    rw [if_neg (fun e => by unfold busyB at this; rw [decide_eq_true e] at this; cases this)]
theorem actOf_app (a b : List (Nat × Wr)) : actOf (a ++ b) = actOf a + actOf b := by simp [actOf, List.filter_append]
theorem act_from {L : List Wr} {en : Nat} (he : en ≤ L.length) (h : ∀ j, j < en → busyB (L.getD j w0r) = false) : actOf (seqE L en (L.length - en)) = actL L := by
  unfold actL
  have e := seqE_skip L (L.length - en) en
  rw [show en + (L.length - en) = L.length by omega] at e
  rw [e, actOf_app, actOf_none L en h, Nat.zero_add]
set_option maxRecDepth 100000 in
set_option maxHeartbeats 4000000 in
theorem active_any (B p : Nat) (v : Value) (L : List Wr) (la : Int) (en : Nat) (w : World) (h : WrAt w B p v L la en) (hn : L.length ≤ 1000000) : Calls Tryd.prog 15 #[.pointer (some ⟨p, 0, none⟩)] w fun x w' => x = .returned (.int .i64 (actL L)) ∧ Below w.heap.size w w' := by
  have HO := Lib.hid h
  clear h
  refine (callsIn_wide (n := 6)).1 ?_
  refine callsIn_of_wp_marks Tryd.func15 rfl trivial ?_ rfl
  simp only [Tryd.ntmps15, List.size_toArray, List.length_cons, List.length_nil, Nat.reduceAdd, Nat.reduceSub, Array.replicate_succ, Array.replicate_zero, List.push_toArray, List.append_toArray, List.nil_append, List.cons_append]
  gi_wp2
  refine ⟨trivial, ?_⟩
  refine (all_any _ _ _).mono ?_
  rintro e W1 ⟨rfl, hW1⟩
  have b0 : Blk W1 w.heap.size #[.int .i64 0] 3 := by rw [hW1]; exact (Blk.new w _ 3).alloc _
  have b1 : Blk W1 (w.heap.size + 1) #[.pointer (some ⟨p, 0, none⟩)] 22 := by
    have := Blk.new (w.alloc (.cells #[.int .i64 0] 3)) #[.pointer (some ⟨p, 0, none⟩)] 22
    rw [World.size_alloc] at this
    rw [hW1]; exact this
  have hB0 : Below w.heap.size w W1 := by rw [hW1]; exact ((Below.refl _ w).alloc (Nat.le_refl _) _).alloc (by simp) _
  have hsz1 : w.heap.size + 2 = W1.heap.size := by rw [hW1]; simp
  simp only [World.size_alloc]
  clear hW1
  have Hsz1 := Lib.hid hsz1
  clear hsz1
  gi_wp2
  refine wpIn_rangeFunc_ownH rfl (by omega) (gf := 40) (lb := #[.pointer (some ⟨w.heap.size + 1, 0, none⟩)]) rfl trivial (enters_of Tryd.func40 (by kernel_rfl) rfl)
    (all_stops _ (by omega) (w.heap.size + 1) w.heap.size B p v L la en w W1 hn HO.out (Nat.le_refl _) (by have := Hsz1.out; omega) hB0 b1)
    kc_t (KpC.put (by have := Hsz1.out; omega)) (Below.refl _ _) (fun _ => rfl)
    (fun pre W => Blk W w.heap.size #[.int .i64 (actOf pre : Nat)] 3 ∧ Below w.heap.size w W)
    (fun _ _ _ => False)
    (OwnFrom.and ((blk_own _ _ _).from _) (ownFrom_below (Nat.le_refl _) (by have := Hsz1.out; omega)))
    (fun _ _ _ _ _ hs _ _ => hs)
    ⟨b0, hB0⟩
    (fun x a' W => ∃ Bx, w.heap.size + 1 ≤ Bx ∧ Blk W Bx #[.int .u8 x.2.1, .int .i64 x.2.2] 49 ∧ a' = { tmps := #[.pointer (some ⟨p, 0, none⟩), undef, .int .i64 0, .pointer (some ⟨w.heap.size, 0, none⟩), undef, .pointer (some ⟨Bx, 0, none⟩), .pointer (some ⟨p, 0, none⟩), .bool false, .pointer (some ⟨p, 0, none⟩), .func (.func 40) #[] #[.pointer (some ⟨w.heap.size + 1, 0, none⟩)], .int .i64 ((x.1 : Int) + 1), .agg #[.int .u8 x.2.1, .int .i64 x.2.2], undef, undef, undef, undef, undef, undef], defers := [] })
    (fun x a' s' X Y row hs hg hr => by
      obtain ⟨Bx, h1, h2, h3⟩ := hs
      exact ⟨Bx, h1, (blk_own _ (fun _ : Unit => _) _).from _ () X Y row h2 hg hr, h3⟩) ?assign ?body ?done ?stop
  case assign =>
    rintro l pre x W K ⟨c0, hB⟩ hK
    gi_wp2
    have hl := c0.lt
    exact hK _ _ ((KeepsOthers.alloc _ _).from _) (KpC.of_below ((Below.refl _ W).alloc (Nat.le_refl _) _) hB.size) ⟨c0.alloc _, hB.alloc hB.size _⟩ ⟨W.heap.size, by omega, Blk.new W _ _, rfl⟩
  case body =>
    rintro l pre x a' W hl _ ⟨c0, hB⟩ ⟨Bx, hBx, cx, rfl⟩ hpl
    have x0 := cx.cell 0
    have y0 := c0.cell 0
    simp only [List.getElem?_toArray, List.getElem?_cons_zero, List.getElem?_cons_succ] at x0 y0
    have f0 := c0.frozen 0
    have hal := actOf_len pre
    by_cases h1 : x.2.1 = 1
    · have HN : Hid (actOf (pre ++ [x]) = actOf pre + 1) := by show _ = _; rw [actOf_snoc, if_pos h1]
      have wa : IntKind.i64.wrap ((actOf pre : Int) + 1) = (actOf pre : Int) + 1 := IntWalk.i64_in _ (by omega)
      rw [h1] at x0
      have e1 : (x.2.1 == 1) = true := by rw [h1]; rfl
      have c1 : Blk (W.setCell ⟨w.heap.size, 0, none⟩ (.int .i64 ((actOf pre : Int) + 1))) w.heap.size #[.int .i64 (actOf (pre ++ [x]) : Nat)] 3 := by rw [HN.out, Int.natCast_add]; exact c0.set _
      have C1 := Lib.hid c1
      have hb1 : Below w.heap.size w (W.setCell ⟨w.heap.size, 0, none⟩ (.int .i64 ((actOf pre : Int) + 1))) := hB.setCell (Nat.le_refl _) _
      have HB1 := Lib.hid hb1
      clear c1 hb1 h1
      gi_wp2
      exact ⟨(KeepsOthers.setCell _ _ _).from _, KpC.setCell _ (Nat.le_refl _) (by omega) _, C1.out, HB1.out⟩
    · have HN : Hid (actOf (pre ++ [x]) = actOf pre) := by show _ = _; rw [actOf_snoc, if_neg h1]
      have e1 : (x.2.1 == 1) = false := by rw [beq_eq_false_iff_ne]; exact h1
      clear h1
      gi_wp2
      exact ⟨KeepsFrom.refl _ _, KpC.refl _ _ _, by rw [HN.out]; exact c0, hB⟩
  case done =>
    rintro D ys W hD rfl ⟨c0, hB⟩ hK
    rw [act_from HO.out.le HO.out.nb] at c0
    have y0 := c0.cell 0
    simp only [List.getElem?_toArray, List.getElem?_cons_zero] at y0
    have HBB : Hid (Below w.heap.size w (W.putObj D (.deferred none))) := hB.trans (belowK_b (w := w) (Nat.le_refl _) W D _ _ (by have := Hsz1.out; omega) hK rfl rfl)
    clear b0 b1 hB0
    gi_wp2
    refine ⟨by simp, .inl ⟨_, _, rfl, run_takeDeferred hK, ?_⟩⟩
    refine ⟨_, results_tmp rfl _ _ _, ?_⟩
    exact ⟨rfl, HBB.out⟩
  case stop =>
    rintro D c pre W _ _ h _
    exact h.elim
/-- a row of numbers that the call made -/
abbrev OwI (W : World) (B : Nat) (v : Value) (xs : List Int) : Prop := Ow iv W B 3 v xs.length xs
theorem i3info : (Tryd.prog.info? 3).map (fun i => (i.zero, i.size, i.bytes)) = some (some (.int .i64 0), 1, 8) := by kernel_rfl
theorem own_from (H B B2 : Nat) (xs : List (Nat × Wr) → List Int) : OwnFrom H (fun pre W => ∃ vb, Blk W B #[vb] 29 ∧ OwI W B2 vb (xs pre)) := fun pre X Y row hs hg hr => by
  obtain ⟨vb, h1, h2⟩ := hs
  refine ⟨vb, (blk_own B (fun _ : Unit => #[vb]) 29).from H () X Y row h1 hg hr, World.ownsRow.kept h2 hg ?_⟩
  cases h0 : vb.ownBlock with
  | none => exact .inl rfl
  | some k =>
    right; intro e
    obtain ⟨cur, hc⟩ := Ow.tag h2 k h0
    obtain ⟨_, o, ho, hn⟩ := hr k e.symm
    rw [hc] at ho; cases ho; cases hn
def BusyEnd (L : List Wr) (w : World) (x : Ending) (w' : World) : Prop := ∃ vb, x = .returned vb ∧ OwI w' w.heap.size vb (busyL L) ∧ Below w.heap.size w w'
set_option maxRecDepth 100000 in
set_option maxHeartbeats 4000000 in
theorem busy_any (B p : Nat) (v : Value) (L : List Wr) (la : Int) (en : Nat) (w : World) (h : WrAt w B p v L la en) (hn : L.length ≤ 1000000) : Calls Tryd.prog 14 #[.pointer (some ⟨p, 0, none⟩)] w (BusyEnd L w) := by
  have HO := Lib.hid h
  clear h
  obtain ⟨i0, hi, hz0, hz1, hz2⟩ := info_parts i3info
  refine (callsIn_wide (n := 6)).1 ?_
  refine callsIn_of_wp_marks Tryd.func14 rfl trivial ?_ rfl
  simp only [Tryd.ntmps14, List.size_toArray, List.length_cons, List.length_nil, Nat.reduceAdd, Nat.reduceSub, Array.replicate_succ, Array.replicate_zero, List.push_toArray, List.append_toArray, List.nil_append, List.cons_append]
  gi_wp2
  refine ⟨trivial, ?_⟩
  refine (all_any _ _ _).mono ?_
  rintro e W1 ⟨rfl, hW1⟩
  have b0 : Blk W1 w.heap.size #[.slice none 0 0] 29 := by rw [hW1]; exact (Blk.new w _ 29).alloc _
  have b1 : Blk W1 (w.heap.size + 1) #[.pointer (some ⟨p, 0, none⟩)] 22 := by
    have := Blk.new (w.alloc (.cells #[.slice none 0 0] 29)) #[.pointer (some ⟨p, 0, none⟩)] 22
    rw [World.size_alloc] at this
    rw [hW1]; exact this
  have hB0 : Below w.heap.size w W1 := by rw [hW1]; exact ((Below.refl _ w).alloc (Nat.le_refl _) _).alloc (by simp) _
  have hsz1 : w.heap.size + 2 = W1.heap.size := by rw [hW1]; simp
  simp only [World.size_alloc]
  clear hW1
  have Hsz1 := Lib.hid hsz1
  clear hsz1
  gi_wp2
  refine wpIn_rangeFunc_ownH rfl (by omega) (gf := 40) (lb := #[.pointer (some ⟨w.heap.size + 1, 0, none⟩)]) rfl trivial (enters_of Tryd.func40 (by kernel_rfl) rfl)
    (all_stops _ (by omega) (w.heap.size + 1) w.heap.size B p v L la en w W1 hn HO.out (Nat.le_refl _) (by have := Hsz1.out; omega) hB0 b1)
    kc_t (KpC.put (by have := Hsz1.out; omega)) (Below.refl _ _) (fun _ => rfl)
    (fun pre W => (∃ vb, Blk W w.heap.size #[vb] 29 ∧ OwI W (w.heap.size + 2) vb (busyOf pre)) ∧ Below w.heap.size w W)
    (fun _ _ _ => False)
    (OwnFrom.and (own_from _ _ _ _) (ownFrom_below (Nat.le_refl _) (by have := Hsz1.out; omega)))
    (fun _ _ _ _ _ hs _ _ => hs)
    ⟨⟨_, b0, Ow.none _ _ _⟩, hB0⟩
    (fun x a' W => ∃ Bx, w.heap.size + 1 ≤ Bx ∧ Blk W Bx #[.int .u8 x.2.1, .int .i64 x.2.2] 49 ∧ a' = { tmps := #[.pointer (some ⟨p, 0, none⟩), undef, .slice none 0 0, .pointer (some ⟨w.heap.size, 0, none⟩), .int .i64 ((x.1 : Int) + 1), .pointer (some ⟨Bx, 0, none⟩), .pointer (some ⟨p, 0, none⟩), .bool false, .pointer (some ⟨p, 0, none⟩), .func (.func 40) #[] #[.pointer (some ⟨w.heap.size + 1, 0, none⟩)], .int .i64 ((x.1 : Int) + 1), .agg #[.int .u8 x.2.1, .int .i64 x.2.2], undef, undef, undef, undef, undef, undef, undef], defers := [] })
    (fun x a' s' X Y row hs hg hr => by
      obtain ⟨Bx, h1, h2, h3⟩ := hs
      exact ⟨Bx, h1, (blk_own _ (fun _ : Unit => _) _).from _ () X Y row h2 hg hr, h3⟩) ?assign ?body ?done ?stop
  case assign =>
    rintro l pre x W K ⟨⟨vb, c0, ho⟩, hB⟩ hK
    gi_wp2
    have hl := c0.lt
    exact hK _ _ ((KeepsOthers.alloc _ _).from _) (KpC.of_below ((Below.refl _ W).alloc (Nat.le_refl _) _) hB.size) ⟨⟨vb, c0.alloc _, ho.later ((Below.refl _ W).alloc (Nat.le_refl _) _)⟩, hB.alloc hB.size _⟩ ⟨W.heap.size, by omega, Blk.new W _ _, rfl⟩
  case body =>
    rintro l pre x a' W hl ⟨rl, hlr⟩ ⟨⟨vb, c0, ho⟩, hB⟩ ⟨Bx, hBx, cx, rfl⟩ hpl
    have hlw := (Array.getElem?_eq_some_iff.1 hlr).1
    have hW2 : w.heap.size + 2 ≤ W.heap.size := by have := Hsz1.out; omega
    clear hlr hlw
    have x0 := cx.cell 0
    have x1 := cx.cell 1
    simp only [List.getElem?_toArray, List.getElem?_cons_zero, List.getElem?_cons_succ] at x0 x1
    have hal := busyOf_len pre
    have C0 := Lib.hid c0
    have HOW := Lib.hid ho
    have HBW := Lib.hid hB
    obtain ⟨bz, hbz⟩ : ∃ b, busyB x.2 = b := ⟨_, rfl⟩
    have HBZ := Lib.hid hbz
    clear c0 ho hB hbz b0 b1 hB0
    gi_wp2
    refine ⟨trivial, ?_⟩
    refine (CallsIn.inRound l (callsIn_wide.2 (isbusy_any x.2.1 x.2.2 W))).mono ?_
    rintro e W2 ⟨rfl, hb⟩
    rw [show busyB (x.2.1, x.2.2) = bz from HBZ.out]
    have C2 := Lib.hid (C0.out.later hb)
    have HOW2 := Lib.hid (HOW.out.later hb)
    have HB2 := Lib.hid (stepB HBW.out hb)
    have HKF := Lib.hid ((keeps_below hb).from W1.heap.size)
    have HKC : Hid (KpC w.heap.size (w.heap.size + 1) W W2) := KpC.of_below hb HBW.out.size
    clear hb C0 HOW HBW cx x0 x1
    cases bz
    · have HN : Hid (busyOf (pre ++ [x]) = busyOf pre) := by show _ = _; rw [busyOf_snoc, HBZ.out]; rfl
      gi_wp2
      exact ⟨HKF.out, HKC.out, ⟨_, C2.out, by rw [HN.out]; exact HOW2.out⟩, HB2.out⟩
    · have HN : Hid (busyOf (pre ++ [x]) = busyOf pre ++ [(x.1 : Int) + 1]) := by show _ = _; rw [busyOf_snoc, HBZ.out]; rfl
      obtain ⟨A2, c2, rfl, _⟩ := Ow.sl HOW2.out
      have y0 := C2.out.cell 0
      have f0 := C2.out.frozen 0
      simp only [List.getElem?_toArray, List.getElem?_cons_zero] at y0
      have hb3 : Below W2.heap.size W2 (W2.alloc (.cells #[.int .i64 ((x.1 : Int) + 1)] 3)) := (Below.refl _ _).alloc (Nat.le_refl _) _
      have HO3 := Lib.hid (HOW2.out.later hb3)
      have HX3 := Lib.hid (Blk.new W2 #[.int .i64 ((x.1 : Int) + 1)] 3)
      have C3 := Lib.hid (C2.out.later hb3)
      have HB3 := Lib.hid (stepB HB2.out hb3)
      have HK3 := Lib.hid (HKF.out.trans ((keeps_below hb3).from _))
      have HC3 : Hid (KpC w.heap.size (w.heap.size + 1) W (W2.alloc (.cells #[.int .i64 ((x.1 : Int) + 1)] 3))) := HKC.out.trans (KpC.of_below hb3 HB2.out.size)
      have hsz3 : w.heap.size + 2 ≤ (W2.alloc (.cells #[.int .i64 ((x.1 : Int) + 1)] 3)).heap.size := Nat.le_trans hW2 (Nat.le_trans HKC.out.size hb3.size)
      have hcell : ∀ j u, [Value.int .i64 ((x.1 : Int) + 1)][j]? = some u → (W2.alloc (.cells #[.int .i64 ((x.1 : Int) + 1)] 3)).cell? ((⟨W2.heap.size, 0, none⟩ : Addr).add j) = some u := fun j u hu => by
        rw [add_plain, Nat.zero_add, HX3.out.cell]; simpa using hu
      have HCE := Lib.hid hcell
      clear hcell hb3 HOW2 C2 HB2 HKF HKC
      gi_wp2_with (gi_at_builtin; refine wpListIn_append_own _ rfl (.tmp 14) (.tmp 16) 29 rfl (w.heap.size + 2) 3 i0 _ 1 8 Tryd.underlying29 hi hz0 hz1 hz2 rfl (by decide) _ _ _ rfl HO3.out ⟨W2.heap.size, 0, none⟩ 1 1 [.int .i64 ((x.1 : Int) + 1)] rfl rfl HCE.out (by simp [Value.oneCell']) (by unfold maxLen; omega) (by omega) hsz3 ?_; intro v4 W4 ho4 hg4)
      intro hnil
      clear hnil
      have ho5 : OwI W4 (w.heap.size + 2) v4 (busyOf (pre ++ [x])) := by
        rw [HN.out]
        show World.ownsRow _ _ _ _ _ _ _
        rw [List.length_append, List.map_append]
        exact ho4
      have hg5 : (W2.alloc (.cells #[.int .i64 ((x.1 : Int) + 1)] 3)).grownBy W4 (Value.slice A2 (busyOf pre).length c2).ownBlock := hg4
      have hr5 : ∀ k, (Value.slice A2 (busyOf pre).length c2).ownBlock = some k → w.heap.size + 2 ≤ k := fun k hk => (Ow.lt HO3.out k hk).1
      have C5 : Hid (Blk W4 w.heap.size #[.slice A2 (busyOf pre).length c2] 29) := C3.out.grown hg5 (fun e => by have := hr5 _ e.symm; omega)
      have HB5 : Hid (Below w.heap.size w W4) := HB3.out.grown hg5 HB3.out.size (fun k hk => by have := hr5 k hk; omega)
      have HK5 := Lib.hid (HK3.out.trans ((KeepsOthers.of_grownBy hg5 (fun j o hj ho => by obtain ⟨cur, hc⟩ := Ow.tag HO3.out j hj; rw [hc] at ho; cases ho; rfl)).from _))
      have HC5 : Hid (KpC w.heap.size (w.heap.size + 1) W W4) := HC3.out.trans (KpC.grown hg5 HB3.out.size (fun k hk => by have := hr5 k hk; omega))
      obtain ⟨A5, c5, rfl, _⟩ := Ow.sl ho5
      have H5 := Lib.hid ho5
      have y5 := C5.out.cell 0
      have f5 := C5.out.frozen 0
      simp only [List.getElem?_toArray, List.getElem?_cons_zero] at y5
      clear ho4 hg4 ho5 hg5 hr5 y0 f0 HO3 HX3 C3 HB3 HK3 HC3 hsz3 HCE
      gi_wp2
      refine ⟨HK5.out.trans ((KeepsOthers.setCell _ _ _).from _), HC5.out.trans (KpC.setCell _ (Nat.le_refl _) (by omega) _), ⟨_, C5.out.set _, ?_⟩, HB5.out.setCell (Nat.le_refl _) _⟩
      refine World.ownsRow.kept H5.out (row := some w.heap.size) ⟨rfl, rfl, rfl, by simp [World.setCell], fun k hk hkr => Below.heap_setCell W4 ⟨w.heap.size, 0, none⟩ _ k (fun e => hkr (by rw [e]))⟩ ?_
      by_cases h0 : (Value.slice A5 (busyOf (pre ++ [x])).length c5).ownBlock = none
      · exact .inl h0
      · right; intro e; have := (Ow.lt H5.out _ e).1; omega
  case done =>
    rintro D ys W hD rfl ⟨⟨vb, c0, ho⟩, hB⟩ hK
    rw [busy_from HO.out.le HO.out.nb] at ho
    obtain ⟨A2, c2, rfl, _⟩ := Ow.sl ho
    have y0 := c0.cell 0
    simp only [List.getElem?_toArray, List.getElem?_cons_zero] at y0
    have HBB : Hid (Below w.heap.size w (W.putObj D (.deferred none))) := hB.trans (belowK_b (w := w) (Nat.le_refl _) W D _ _ (by have := Hsz1.out; omega) hK rfl rfl)
    have HOB : Hid (OwI (W.putObj D (.deferred none)) w.heap.size (.slice A2 (busyL L).length c2) (busyL L)) := by
      refine Ow.base ?_ (show w.heap.size ≤ w.heap.size + 2 by omega)
      refine World.ownsRow.kept ho (grownBy_putObj' W D _) ?_
      by_cases h0 : (Value.slice A2 (busyL L).length c2).ownBlock = none
      · exact .inl h0
      · right; intro e
        obtain ⟨cur, hc⟩ := Ow.tag ho D e
        rw [hK] at hc; cases hc
    clear b0 b1 hB0 ho hB
    gi_wp2
    refine ⟨by simp, .inl ⟨_, _, rfl, run_takeDeferred hK, ?_⟩⟩
    refine ⟨_, results_tmp rfl _ _ _, ?_⟩
    exact ⟨_, rfl, HOB.out, HBB.out⟩
  case stop =>
    rintro D c pre W _ _ h _
    exact h.elim
end Go.Proofs.YtmkgipbepipjkaaDoor
