/- Package keep's Seen. -/
import Derived.Test.YteelhldioaaffaaD
namespace Go.Proofs.Yteelhldioaaffaa
open Go.ChangeShapes Go.WideShapes Go.ChangeAt Go.RowKit Go.Shelf
set_option linter.unusedVariables false
attribute [local go_sem] Oper.semAt_some
/-- a block of cells that holds what it says -/
def Blk (W : World) (B : Nat) (c : Array Value) (t : TypeId) : Prop := W.heap[B]? = some (.cells c t (0, 0))
theorem blk_own {β : Type} (B : Nat) (c : β → Array Value) (t : TypeId) : Own (fun s W => Blk W B (c s) t) := fun s X Y row hs hg hrow => by
  have hs' : X.heap[B]? = some (.cells (c s) t (0, 0)) := hs
  show Y.heap[B]? = _
  rw [hg.block B (Array.getElem?_eq_some_iff.1 hs').1 (fun e => by obtain ⟨o, ho, hc⟩ := hrow B e.symm; rw [hs'] at ho; cases ho; cases hc)]
  exact hs'
theorem Blk.lt {W : World} {B : Nat} {c : Array Value} {t : TypeId} (h : Blk W B c t) : B < W.heap.size := (Array.getElem?_eq_some_iff.1 (show W.heap[B]? = _ from h)).1
theorem Blk.cell {W : World} {B : Nat} {c : Array Value} {t : TypeId} (h : Blk W B c t) (j : Nat) : W.cell? ⟨B, j, none⟩ = c[j]? := cell_of_heap h
theorem Blk.frozen {W : World} {B : Nat} {c : Array Value} {t : TypeId} (h : Blk W B c t) (j : Nat) : W.frozen? ⟨B, j, none⟩ = false := by
  unfold World.frozen?
  rw [show W.heap[B]? = _ from h]
  simp
theorem Blk.new (W : World) (c : Array Value) (t : TypeId) : Blk (W.alloc (.cells c t)) W.heap.size c t := heap_alloc_new W _
theorem Blk.alloc {W : World} {B : Nat} {c : Array Value} {t : TypeId} (h : Blk W B c t) (o : Obj) : Blk (W.alloc o) B c t := (Below.heap_alloc W o B h.lt).trans h
theorem Blk.other {W : World} {B B' j : Nat} {c : Array Value} {t : TypeId} (h : Blk W B c t) (hne : B ≠ B') (v : Value) : Blk (W.setCell ⟨B', j, none⟩ v) B c t :=
  (Below.heap_setCell W ⟨B', j, none⟩ v B hne).trans h
theorem Blk.set {W : World} {B j : Nat} {c : Array Value} {t : TypeId} (h : Blk W B c t) (v : Value) : Blk (W.setCell ⟨B, j, none⟩ v) B (c.setIfInBounds j v) t := by
  have h' : W.heap[B]? = some (.cells c t (0, 0)) := h
  show (W.heap.modify B _)[B]? = _
  rw [Array.getElem?_modify, if_pos rfl, h']
  rfl
theorem Blk.below {W W' : World} {B n₀ : Nat} {c : Array Value} {t : TypeId} (h : Blk W B c t) (hb : Below n₀ W W') (hB : B < n₀) : Blk W' B c t := (hb.block B hB).trans h
theorem Blk.kp {W W' : World} {B n₀ n₁ : Nat} {c : Array Value} {t : TypeId} (h : Blk W B c t) (hb : KpB n₀ n₁ W W') (hB : n₁ ≤ B) : Blk W' B c t := hb.box hB h
theorem blk_kept {W : World} {B D : Nat} {c : Array Value} {t : TypeId} {o : Obj} {o' : Obj} (h : Blk W B c t) (hD : W.heap[D]? = some o) (ho : o.isCells = false) : Blk (W.putObj D o') B c t := by
  have h' : W.heap[B]? = some (.cells c t (0, 0)) := h
  show (W.putObj D o').heap[B]? = _
  rw [(grownBy_putObj' W D o').block B h.lt (fun e => by cases e; rw [h'] at hD; cases hD; cases ho)]
  exact h'
theorem seen_no {vs : List Ver} {s : Int} (h : ∀ p ∈ seqn vs (mU vs s), ¬ (p.2.ts ≤ s ∧ p.2.tomb = false)) : seenB vs s = false ∧ seen vs s = ver0 := by
  have e : seenB vs s = false := by
    unfold seenB
    by_cases hl : upto vs s < vs.length
    · have hm : (upto vs s, vs.getD (upto vs s) ver0) ∈ seqn vs (mU vs s) := by
        unfold mU seqn
        rw [if_pos hl, List.mem_map]
        exact ⟨_, List.mem_range.2 (Nat.lt_succ_self _), rfl⟩
      have h1 := h _ hm
      have h2 := upto_at vs s hl
      dsimp only at h1
      have h3 : (vs.getD (upto vs s) ver0).tomb = true := by
        cases ht : (vs.getD (upto vs s) ver0).tomb
        · exact absurd ⟨h2, ht⟩ h1
        · rfl
      rw [h3]; simp
    · rw [decide_eq_false hl]; rfl
  exact ⟨e, by unfold seen; rw [e]; rfl⟩
theorem seen_yes {vs : List Ver} {s : Int} {k : Nat} {ini : List (Nat × Ver)} {x : Nat × Ver} (hk : k ≤ mU vs s) (he : seqn vs k = ini ++ [x]) (h1 : x.2.ts ≤ s) (h2 : x.2.tomb = false) : seenB vs s = true ∧ seen vs s = x.2 := by
  obtain ⟨j, rfl⟩ : ∃ j, k = j + 1 := by
    cases k with
    | zero => simp [seqn] at he
    | succ j => exact ⟨j, rfl⟩
  rw [seqn_succ] at he
  obtain ⟨_, e2⟩ := List.append_inj' he rfl
  have hx : x.2 = vs.getD j ver0 := by
    have := List.cons.inj e2
    rw [← this.1]
  have hle := upto_le vs s
  have hju : j = upto vs s := by
    rcases Nat.lt_or_ge j (upto vs s) with c | c
    · have := upto_lt vs s j c
      rw [← hx] at this; omega
    · unfold mU at hk
      split at hk <;> omega
  have hlt : upto vs s < vs.length := by
    unfold mU at hk
    split at hk
    · assumption
    · omega
  have e : seenB vs s = true := by
    unfold seenB
    rw [decide_eq_true hlt, ← hju, ← hx, h2]; rfl
  exact ⟨e, by unfold seen; rw [e, if_pos rfl, ← hju, ← hx]⟩
def vcells (v : Ver) : Array Value := #[.int .i64 v.w, .int .i64 v.ts, .bool v.tomb, .string v.val]
def NoSeen (s : Int) (pre : List (Nat × Ver)) : Prop := ∀ p ∈ pre, ¬ (p.2.ts ≤ s ∧ p.2.tomb = false)
def setV (W : World) (B : Nat) (v : Ver) : World := (((W.setCell ⟨B, 0, none⟩ (.int .i64 v.w)).setCell ⟨B, 1, none⟩ (.int .i64 v.ts)).setCell ⟨B, 2, none⟩ (.bool v.tomb)).setCell ⟨B, 3, none⟩ (.string v.val)
theorem Blk.setV {W : World} {B : Nat} {u : Ver} {t : TypeId} (h : Blk W B (vcells u) t) (v : Ver) : Blk (setV W B v) B (vcells v) t := (((h.set (j := 0) _).set (j := 1) _).set (j := 2) _).set (j := 3) _
theorem Blk.otherV {W : World} {B B' : Nat} {c : Array Value} {t : TypeId} (h : Blk W B c t) (hne : B ≠ B') (v : Ver) : Blk (Yteelhldioaaffaa.setV W B' v) B c t := (((h.other hne _).other hne _).other hne _).other hne _
theorem keepsV (W : World) (B : Nat) (v : Ver) : KeepsOthers W (setV W B v) := (((KeepsOthers.setCell _ _ _).trans (KeepsOthers.setCell _ _ _)).trans (KeepsOthers.setCell _ _ _)).trans (KeepsOthers.setCell _ _ _)
theorem kpV {n₀ n₁ : Nat} (W : World) {B : Nat} (h0 : n₀ ≤ B) (h1 : B < n₁) (v : Ver) : KpB n₀ n₁ W (setV W B v) :=
  (((KpB.setCell W h0 h1 _).trans (KpB.setCell _ h0 h1 _)).trans (KpB.setCell _ h0 h1 _)).trans (KpB.setCell _ h0 h1 _)
theorem belowV {B0 : Nat} {a W : World} (h : Below B0 a W) {B : Nat} (hB : B0 ≤ B) (v : Ver) : Below B0 a (setV W B v) :=
  (((h.setCell (p := ⟨B, 0, none⟩) hB _).setCell (p := ⟨B, 1, none⟩) hB _).setCell (p := ⟨B, 2, none⟩) hB _).setCell (p := ⟨B, 3, none⟩) hB _
set_option maxRecDepth 100000 in
set_option maxHeartbeats 2000000 in
theorem Seen_any (A : Option Addr) (len cap : Nat) (s : Int) (vs : List Ver) (w : World) (hlen : len ≤ 1000000) (hs : Vers w.heap.size w A len vs) :
    Calls Try.prog 12 #[.slice A len cap, .int .i64 s] w fun e w' => e = .returned (.tuple #[(seen vs s).agg, .bool (seenB vs s)]) ∧ Below w.heap.size w w' := by
  have Hs := Lib.hid hs
  clear hs
  refine (callsIn_wide (n := 6)).1 ?_
  refine callsIn_of_wp_marks Try.func12 rfl trivial ?_ rfl
  simp only [Try.ntmps12, List.size_toArray, List.length_cons, List.length_nil, Nat.reduceAdd, Nat.reduceSub, Array.replicate_succ, Array.replicate_zero, List.push_toArray, List.append_toArray, List.nil_append, List.cons_append]
  gi_wp2
  refine ⟨trivial, ?_⟩
  refine (until_any _ _ _ _ _ _).mono ?_
  rintro e W1 ⟨rfl, hW1⟩
  have b0 : Blk W1 w.heap.size #[.int .i64 s] 3 := by
    rw [hW1]; exact ((((Blk.new w _ 3).alloc _).alloc _).alloc _).alloc _
  have b1 : Blk W1 (w.heap.size + 1) (vcells ver0) 27 := by
    have := Blk.new (w.alloc (.cells #[.int .i64 s] 3)) (vcells ver0) 27
    rw [World.size_alloc] at this
    rw [hW1]; exact ((this.alloc _).alloc _).alloc _
  have b2 : Blk W1 (w.heap.size + 1 + 1) #[.bool false] 4 := by
    have := Blk.new ((w.alloc (.cells #[.int .i64 s] 3)).alloc (.cells (vcells ver0) 27)) #[.bool false] 4
    simp only [World.size_alloc] at this
    rw [hW1]; exact (this.alloc _).alloc _
  have b3 : Blk W1 (w.heap.size + 1 + 1 + 1) #[.slice A len cap] 24 := by
    have := Blk.new (((w.alloc (.cells #[.int .i64 s] 3)).alloc (.cells (vcells ver0) 27)).alloc (.cells #[.bool false] 4)) #[.slice A len cap] 24
    simp only [World.size_alloc] at this
    rw [hW1]; exact this.alloc _
  have b4 : Blk W1 (w.heap.size + 1 + 1 + 1 + 1) #[.int .i64 s] 3 := by
    have := Blk.new ((((w.alloc (.cells #[.int .i64 s] 3)).alloc (.cells (vcells ver0) 27)).alloc (.cells #[.bool false] 4)).alloc (.cells #[.slice A len cap] 24)) #[.int .i64 s] 3
    simp only [World.size_alloc] at this
    rw [hW1]; exact this
  have hB0 : Below w.heap.size w W1 := by
    rw [hW1]; exact (((((Below.refl _ w).alloc (Nat.le_refl _) _).alloc (by simp) _).alloc (by simp; omega) _).alloc (by simp; omega) _).alloc (by simp; omega) _
  have hsz1 : w.heap.size + 5 = W1.heap.size := by rw [hW1]; simp
  simp only [World.size_alloc]
  clear hW1
  have Hsz1 := Lib.hid hsz1
  clear hsz1
  gi_wp2
  refine wpIn_rangeFunc_ownH rfl (by omega) (gf := 26) (lb := #[.pointer (some ⟨w.heap.size + 1 + 1 + 1, 0, none⟩), .pointer (some ⟨w.heap.size + 1 + 1 + 1 + 1, 0, none⟩)]) rfl trivial (enters_of Try.func26 (by kernel_rfl) rfl)
    (until_stops _ (by omega) (w.heap.size + 1 + 1 + 1) (w.heap.size + 1 + 1 + 1 + 1) w.heap.size (w.heap.size + 3) len cap A s vs hlen W1 (by have := Hsz1.out; omega) (by have := Hsz1.out; omega) (by omega) (by omega) (by have := Hsz1.out; omega) b3 b4 (Hs.out.below hB0))
    kp_t (KpB.put (by have := Hsz1.out; omega)) (Below.refl _ _) (fun _ => rfl)
    (fun pre W => (NoSeen s pre ∧ Blk W w.heap.size #[.int .i64 s] 3 ∧ Blk W (w.heap.size + 1) (vcells ver0) 27 ∧ Blk W (w.heap.size + 1 + 1) #[.bool false] 4) ∧ Below w.heap.size w W)
    (fun c pre W => (c = .ret ∧ ∃ ini x, pre = ini ++ [x] ∧ x.2.ts ≤ s ∧ x.2.tomb = false ∧ Blk W (w.heap.size + 1) (vcells x.2) 27 ∧ Blk W (w.heap.size + 1 + 1) #[.bool true] 4) ∧ Below w.heap.size w W)
    (OwnFrom.and (OwnFrom.and (ownFrom_pure _ _) (OwnFrom.and ((blk_own _ _ _).from _) (OwnFrom.and ((blk_own _ _ _).from _) ((blk_own _ _ _).from _)))) (ownFrom_below (Nat.le_refl _) (by have := Hsz1.out; omega)))
    (fun c => OwnFrom.and (fun s' X Y row hs hg hr => by
      obtain ⟨hc, ini, x, e1, e2, e2', e3, e4⟩ := hs
      exact ⟨hc, ini, x, e1, e2, e2', (blk_own _ (fun _ : Unit => _) _).from _ () X Y row e3 hg hr, (blk_own _ (fun _ : Unit => _) _).from _ () X Y row e4 hg hr⟩) (ownFrom_below (Nat.le_refl _) (by have := Hsz1.out; omega)))
    ⟨⟨(fun p hp => by simp at hp), b0, b1, b2⟩, hB0⟩
    (fun x a' W => ∃ Bx, w.heap.size + 3 ≤ Bx ∧ Blk W Bx (vcells x.2) 27 ∧ a' = { tmps := #[.slice A len cap, .int .i64 s, undef, .pointer (some ⟨w.heap.size, 0, none⟩), .pointer (some ⟨w.heap.size + 1, 0, none⟩), .pointer (some ⟨w.heap.size + 1 + 1, 0, none⟩), undef, .pointer (some ⟨Bx, 0, none⟩),
      .slice A len cap, .int .i64 s, .func (.func 26) #[] #[.pointer (some ⟨w.heap.size + 1 + 1 + 1, 0, none⟩), .pointer (some ⟨w.heap.size + 1 + 1 + 1 + 1, 0, none⟩)], .int .i64 (x.1 : Int), .agg #[.int .i64 x.2.w, .int .i64 x.2.ts, .bool x.2.tomb, .string x.2.val], undef, undef, undef, undef, undef, undef, undef, undef, undef, undef, undef], defers := [] })
    (fun x a' s' X Y row hs hg hr => by
      obtain ⟨Bx, h1, h2, h3⟩ := hs
      exact ⟨Bx, h1, (blk_own _ (fun _ : Unit => _) _).from _ () X Y row h2 hg hr, h3⟩) ?assign ?body ?done ?stop
  case assign =>
    rintro l pre x W K ⟨⟨hp, c0, c1, c2⟩, hB⟩ hK
    have Hp := Lib.hid hp
    clear hp
    gi_wp2
    have hl := c2.lt
    exact hK _ _ ((KeepsOthers.alloc _ _).from _) (KpB.of_below ((Below.refl _ W).alloc (Nat.le_refl _) _) hB.size) ⟨⟨Hp.out, c0.alloc _, c1.alloc _, c2.alloc _⟩, hB.alloc hB.size _⟩ ⟨W.heap.size, by omega, Blk.new W _ _, rfl⟩
  case body =>
    rintro l pre x a' W hl _ ⟨⟨hp, c0, c1, c2⟩, hB⟩ ⟨Bx, hBx, cx, rfl⟩ _
    have Hp := Lib.hid hp
    clear hp
    have k0 := c0.cell 0
    have x0 := cx.cell 0
    have x1 := cx.cell 1
    have x2 := cx.cell 2
    have x3 := cx.cell 3
    have y0 := c1.cell 0
    have y1 := c1.cell 1
    have y2 := c1.cell 2
    have y3 := c1.cell 3
    have z0 := c2.cell 0
    simp only [vcells, List.getElem?_toArray, List.getElem?_cons_zero, List.getElem?_cons_succ] at k0 x0 x1 x2 x3 y0 y1 y2 y3 z0
    have f0 := c1.frozen 0
    have f1 := c1.frozen 1
    have f2 := c1.frozen 2
    have f3 := c1.frozen 3
    have g0 := c2.frozen 0
    by_cases he : x.2.ts ≤ s ∧ x.2.tomb = false
    · obtain ⟨h1, h2⟩ := he
      have h2' : (!x.2.tomb) = true := by rw [h2]; rfl
      have H2 := Lib.hid h2
      clear h2
      gi_wp2
      show ownPostG _ _ _ _ _ _ _ _ ((Yteelhldioaaffaa.setV W (w.heap.size + 1) x.2).setCell ⟨w.heap.size + 1 + 1, 0, none⟩ (.bool true))
      exact ⟨((keepsV _ _ _).trans (KeepsOthers.setCell _ _ _)).from _, ⟨rfl, pre, x, rfl, by omega, H2.out, (c1.setV _).other (by omega) _, (c2.otherV (by omega) _).set (j := 0) _⟩, (belowV hB (by omega) _).setCell (p := ⟨w.heap.size + 1 + 1, 0, none⟩) (by simp; omega) _⟩
    · have Hall : Hid (NoSeen s (pre ++ [x])) := fun p hp => by
        rcases List.mem_append.1 hp with h | h
        · exact Hp.out p h
        · rw [List.mem_singleton.1 h]; exact he
      by_cases h1 : x.2.ts ≤ s
      · have h2' : (!x.2.tomb) = false := by
          cases ht : x.2.tomb
          · exact absurd ⟨h1, ht⟩ he
          · rfl
        clear he
        gi_wp2
        exact ⟨KeepsFrom.refl _ _, KpB.refl _ _ _, ⟨Hall.out, c0, c1, c2⟩, hB⟩
      · clear he
        gi_wp2
        exact ⟨KeepsFrom.refl _ _, KpB.refl _ _ _, ⟨Hall.out, c0, c1, c2⟩, hB⟩
  case done =>
    rintro D ys W hD rfl ⟨⟨hall, c0, c1, c2⟩, hB⟩ hK
    have HR := Lib.hid (seen_no hall)
    clear hall
    have y0 := c1.cell 0
    have y1 := c1.cell 1
    have y2 := c1.cell 2
    have y3 := c1.cell 3
    have z0 := c2.cell 0
    simp only [vcells, ver0, List.getElem?_toArray, List.getElem?_cons_zero, List.getElem?_cons_succ] at y0 y1 y2 y3 z0
    have f0 := c1.frozen 0
    have f1 := c1.frozen 1
    have f2 := c1.frozen 2
    have f3 := c1.frozen 3
    have g0 := c2.frozen 0
    gi_wp2
    show bodyPostM _ _ _ _ _ _ _ ((Yteelhldioaaffaa.setV W (w.heap.size + 1) ver0).setCell ⟨w.heap.size + 1 + 1, 0, none⟩ (.bool false))
    have d1' := (c1.setV ver0).other (B' := w.heap.size + 1 + 1) (j := 0) (by omega) (.bool false)
    have d2' := (c2.otherV (B' := w.heap.size + 1) (by omega) ver0).set (j := 0) (.bool false)
    have hB2 := (belowV hB (B := w.heap.size + 1) (by omega) ver0).setCell (p := ⟨w.heap.size + 1 + 1, 0, none⟩) (by simp; omega) (.bool false)
    have hK2 := ((keepsV W (w.heap.size + 1) ver0).trans (KeepsOthers.setCell _ ⟨w.heap.size + 1 + 1, 0, none⟩ (.bool false))).same D _ hK rfl
    generalize (Yteelhldioaaffaa.setV W (w.heap.size + 1) ver0).setCell ⟨w.heap.size + 1 + 1, 0, none⟩ (.bool false) = W2 at *
    refine ⟨by simp, .inl ⟨_, _, rfl, run_takeDeferred hK2, ?_⟩⟩
    have d1 := blk_kept (o' := .deferred none) d1' hK2 rfl
    have d2 := blk_kept (o' := .deferred none) d2' hK2 rfl
    have y0 := d1.cell 0
    have y1 := d1.cell 1
    have y2 := d1.cell 2
    have y3 := d1.cell 3
    have z0 := d2.cell 0
    simp only [vcells, ver0, List.getElem?_toArray, List.getElem?_cons_zero, List.getElem?_cons_succ] at y0 y1 y2 y3
    change _ = some (Value.bool false) at z0
    refine ⟨.tuple #[ver0.agg, .bool false], ?_, ⟨by rw [HR.out.1, HR.out.2], hB2.trans (belowK_b (w := w) (Nat.le_refl _) W2 D _ _ (by have := Hsz1.out; omega) hK2 rfl rfl)⟩⟩
    simp [results, Try.f12, go_sem, y0, y1, y2, y3, z0, Ver.agg, ver0]
  case stop =>
    rintro D c pre W hD ⟨k, hk, hpre⟩ ⟨⟨rfl, ini, x, e1, e2, e2', c1, c2⟩, hB⟩ hK
    have HR := Lib.hid (seen_yes hk (hpre.symm.trans e1) e2 e2')
    clear e1 e2 e2' hpre
    gi_wp2
    refine ⟨by simp, .inl ⟨_, _, rfl, run_takeDeferred hK, ?_⟩⟩
    have d1 := blk_kept (o' := .deferred none) c1 hK rfl
    have d2 := blk_kept (o' := .deferred none) c2 hK rfl
    have y0 := d1.cell 0
    have y1 := d1.cell 1
    have y2 := d1.cell 2
    have y3 := d1.cell 3
    have z0 := d2.cell 0
    simp only [vcells, List.getElem?_toArray, List.getElem?_cons_zero, List.getElem?_cons_succ] at y0 y1 y2 y3 z0
    refine ⟨.tuple #[x.2.agg, .bool true], ?_, ⟨by rw [HR.out.1, HR.out.2], hB.trans (belowK_b (w := w) (Nat.le_refl _) W D _ _ (by have := Hsz1.out; omega) hK rfl rfl)⟩⟩
    simp [results, Try.f12, go_sem, y0, y1, y2, y3, z0, Ver.agg]
end Go.Proofs.Yteelhldioaaffaa
