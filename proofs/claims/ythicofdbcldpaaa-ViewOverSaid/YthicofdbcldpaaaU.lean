/- Rows of views, of bools, of slices, that the call made. -/
import Derived.Test.YthicofdbcldpaaaT
import Derived.Test.YthicofdbcldpaaaL
import Derived.Test.YthicofdbcldpaaaJ
import Derived.Deep.RegionLaw
namespace Go.Proofs.Ythicofdbcldpaaa
open Go.ChangeShapes Go.WideShapes Go.ChangeAt Go.RowKit Go.Shelf Go.Sort Go.Lib
set_option linter.unusedVariables false
set_option linter.unusedSimpArgs false
theorem v25info : (Try.prog.info? 25).map (fun i => (i.zero, i.size, i.bytes)) = some (some (.agg #[.int .i64 0, .int .i64 0, .slice none 0 0]), 3, 40) := by kernel_rfl
theorem v43info : (Try.prog.info? 43).map (fun i => (i.zero, i.size, i.bytes)) = some (some (.slice none 0 0), 1, 24) := by kernel_rfl
theorem v4info : (Try.prog.info? 4).map (fun i => (i.zero, i.size, i.bytes)) = some (some (.bool false), 1, 1) := by kernel_rfl
section
variable {W W' : World} {B B' : Nat} {e e' : TypeId} {sz sz' n n' : Nat} {v v' : Value} {xs xs' : List Value}
theorem row_tag (h : W.ownsRow B e sz v n xs) : ∀ k, v.ownBlock = some k → ∃ cur, W.heap[k]? = some (.cells cur e (0, 0)) := fun k hk => by
  rcases h.2 with ⟨rfl, _⟩ | ⟨g, cap, cur, rfl, hb, hg, _⟩
  · cases hk
  · cases hk; exact ⟨cur, hg⟩
/-- a row stays where another row, of another type, was turned -/
theorem row_kept (h : W.ownsRow B e sz v n xs) (k : W.ownsRow B' e' sz' v' n' xs') (he : e ≠ e') (hg : W.grownBy W' v'.ownBlock) : W'.ownsRow B e sz v n xs :=
  World.ownsRow.kept h hg (by
    cases hv : v.ownBlock with
    | none => exact .inl rfl
    | some g =>
      refine .inr (fun e2 => ?_)
      obtain ⟨c1, h1⟩ := row_tag h g hv
      obtain ⟨c2, h2⟩ := row_tag k g e2.symm
      rw [h1] at h2; cases h2; exact he rfl)
theorem row_later (h : W.ownsRow B e sz v n xs) (hb : Below W.heap.size W W') : W'.ownsRow B e sz v n xs :=
  World.ownsRow.kept h (row := none) ⟨hb.os, hb.tape, hb.output, hb.size, fun k hk _ => hb.block k hk⟩ (by cases v.ownBlock <;> simp)
theorem row_base (h : W.ownsRow B e sz v n xs) (hb : B' ≤ B) : W.ownsRow B' e sz v n xs := World.ownsRow.base_mono h hb
end
/-- the three cells of the view at a place -/
def vcell (i : Nat) (p : Nat × Nat) (b : List Int) : List Value :=
  [.int .i64 ((i + 1 : Nat) : Int), .int .i64 ((i + 1 : Nat) : Int), .slice (some ⟨p.1, 0, none⟩) (refOf ((i + 1 : Nat) : Int) ((i + 1 : Nat) : Int) b).length p.2]
def vflat (gs : List (Nat × Nat)) (vs : List (List Int)) : List Value := ((List.range vs.length).map fun i => vcell i (gs.getD i (0, 0)) (vs.getD i [])).flatten
theorem vflat_len (gs : List (Nat × Nat)) (vs : List (List Int)) : (vflat gs vs).length = vs.length * 3 := by
  unfold vflat
  have : ∀ n, ((List.range n).map fun i => vcell i (gs.getD i (0, 0)) (vs.getD i [])).flatten.length = n * 3 := by
    intro n
    induction n with
    | zero => rfl
    | succ n ih => rw [List.range_succ, List.map_append, List.flatten_append, List.length_append, ih]; simp [vcell]; omega
  exact this _
theorem flat_at (f : Nat → List Value) (hf : ∀ i, (f i).length = 3) (i j : Nat) (hj : j < 3) : ∀ n, i < n → (((List.range n).map f).flatten)[i * 3 + j]? = (f i)[j]? := by
  have hlen : ∀ n, (((List.range n).map f).flatten).length = n * 3 := by
    intro n
    induction n with
    | zero => rfl
    | succ n ih => rw [List.range_succ, List.map_append, List.flatten_append, List.length_append, ih]; simp [hf]; omega
  intro n
  induction n with
  | zero => intro h; omega
  | succ n ih =>
    intro h
    rw [List.range_succ, List.map_append, List.flatten_append]
    by_cases c : i < n
    · rw [List.getElem?_append_left (by rw [hlen]; omega)]; exact ih c
    · obtain rfl : i = n := by omega
      rw [List.getElem?_append_right (by rw [hlen]; omega), hlen]
      simp
theorem vflat_at {gs : List (Nat × Nat)} {vs : List (List Int)} {i j : Nat} (hi : i < vs.length) (hj : j < 3) : (vflat gs vs)[i * 3 + j]? = (vcell i (gs.getD i (0, 0)) (vs.getD i []))[j]? :=
  flat_at (fun i => vcell i (gs.getD i (0, 0)) (vs.getD i [])) (fun i => rfl) i j hj vs.length hi
theorem vflat_snoc {gs : List (Nat × Nat)} {vs : List (List Int)} (h : gs.length = vs.length) (p : Nat × Nat) (b : List Int) : vflat (gs ++ [p]) (vs ++ [b]) = vflat gs vs ++ vcell vs.length p b := by
  unfold vflat
  rw [List.length_append, List.length_singleton, List.range_succ, List.map_append, List.flatten_append]
  have e1 : (gs ++ [p]).getD vs.length (0, 0) = p := by rw [getD_snoc, if_neg (by omega), if_pos h.symm]
  have e2 : (vs ++ [b]).getD vs.length [] = b := by rw [getD_snoc, if_neg (by omega), if_pos rfl]
  congr 1
  · congr 1
    apply List.map_congr_left
    intro i hi
    have hi' := List.mem_range.1 hi
    rw [getD_snoc, getD_snoc, if_pos (by omega), if_pos hi']
  · simp only [List.map_cons, List.map_nil, List.flatten_cons, List.flatten_nil, List.append_nil, e1, e2]
/-- the memory of the views, of what was over, of who is busy -/
def RowV (W : World) (B : Nat) (v : Value) (gs : List (Nat × Nat)) (vs : List (List Int)) : Prop := W.ownsRow B 25 3 v vs.length (vflat gs vs)
def RowB (W : World) (B : Nat) (v : Value) (bs : List Bool) : Prop := W.ownsRow B 4 1 v bs.length (bs.map Value.bool)
def RowS (W : World) (B : Nat) (v : Value) (es : List Value) : Prop := W.ownsRow B 43 1 v es.length es
structure MR (w0 : World) (g7 N : Nat) (s : Ov) (V4 V5 V6 : Value) (gs : List (Nat × Nat)) (es : List Value) (W : World) : Prop where
  below : Below w0.heap.size w0 W
  lo : w0.heap.size ≤ g7
  over : RowB W w0.heap.size (.slice (some ⟨g7, 0, none⟩) (N + 2) (N + 2)) s.over
  busy : OwnL W (g7 + 1) V4 s.busy.length s.busy
  gl : gs.length = s.views.length
  rv : RowV W (g7 + 1) V5 gs s.views
  own : ∀ i, i < s.views.length → Own W (g7 + 1) (gs.getD i (0, 0)).1 (gs.getD i (0, 0)).2 (refOf ((i + 1 : Nat) : Int) ((i + 1 : Nat) : Int) (s.views.getD i []))
  sl : es.length = s.ended.length
  rs : RowS W (g7 + 1) V6 es
  rb : ∀ i, i < s.ended.length → RowB W (g7 + 1) (es.getD i (.slice none 0 0)) (s.ended.getD i [])
section
variable {w0 W W' : World} {g7 N : Nat} {s : Ov} {V4 V5 V6 V' : Value} {gs : List (Nat × Nat)} {es : List Value}
theorem MR.later (h : MR w0 g7 N s V4 V5 V6 gs es W) (hb : Below W.heap.size W W') : MR w0 g7 N s V4 V5 V6 gs es W' :=
  ⟨stepB h.below hb, h.lo, row_later h.over hb, row_later h.busy hb, h.gl, row_later h.rv hb, fun i hi => row_later (h.own i hi) hb, h.sl, row_later h.rs hb, fun i hi => row_later (h.rb i hi) hb⟩
theorem MR.lt (h : MR w0 g7 N s V4 V5 V6 gs es W) : g7 < W.heap.size := (World.ownsRow.lt h.over g7 rfl).2
theorem MR.view {p : Nat × Nat} {b : List Int} (h : MR w0 g7 N s V4 V5 V6 gs es W) (hO : Own W (g7 + 1) p.1 p.2 (refOf ((s.views.length + 1 : Nat) : Int) ((s.views.length + 1 : Nat) : Int) b))
    (hR : RowV W' (g7 + 1) V' (gs ++ [p]) (s.views ++ [b])) (hg : W.grownBy W' V5.ownBlock) : MR w0 g7 N ⟨s.busy, s.views ++ [b], s.ended, s.over⟩ V4 V' V6 (gs ++ [p]) es W' :=
  ⟨h.below.grown hg h.below.size (fun g e => by have := (World.ownsRow.lt h.rv g e).1; have := h.lo; omega), h.lo, row_kept h.over h.rv (by decide) hg, row_kept h.busy h.rv (by decide) hg, by rw [List.length_append, List.length_append, h.gl]; rfl, hR, fun i hi => by
    have hi' : i < s.views.length + 1 := by simpa using hi
    show Own W' _ ((gs ++ [p]).getD i (0, 0)).1 ((gs ++ [p]).getD i (0, 0)).2 (refOf _ _ ((s.views ++ [b]).getD i []))
    rw [getD_snoc, getD_snoc, h.gl]
    by_cases c : i < s.views.length
    · rw [if_pos c, if_pos c]; exact row_kept (h.own i c) h.rv (by decide) hg
    · obtain rfl : i = s.views.length := by omega
      rw [if_neg c, if_pos rfl, if_neg c, if_pos rfl]; exact row_kept hO h.rv (by decide) hg, h.sl, row_kept h.rs h.rv (by decide) hg, fun i hi => row_kept (h.rb i hi) h.rv (by decide) hg⟩
theorem MR.slice {u : Value} (h : MR w0 g7 N s V4 V5 V6 gs es W) (hB : RowB W (g7 + 1) u s.over)
    (hR : RowS W' (g7 + 1) V' (es ++ [u])) (hg : W.grownBy W' V6.ownBlock) : MR w0 g7 N ⟨s.busy, s.views, s.ended ++ [s.over], s.over⟩ V4 V5 V' gs (es ++ [u]) W' :=
  ⟨h.below.grown hg h.below.size (fun g e => by have := (World.ownsRow.lt h.rs g e).1; have := h.lo; omega), h.lo, row_kept h.over h.rs (by decide) hg, row_kept h.busy h.rs (by decide) hg, h.gl, row_kept h.rv h.rs (by decide) hg, fun i hi => row_kept (h.own i hi) h.rs (by decide) hg,
    by rw [List.length_append, List.length_append, h.sl]; rfl, hR, fun i hi => by
    have hi' : i < s.ended.length + 1 := by simpa using hi
    show RowB W' _ ((es ++ [u]).getD i _) ((s.ended ++ [s.over]).getD i [])
    rw [getD_snoc, getD_snoc, h.sl]
    by_cases c : i < s.ended.length
    · rw [if_pos c, if_pos c]; exact row_kept (h.rb i c) h.rs (by decide) hg
    · obtain rfl : i = s.ended.length := by omega
      rw [if_neg c, if_pos rfl, if_neg c, if_pos rfl]; exact row_kept hB h.rs (by decide) hg⟩
theorem MR.turn {b : List Int} (h : MR w0 g7 N s V4 V5 V6 gs es W) (hB : OwnL W (g7 + 1) V' b.length b) : MR w0 g7 N ⟨b, s.views, s.ended, s.over⟩ V' V5 V6 gs es W :=
  ⟨h.below, h.lo, h.over, hB, h.gl, h.rv, h.own, h.sl, h.rs, h.rb⟩
theorem MR.set (h : MR w0 g7 N s V4 V5 V6 gs es W) (j : Nat) : MR w0 g7 N ⟨s.busy, s.views, s.ended, s.over.set j true⟩ V4 V5 V6 gs es (W.setCell ⟨g7, j, none⟩ (.bool true)) := by
  have hl : s.over.length = N + 2 := by
    rcases h.over.2 with ⟨e, _⟩ | ⟨g, cap, cur, e, _⟩
    · cases e
    · injection e with _ e2 _; exact e2.symm
  have ho := h.over
  unfold RowB at ho
  rw [hl] at ho
  have hs := World.ownsRow.stored ho j (.bool true)
  have hg : W.grownBy (W.setCell ⟨g7, j, none⟩ (.bool true)) (Value.ownBlock (.slice (some ⟨g7, 0, none⟩) (N + 2) (N + 2))) := hs.2
  refine ⟨h.below.grown hg h.below.size (fun g e => by cases e; exact h.lo), h.lo, ?_, row_kept h.busy h.over (by decide) hg, h.gl, row_kept h.rv h.over (by decide) hg, fun i hi => row_kept (h.own i hi) h.over (by decide) hg, h.sl, row_kept h.rs h.over (by decide) hg, fun i hi => ?_⟩
  · show RowB _ _ _ _
    unfold RowB
    show World.ownsRow _ _ _ _ _ (s.over.set j true).length ((s.over.set j true).map Value.bool)
    rw [List.length_set, List.map_set, hl]; exact hs.1
  · refine World.ownsRow.kept (h.rb i hi) hg ?_
    cases hv : (es.getD i (.slice none 0 0)).ownBlock with
    | none => exact .inl rfl
    | some g => exact .inr (fun e => by cases e; have h2 : g7 + 1 ≤ g7 := (World.ownsRow.lt (h.rb i hi) _ hv).1; omega)
end
section
variable {w : World} {ops : Array Oper} {rest : List Oper} {o : Oper} {a : Act} {Q : Exit → Act → World → Prop}
theorem wpList_append_view (hgd : o.guard = none) (s x : Operand) (ho : o.op = .call { callee := .builtin .append, args := #[s, x], argTypes := #[41, 41] })
    (B : Nat) (v : Value) (gs : List (Nat × Nat)) (vs : List (List Int)) (p : Nat × Nat) (b : List Int) (hl : gs.length = vs.length) (hs : a.eval s = v) (hown : RowV w B v gs vs)
    (g : Nat) (hx : a.eval x = .slice (some ⟨g, 0, none⟩) 1 1) (hc : Blk w g (vcell vs.length p b).toArray 25) (hb : vs.length ≤ 1000) (hbase : B ≤ w.heap.size)
    (h : ∀ v' w', RowV w' B v' (gs ++ [p]) (vs ++ [b]) → w.grownBy w' v.ownBlock → wpList Try.prog ops Q rest (a.put o.dst v') w') :
    wpList Try.prog ops Q (o :: rest) a w := by
  obtain ⟨i0, hi, hz0, hz1, hz2⟩ := info_parts v25info
  refine wpList_append_own w hgd s x 41 ho B 25 i0 _ 3 40 Try.underlying41 hi hz0 hz1 hz2 rfl (by decide) v vs.length _ hs hown ⟨g, 0, none⟩ 1 1 (vcell vs.length p b) hx rfl (fun j u hu => ?_) ?_ (by unfold maxLen; omega) (by omega) hbase (fun v' w' h1 h2 _ => h v' w' ?_ h2)
  · rw [add_plain, Nat.zero_add, hc.cell]
    simpa using hu
  · intro u hu; simp [vcell] at hu; rcases hu with rfl | rfl <;> rfl
  · unfold RowV; rw [vflat_snoc hl, List.length_append, List.length_singleton]; exact h1
theorem wpList_append_slice (hgd : o.guard = none) (s x : Operand) (ho : o.op = .call { callee := .builtin .append, args := #[s, x], argTypes := #[42, 42] })
    (B : Nat) (v : Value) (es : List Value) (u : Value) (hs : a.eval s = v) (hown : RowS w B v es)
    (g : Nat) (hx : a.eval x = .slice (some ⟨g, 0, none⟩) 1 1) (hc : Blk w g #[u] 43) (hu1 : u.oneCell' = true) (hb : es.length ≤ 1000) (hbase : B ≤ w.heap.size)
    (h : ∀ v' w', RowS w' B v' (es ++ [u]) → w.grownBy w' v.ownBlock → wpList Try.prog ops Q rest (a.put o.dst v') w') :
    wpList Try.prog ops Q (o :: rest) a w := by
  obtain ⟨i0, hi, hz0, hz1, hz2⟩ := info_parts v43info
  refine wpList_append_own w hgd s x 42 ho B 43 i0 _ 1 24 Try.underlying42 hi hz0 hz1 hz2 rfl (by decide) v es.length _ hs hown ⟨g, 0, none⟩ 1 1 [u] hx rfl (fun j u2 hu => ?_) ?_ (by unfold maxLen; omega) (by omega) hbase (fun v' w' h1 h2 _ => h v' w' ?_ h2)
  · rw [add_plain, Nat.zero_add, hc.cell]
    simpa using hu
  · intro u2 hu; simp at hu; subst hu; exact hu1
  · unfold RowS; rw [List.length_append, List.length_singleton]; exact h1
/-- bools that the call made, put behind nothing -/
theorem wpList_append_bools (hgd : o.guard = none) (s x : Operand) (ho : o.op = .call { callee := .builtin .append, args := #[s, x], argTypes := #[43, 43] })
    (B B2 : Nat) (v : Value) (bs : List Bool) (hs : a.eval s = v) (hown : w.ownsRow B 4 1 v 0 [])
    (g m cap : Nat) (hm : bs.length = m) (hx : a.eval x = .slice (some ⟨g, 0, none⟩) m cap) (hc : RowB w B2 (.slice (some ⟨g, 0, none⟩) m cap) bs) (hb : bs.length ≤ 1000) (hbase : B ≤ w.heap.size)
    (h : ∀ v' w', RowB w' B v' bs → w.grownBy w' v.ownBlock → wpList Try.prog ops Q rest (a.put o.dst v') w') :
    wpList Try.prog ops Q (o :: rest) a w := by
  subst hm
  obtain ⟨i0, hi, hz0, hz1, hz2⟩ := info_parts v4info
  refine wpList_append_own w hgd s x 43 ho B 4 i0 _ 1 1 Try.underlying43 hi hz0 hz1 hz2 rfl (by decide) v 0 _ hs hown ⟨g, 0, none⟩ bs.length cap (bs.map Value.bool) hx (by simp) (fun j u2 hu => ?_) ?_ (by unfold maxLen; omega) (by omega) hbase (fun v' w' h1 h2 _ => h v' w' ?_ h2)
  · have hj : j < bs.length := by
      by_cases c : j < bs.length
      · exact c
      · rw [List.getElem?_eq_none (by simp; omega)] at hu; cases hu
    rw [add_plain, Nat.zero_add, World.ownsRow.cellAt hc j (by omega)]
    exact hu
  · intro u2 hu; obtain ⟨b, _, rfl⟩ := List.mem_map.1 hu; rfl
  · rw [Nat.zero_add, List.nil_append] at h1; exact h1
end
theorem step_append_ints {ops : Array Oper} {o : Oper} {a : Act} {w : World} {K : Act → World → Prop} {Q : Exit → Act → World → Prop} {E : Prop} (hgd : o.guard = none) (s x : Operand)
    (ho : o.op = .call { callee := .builtin .append, args := #[s, x], argTypes := #[23, 23] })
    (B : Nat) (v : Value) (n : Nat) (xs : List Int) (hs : a.eval s = v) (hown : OwnL w B v n xs)
    (A : Option Addr) (m c : Nat) (ys : List Int) (hx : a.eval x = .slice A m c) (n₀ : Nat) (hy : Sl n₀ w A m c ys) (hb : n + m ≤ 2000000) (hbase : B ≤ w.heap.size)
    (h : ∀ v' w', OwnL w' B v' (n + m) (xs ++ ys) → w.grownBy w' v.ownBlock → K (a.put o.dst v') w') :
    if Region.wanted o (yielded ops a.tmps) = true then Oper.wp Try.prog o a w K Q else E := by
  have hw : Region.wanted o (yielded ops a.tmps) = true := by simp [Region.wanted, hgd]
  rw [if_pos hw]
  obtain ⟨i0, hi, hz0, hz1, hz2⟩ := info_parts v3info
  cases A with
  | none =>
    obtain ⟨rfl, rfl⟩ := hy.nil rfl
    have hrun := run_append_owned_none (P := Try.prog) (w := w) B 23 o.type 3 i0 1 Try.underlying23 hi v n _ hown
    have hys : ys = [] := List.eq_nil_of_length_eq_zero hy.ints.1
    have hh := h v w (by rw [hys, List.append_nil]; exact hown) (World.grownBy.refl _ _)
    unfold Oper.wp
    simp [execOp, ho, resolve, invoke, builtin, hs, hx, hrun, Result.andThen]
    exact hh
  | some ad =>
    refine wp_append_own w s x 23 ho B 3 i0 _ 1 8 Try.underlying23 hi hz0 hz1 hz2 rfl (by decide) v n _ hs hown ad m c (ys.map (Value.int .i64)) hx (by rw [List.length_map, hy.ints.1, Nat.mul_one]) (fun j u hu => ?_) (ints_oneCell .i64 ys) (by unfold maxLen; omega) (by omega) hbase (fun v' w' h1 h2 _ => h v' w' (by unfold OwnL; rw [List.map_append]; exact h1) h2)
    have hj : j < m := by
      rw [List.getElem?_map] at hu
      have hl := hy.ints.1
      by_cases hj : j < m
      · exact hj
      · rw [List.getElem?_eq_none (by omega)] at hu; cases hu
    obtain ⟨g, off, hA, hg, hcell⟩ := hy.ints.2 (by omega)
    cases hA
    rw [add_plain, hcell j hj, ← hu, List.getElem?_map, List.getD_eq_getElem?_getD, List.getElem?_eq_getElem (by have := hy.ints.1; omega)]; rfl
theorem idx40 (g off m c k : Nat) (h : k < m) (W : World) : (Instr.indexAt 40 (.slice (some ⟨g, off, none⟩) m c) (.int .i64 (k : Int))).run Try.prog W = .ok (.pointer (some ⟨g, off + k, none⟩)) W := by
  have h1 : (0 : Int) ≤ (k : Int) ∧ (k : Int) < (m : Int) := by omega
  go_simp
theorem idx41 (g m c k : Nat) (h : k < m) (W : World) : (Instr.indexAt 41 (.slice (some ⟨g, 0, none⟩) m c) (.int .i64 (k : Int))).run Try.prog W = .ok (.pointer (some ⟨g, k * 3, none⟩)) W := by
  have h1 : (0 : Int) ≤ (k : Int) ∧ (k : Int) < (m : Int) := by omega
  go_simp
theorem idx42 (g m c k : Nat) (h : k < m) (W : World) : (Instr.indexAt 42 (.slice (some ⟨g, 0, none⟩) m c) (.int .i64 (k : Int))).run Try.prog W = .ok (.pointer (some ⟨g, k, none⟩)) W := by
  have h1 : (0 : Int) ≤ (k : Int) ∧ (k : Int) < (m : Int) := by omega
  go_simp
theorem idx43 (g m c k : Nat) (h : k < m) (W : World) : (Instr.indexAt 43 (.slice (some ⟨g, 0, none⟩) m c) (.int .i64 (k : Int))).run Try.prog W = .ok (.pointer (some ⟨g, k, none⟩)) W := by
  have h1 : (0 : Int) ≤ (k : Int) ∧ (k : Int) < (m : Int) := by omega
  go_simp
/-- what a row of views is, and its cells at a place -/
theorem rowv_at {W : World} {B i : Nat} {v : Value} {gs : List (Nat × Nat)} {vs : List (List Int)} (h : RowV W B v gs vs) (hi : i < vs.length) :
    ∃ g cap, v = .slice (some ⟨g, 0, none⟩) vs.length cap ∧ W.cell? ⟨g, i * 3, none⟩ = some (.int .i64 ((i + 1 : Nat) : Int)) ∧ W.cell? ⟨g, i * 3 + 1, none⟩ = some (.int .i64 ((i + 1 : Nat) : Int)) ∧
      W.cell? ⟨g, i * 3 + 1 + 1, none⟩ = some (.slice (some ⟨(gs.getD i (0, 0)).1, 0, none⟩) (refOf ((i + 1 : Nat) : Int) ((i + 1 : Nat) : Int) (vs.getD i [])).length (gs.getD i (0, 0)).2) := by
  rcases h.2 with ⟨e, e2⟩ | ⟨g, cap, cur, rfl, _⟩
  · omega
  · refine ⟨g, cap, rfl, ?_, ?_, ?_⟩
    · rw [World.ownsRow.cellAt h (i * 3) (by omega)]; exact vflat_at (j := 0) hi (by omega)
    · rw [World.ownsRow.cellAt h (i * 3 + 1) (by omega)]; exact vflat_at (j := 1) hi (by omega)
    · rw [World.ownsRow.cellAt h (i * 3 + 1 + 1) (by omega)]; exact vflat_at (j := 2) hi (by omega)
theorem rows_at {W : World} {B i : Nat} {v : Value} {es : List Value} (h : RowS W B v es) (hi : i < es.length) :
    ∃ g cap, v = .slice (some ⟨g, 0, none⟩) es.length cap ∧ W.cell? ⟨g, i, none⟩ = some (es.getD i (.slice none 0 0)) := by
  rcases h.2 with ⟨e, e2⟩ | ⟨g, cap, cur, rfl, _⟩
  · omega
  · exact ⟨g, cap, rfl, by rw [World.ownsRow.cellAt h i (by omega), List.getD_eq_getElem?_getD, List.getElem?_eq_getElem hi]; rfl⟩
theorem rowb_at {W : World} {B i : Nat} {v : Value} {bs : List Bool} (h : RowB W B v bs) (hi : i < bs.length) :
    ∃ g cap, v = .slice (some ⟨g, 0, none⟩) bs.length cap ∧ W.cell? ⟨g, i, none⟩ = some (.bool (bs.getD i false)) := by
  rcases h.2 with ⟨e, e2⟩ | ⟨g, cap, cur, rfl, _⟩
  · omega
  · exact ⟨g, cap, rfl, by rw [World.ownsRow.cellAt h i (by omega), List.getElem?_map, List.getD_eq_getElem?_getD, List.getElem?_eq_getElem hi]; rfl⟩
theorem rowb_one {W : World} {B : Nat} {v : Value} {bs : List Bool} (h : RowB W B v bs) : v.oneCell' = true := by
  rcases h.2 with ⟨rfl, _⟩ | ⟨g, cap, cur, rfl, _⟩ <;> rfl
section
variable {H : Type} {enc : TypeId × Value → H}
theorem cells5 : Try.prog.cellsOf 5 = 1 := by kernel_rfl
/-- a slice that reads as bytes -/
def Bts (W : World) (A : Option Addr) (n : Nat) (xs : List Int) : Prop :=
  xs.length = n ∧ (0 < n → ∃ g off, A = some ⟨g, off, none⟩ ∧ g < W.heap.size ∧ ∀ j, j < n → W.cell? ⟨g, off + j, none⟩ = some (.int .u8 (xs.getD j 0)))
theorem Bts.later {W W' : World} {A : Option Addr} {n : Nat} {xs : List Int} (h : Bts W A n xs) (hb : Below W.heap.size W W') : Bts W' A n xs :=
  ⟨h.1, fun hn => by
    obtain ⟨g, off, hA, hg, hc⟩ := h.2 hn
    exact ⟨g, off, hA, Nat.lt_of_lt_of_le hg hb.size, fun j hj => (hb.cell (p := ⟨g, off + j, none⟩) hg).trans (hc j hj)⟩⟩
theorem open_bts {W : World} {base : Nat} {v : Value} {d : DataW H} {ps : List MemPlace}
    (hval : Value.okWide Try.prog W .any base 40 v) (h : DataW.Trod enc Try.prog W 0 (fun _ => true) true 40 v d ps) :
    ∃ A n c xs, v = .slice A n c ∧ Bts W A n xs ∧ n ≤ maxLen ∧ ∀ x ∈ xs, 0 ≤ x ∧ x ≤ 255 := by
  obtain ⟨A, n, c, rfl⟩ := okWide_slice Try.underlying40 hval
  obtain ⟨fuel, hf⟩ := h
  rcases open_ints Try.underlying40 Try.underlying5 cells5 hf with ⟨e, _⟩ | ⟨a, len, cap, zs, e, _, hl, hm, hz, hx, hcell, hwf⟩
  · simp [Value.cells] at e
    obtain ⟨rfl, rfl, rfl⟩ := e
    exact ⟨none, 0, 0, [], rfl, ⟨rfl, fun h => by omega⟩, Nat.zero_le _, fun v hv => by cases hv⟩
  · simp [Value.cells] at e
    obtain ⟨rfl, rfl, rfl⟩ := e
    simp only [if_true] at hz
    have hlen : (zs.take n).length = n := by simp; omega
    refine ⟨some a, n, c, zs.take n, rfl, ⟨hlen, fun hn => ?_⟩, by omega, fun v hv => ?_⟩
    · obtain ⟨b, off, spot⟩ := a
      have h0 := hcell 0 (by omega)
      have hspot : spot = none := by simpa [Addr.add] using World.cell?_spot h0
      subst hspot
      rw [add_plain] at h0
      refine ⟨b, off, rfl, lt_of_cell h0, fun j hj => ?_⟩
      rw [← add_plain, hcell j (by omega), List.getD_eq_getElem?_getD, List.getD_eq_getElem?_getD, List.getElem?_take_of_lt hj]
    · have h2 := hwf v (List.mem_of_mem_take hv)
      have em : IntKind.u8.min = 0 := by decide
      have ex : IntKind.u8.max = 255 := by decide
      simp [Lit.wf] at h2
      omega
end
end Go.Proofs.Ythicofdbcldpaaa
