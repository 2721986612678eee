/- What turns a log in memory. -/
import Derived.Test.YtoinjnocopejjaaLE
namespace Go.Proofs.Ytoinjnocopejjaa
open Go.ChangeShapes Go.WideShapes Go.ChangeAt Go.RowKit Go.Maps
set_option linter.unusedVariables false
set_option linter.unusedSimpArgs false
theorem LgK.tr {B : Nat} {W W' W2 : World} (h : LgK B W W') (k : LgK B W' W2) : LgK B W W2 := h.trans k (fun i hi ht => by
  by_cases hl : LTag W i
  · exact .inl hl
  · have e := h.block i hi (.inr hl)
    obtain ⟨cur, t, hc, hx⟩ := ht
    exact absurd ⟨cur, t, by rw [← e]; exact hc, hx⟩ hl)
theorem LgK.grown {α : Type} {enc : α → List Value} {k e n B : Nat} {W W' : World} {v : Value} {L : List α} (hr : ROwn enc k W B e v n L) (he : e = 73 ∨ e = 75) (hg : W.grownBy W' v.ownBlock) : LgK B W W' :=
  ⟨hg.os, hg.tape, hg.output, hg.size, fun i hi hn => hg.block i hi (fun e2 => by
    obtain ⟨cur, hc⟩ := hr.tag i e2.symm
    have hB := (hr.lt i e2.symm).1
    rcases hn with hn | hn
    · omega
    · exact hn ⟨cur, e, hc, by rcases he with he | he; exact .inr (.inl he); exact .inr (.inr he)⟩)⟩
theorem LgK.cell {B q j : Nat} {W : World} {u : Value} (hB : B ≤ q) (ht : LTag W q) : LgK B W (W.setCell ⟨q, j, none⟩ u) :=
  ⟨rfl, rfl, rfl, by simp, fun i hi hn => Below.heap_setCell W ⟨q, j, none⟩ u i (fun e => by
    have e : i = q := e
    subst e
    rcases hn with hn | hn
    · omega
    · exact hn ht)⟩
def obN (A : Option Addr) : Option Nat := (Value.slice A 0 0).ownBlock
theorem ap_set {l : List (Option Addr)} (h : l.Pairwise fun a b => ∀ k : Nat, obN a = some k → obN b ≠ some k) {j N : Nat} (hj : j < l.length) {a' : Option Addr} (hN : ∀ a ∈ l, ∀ k, obN a = some k → k < N) (ha : ∀ k, obN a' = some k → obN l[j] = some k ∨ N ≤ k) : (l.set j a').Pairwise fun a b => ∀ k : Nat, obN a = some k → obN b ≠ some k := by
  rw [List.pairwise_iff_getElem] at h ⊢
  intro i1 i2 h1 h2 h12 k hk
  rw [List.length_set] at h1 h2
  rw [List.getElem_set] at hk ⊢
  by_cases e1 : j = i1
  · rw [if_pos e1] at hk
    have hne : ¬ j = i2 := by omega
    rw [if_neg hne]
    intro e3
    rcases ha k hk with e4 | e4
    · exact h j i2 hj h2 (by omega) k e4 e3
    · have := hN _ (List.getElem_mem h2) k e3; omega
  · rw [if_neg e1] at hk
    by_cases e2 : j = i2
    · rw [if_pos e2]
      intro e3
      rcases ha k e3 with e4 | e4
      · exact h i1 j h1 hj (by omega) k hk e4
      · have := hN _ (List.getElem_mem h1) k hk; omega
    · rw [if_neg e2]
      exact h i1 i2 h1 h2 h12 k hk
section
variable {W W1 : World} {B p : Nat} {g : Lg} {x : LX}
theorem LgAt.heads (h : LgAt W B p g x) : ∀ a ∈ x.fA :: x.hs.map (·.1), ∀ k, obN a = some k → k < W.heap.size := fun a ha k hk => by
  rcases List.mem_cons.1 ha with rfl | ha
  · exact (h.tags k (.inr (.inl hk))).2.1
  · obtain ⟨y, hy, rfl⟩ := List.mem_map.1 ha
    exact (h.tags k (.inr (.inr (.inr ⟨y, hy, hk⟩)))).2.1
/-- where two rows of a log are apart -/
theorem LgAt.far (h : LgAt W B p g x) {i j : Nat} {a b : Option Addr × Nat} (hi : x.hs[i]? = some a) (hj : x.hs[j]? = some b) (hne : i ≠ j) {k : Nat} (ha : obN a.1 = some k) : obN b.1 ≠ some k := by
  have hp := List.pairwise_iff_getElem.1 (List.pairwise_cons.1 h.ap).2
  have hil := (List.getElem?_eq_some_iff.1 hi)
  have hjl := (List.getElem?_eq_some_iff.1 hj)
  obtain ⟨hil, rfl⟩ := hil
  obtain ⟨hjl, rfl⟩ := hjl
  have e : ∀ n (hn : n < x.hs.length), (x.hs.map (·.1))[n]'(by rw [List.length_map]; exact hn) = (x.hs[n]).1 := fun n hn => List.getElem_map _
  rcases Nat.lt_or_gt_of_ne hne with h1 | h1
  · have := hp i j (by rw [List.length_map]; exact hil) (by rw [List.length_map]; exact hjl) h1 k
    rw [e i hil, e j hjl] at this
    exact this ha
  · intro hb
    have := hp j i (by rw [List.length_map]; exact hjl) (by rw [List.length_map]; exact hil) h1 k
    rw [e j hjl, e i hil] at this
    exact this hb ha
theorem gl_at {i : Nat} (hi : i < g.lives.length) : g.lives[i]? = some (gl g i) := by
  unfold gl; rw [List.getD_eq_getElem?_getD, List.getElem?_eq_getElem hi]; rfl
theorem zip_at {i : Nat} {hd : Option Addr × Nat} (hi : i < g.lives.length) (hh : x.hs[i]? = some hd) : (g.lives.zip x.hs)[i]? = some (gl g i, hd) := by
  rw [List.getElem?_zip_eq_some]; exact ⟨gl_at hi, hh⟩
theorem zip_set {α β : Type} : ∀ (l : List α) (m : List β) (i : Nat) (a : α) (b : β), (l.zip m).set i (a, b) = (l.set i a).zip (m.set i b)
  | [], m, i, a, b => by simp
  | c :: l, [], i, a, b => by
    rw [List.set_nil, List.zip_nil_right, List.zip_nil_right]; rfl
  | c :: l, d :: m, 0, a, b => rfl
  | c :: l, d :: m, i + 1, a, b => by
    show (c, d) :: (l.zip m).set i (a, b) = (c, d) :: (l.set i a).zip (m.set i b)
    rw [zip_set l m i a b]
theorem LgAt.lA (h : LgAt W B p g x) {i : Nat} (hi : i < g.lives.length) {b off : Nat} (e : x.lA = some ⟨b, off, none⟩) : (Value.slice x.lA g.lives.length x.lc).ownBlock = some b ∧ off = 0 := by
  have h2 := h.li.2.2
  rw [e] at h2 ⊢
  rcases h2 with ⟨e1, e2⟩ | ⟨g', cap, cur, e1, _⟩
  · cases e1
  · cases e1; exact ⟨rfl, rfl⟩
/-- a life ends -/
theorem LgAt.over (h : LgAt W B p g x) {i : Nat} (hi : i < g.lives.length) {b off : Nat} (e : x.lA = some ⟨b, off, none⟩) (at_ : Int) : LgAt (W.setCell ⟨b, off + i * 6 + 5, none⟩ (.int .i64 at_)) B p (overW g i at_) x ∧ LgK B W (W.setCell ⟨b, off + i * 6 + 5, none⟩ (.int .i64 at_)) := by
  obtain ⟨eb, rfl⟩ := h.lA hi e
  rw [Nat.zero_add]
  have eb2 : obN x.lA = some b := by rw [← eb, ob_eq]; rfl
  obtain ⟨hB, hlt, htag⟩ := h.tags b (.inr (.inr (.inl eb2)))
  have hih : i < x.hs.length := by rw [h.hl]; exact hi
  have hll : (overW g i at_).lives.length = g.lives.length := List.length_set ..
  have hbt : ∃ cur, Blk W b cur 73 := h.li.tag b eb
  obtain ⟨cur, hbk⟩ := hbt
  have hset := h.li.setC lfE_len (g := b) (j := i) (i := 5) (u := .int .i64 at_) (x := (gl g i, x.hs[i])) (x' := ({ gl g i with over := at_ }, x.hs[i])) eb (zip_at hi (List.getElem?_eq_getElem hih)) (by decide) rfl
  have ez : (g.lives.zip x.hs).set i ({ gl g i with over := at_ }, x.hs[i]) = (overW g i at_).lives.zip x.hs := by
    rw [zip_set, List.set_getElem_self hih]; rfl
  rw [ez] at hset
  refine ⟨⟨h.hp, ?_, rown_setO h.fa hbk (by decide), ?_, h.hl.trans hll.symm, fun j y l h1 h2 => ?_, h.ap⟩, LgK.cell hB htag⟩
  · rw [hll]
    exact h.blk.other (fun e2 => by
      subst e2
      have h3 : W.heap[p]? = some (.cells _ 61 (0, 0)) := h.blk
      rw [show W.heap[p]? = some (.cells cur 73 (0, 0)) from hbk] at h3
      simp only [Option.some.injEq, Obj.cells.injEq] at h3
      exact absurd h3.2.1 (by decide)) _
  · rw [hll]; exact hset
  · have h2 : (g.lives.set i { gl g i with over := at_ })[j]? = some l := h2
    rw [List.getElem?_set] at h2
    by_cases e2 : i = j
    · subst e2
      rw [if_pos rfl, if_pos hi] at h2
      cases h2
      exact rown_setO (h.ws i y (gl g i) h1 (gl_at hi)) hbk (by decide)
    · rw [if_neg e2] at h2
      exact rown_setO (h.ws j y l h1 h2) hbk (by decide)
/-- a write more -/
theorem LgAt.wrote (h : LgAt W B p g x) {i : Nat} (hi : i < g.lives.length) {hd : Option Addr × Nat} (hh : x.hs[i]? = some hd) {f : Fc} {A' : Option Addr} {c' : Nat} (ho : ROwn fcE 4 W1 B 75 (.slice A' ((gl g i).ws.length + 1) c') ((gl g i).ws.length + 1) ((gl g i).ws ++ [f])) (hg : W.grownBy W1 (Value.slice hd.1 (gl g i).ws.length hd.2).ownBlock)
    (hn : ∀ j, (Value.slice A' ((gl g i).ws.length + 1) c').ownBlock = some j → (Value.slice hd.1 (gl g i).ws.length hd.2).ownBlock = some j ∨ W.heap.size ≤ j) {b off : Nat} (e : x.lA = some ⟨b, off, none⟩) :
    LgAt (W1.setCell ⟨b, off + i * 6 + 3, none⟩ (.slice A' ((gl g i).ws.length + 1) c')) B p (addW g i f) { x with hs := x.hs.set i (A', c') } ∧ LgK B W (W1.setCell ⟨b, off + i * 6 + 3, none⟩ (.slice A' ((gl g i).ws.length + 1) c')) := by
  obtain ⟨eb, rfl⟩ := h.lA hi e
  rw [Nat.zero_add]
  have hwi := h.ws i hd _ hh (gl_at hi)
  have hk1 := LgK.grown hwi (.inr rfl) hg
  have eb2 : obN x.lA = some b := by rw [← eb, ob_eq]; rfl
  obtain ⟨hB, hlt, htag⟩ := h.tags b (.inr (.inr (.inl eb2)))
  have hih : i < x.hs.length := by rw [h.hl]; exact hi
  obtain ⟨cur, hbk⟩ : ∃ cur, Blk W b cur 73 := h.li.tag b eb
  have hdt : ∀ j, (Value.slice hd.1 (gl g i).ws.length hd.2).ownBlock = some j → ∃ cur, Blk W j cur 75 := fun j hj => hwi.tag j hj
  have hneT : ∀ {j : Nat} {cu : Array Value} {t : TypeId}, Blk W j cu t → t ≠ 75 → W1.heap[j]? = W.heap[j]? := fun {j cu t} hb ht => hg.block j hb.lt (fun e2 => by
    obtain ⟨cu2, h2⟩ := hdt j e2.symm
    have h2 : W.heap[j]? = some (.cells cu2 75 (0, 0)) := h2
    rw [show W.heap[j]? = some (.cells cu t (0, 0)) from hb] at h2
    simp only [Option.some.injEq, Obj.cells.injEq] at h2
    exact ht h2.2.1)
  have hbk1 : Blk W1 b cur 73 := (hneT hbk (by decide)).trans hbk
  have hli1 : ROwn lfE 6 W1 B 73 (.slice x.lA g.lives.length x.lc) g.lives.length (g.lives.zip x.hs) := h.li.keepS (fun j hj => by
    obtain ⟨cu, hc⟩ := h.li.tag j hj
    exact hneT (show Blk W j cu 73 from hc) (by decide))
  have hblk1 : Blk W1 p #[.int .i64 g.time, .slice x.fA g.facts.length x.fc, .slice x.lA g.lives.length x.lc] 61 := (hneT h.blk (by decide)).trans h.blk
  have hfar := List.pairwise_cons.1 h.ap
  have hfa1 : ROwn fcE 4 W1 B 75 (.slice x.fA g.facts.length x.fc) g.facts.length g.facts := h.fa.keepS (fun j hj => hg.block j (h.fa.lt j hj).2 (fun e2 => by
    refine hfar.1 hd.1 (List.mem_map.2 ⟨hd, List.mem_of_getElem? hh, rfl⟩) j (by rw [ob_eq] at hj; exact hj) ?_
    rw [← ob_eq hd.1 (gl g i).ws.length hd.2]; exact e2.symm))
  have hll : (addW g i f).lives.length = g.lives.length := List.length_set ..
  have hset := hli1.setC lfE_len (g := b) (j := i) (i := 3) (u := .slice A' ((gl g i).ws.length + 1) c') (x := (gl g i, x.hs[i])) (x' := ({ gl g i with ws := (gl g i).ws ++ [f] }, A', c')) eb (zip_at hi (List.getElem?_eq_getElem hih)) (by decide) (by
    unfold lfE
    simp only [List.length_append, List.length_singleton]
    rfl)
  have ez : (g.lives.zip x.hs).set i ({ gl g i with ws := (gl g i).ws ++ [f] }, A', c') = (addW g i f).lives.zip (x.hs.set i (A', c')) := by rw [zip_set]; rfl
  rw [ez] at hset
  have htag1 : LTag W1 b := ⟨cur, 73, hbk1, .inr (.inl rfl)⟩
  refine ⟨⟨h.hp, ?_, rown_setO hfa1 hbk1 (by decide), ?_, ?_, fun j y l h1 h2 => ?_, ?_⟩, hk1.tr (LgK.cell hB htag1)⟩
  · rw [hll]
    exact hblk1.other (fun e2 => by
      subst e2
      have h3 : W1.heap[p]? = some (.cells _ 61 (0, 0)) := hblk1
      rw [show W1.heap[p]? = some (.cells cur 73 (0, 0)) from hbk1] at h3
      simp only [Option.some.injEq, Obj.cells.injEq] at h3
      exact absurd h3.2.1 (by decide)) _
  · rw [hll]; exact hset
  · rw [hll]; show (x.hs.set i _).length = _; rw [List.length_set]; exact h.hl
  · have h2 : (g.lives.set i { gl g i with ws := (gl g i).ws ++ [f] })[j]? = some l := h2
    have h1 : (x.hs.set i (A', c'))[j]? = some y := h1
    rw [List.getElem?_set] at h1 h2
    by_cases e2 : i = j
    · subst e2
      rw [if_pos rfl, if_pos hi] at h2
      rw [if_pos rfl, if_pos hih] at h1
      cases h2
      cases h1
      have := rown_setO (j := i * 6 + 3) (u := .slice A' ((gl g i).ws.length + 1) c') ho hbk1 (by decide)
      simp only [List.length_append, List.length_singleton]
      exact this
    · rw [if_neg e2] at h1 h2
      refine rown_setO ((h.ws j y l h1 h2).keepS (fun k hk => hg.block k ((h.ws j y l h1 h2).lt k hk).2 (fun e3 => ?_))) hbk1 (by decide)
      exact h.far hh h1 e2 (k := k) (by rw [← e3.symm, ob_eq]; rfl) (by rw [← hk, ob_eq]; rfl)
  · show (x.fA :: (x.hs.set i (A', c')).map (·.1)).Pairwise _
    have e2 : x.fA :: (x.hs.set i (A', c')).map (·.1) = (x.fA :: x.hs.map (·.1)).set (i + 1) A' := by
      rw [List.set_cons_succ, List.map_set]
    rw [e2]
    refine ap_set (N := W.heap.size) h.ap (by rw [List.length_cons, List.length_map]; omega) h.heads (fun k hk => ?_)
    rcases hn k (by rw [ob_eq]; exact hk) with e3 | e3
    · left
      have e4 : (x.fA :: x.hs.map (·.1))[i + 1]'(by rw [List.length_cons, List.length_map]; omega) = hd.1 := by
        rw [List.getElem_cons_succ, List.getElem_map]
        have := (List.getElem?_eq_some_iff.1 hh).2
        rw [this]
      rw [e4]
      rw [ob_eq] at e3; exact e3
    · exact .inr e3
/-- a life more -/
theorem LgAt.born (h : LgAt W B p g x) {l : Lf} (hl : l.ws = []) {A' : Option Addr} {c' : Nat} (ho : ROwn lfE 6 W1 B 73 (.slice A' (g.lives.length + 1) c') (g.lives.length + 1) (g.lives.zip x.hs ++ [(l, none, 0)])) (hg : W.grownBy W1 (Value.slice x.lA g.lives.length x.lc).ownBlock) :
    LgAt (W1.setCell ⟨p, 2, none⟩ (.slice A' (g.lives.length + 1) c')) B p { g with lives := g.lives ++ [l] } { x with lA := A', lc := c', hs := x.hs ++ [(none, 0)] } ∧ LgK B W (W1.setCell ⟨p, 2, none⟩ (.slice A' (g.lives.length + 1) c')) := by
  have hk1 := LgK.grown h.li (.inl rfl) hg
  have hneT : ∀ {j : Nat} {cu : Array Value} {t : TypeId}, Blk W j cu t → t ≠ 73 → W1.heap[j]? = W.heap[j]? := fun {j cu t} hb ht => hg.block j hb.lt (fun e2 => by
    obtain ⟨cu2, h2⟩ := h.li.tag j e2.symm
    have h2 : W.heap[j]? = some (.cells cu2 73 (0, 0)) := h2
    rw [show W.heap[j]? = some (.cells cu t (0, 0)) from hb] at h2
    simp only [Option.some.injEq, Obj.cells.injEq] at h2
    exact ht h2.2.1)
  have hblk1 : Blk W1 p #[.int .i64 g.time, .slice x.fA g.facts.length x.fc, .slice x.lA g.lives.length x.lc] 61 := (hneT h.blk (by decide)).trans h.blk
  have hrow : ∀ {v : Value} {n : Nat} {L : List Fc}, ROwn fcE 4 W B 75 v n L → ROwn fcE 4 (W1.setCell ⟨p, 2, none⟩ (.slice A' (g.lives.length + 1) c')) B 75 v n L := fun {v n L} hr => rown_setO (hr.keepS (fun j hj => by
    obtain ⟨cu, hc⟩ := hr.tag j hj
    exact hneT (show Blk W j cu 75 from hc) (by decide))) hblk1 (by decide)
  have hll : (g.lives ++ [l]).length = g.lives.length + 1 := by simp
  refine ⟨⟨h.hp, ?_, hrow h.fa, ?_, ?_, fun j y m h1 h2 => ?_, ?_⟩, hk1.tr (LgK.cell h.hp ⟨_, 61, hblk1, .inl rfl⟩)⟩
  · have := hblk1.set (j := 2) (.slice A' (g.lives.length + 1) c')
    show Blk _ p #[.int .i64 g.time, .slice x.fA g.facts.length x.fc, .slice A' (g.lives ++ [l]).length c'] 61
    rw [hll]; exact this
  · show ROwn lfE 6 _ B 73 (.slice A' (g.lives ++ [l]).length c') (g.lives ++ [l]).length ((g.lives ++ [l]).zip (x.hs ++ [(none, 0)]))
    rw [hll, List.zip_append h.hl.symm]
    exact rown_setO ho hblk1 (by decide)
  · show (x.hs ++ [(none, 0)]).length = (g.lives ++ [l]).length
    simp [h.hl]
  · have h1 : (x.hs ++ [((none : Option Addr), 0)])[j]? = some y := h1
    have h2 : (g.lives ++ [l])[j]? = some m := h2
    by_cases hj : j < g.lives.length
    · rw [List.getElem?_append_left (by rw [h.hl]; exact hj)] at h1
      rw [List.getElem?_append_left hj] at h2
      exact hrow (h.ws j y m h1 h2)
    · have hj2 : j = g.lives.length := by
        have := (List.getElem?_eq_some_iff.1 h2).1
        rw [hll] at this; omega
      subst hj2
      rw [List.getElem?_append_right (Nat.le_refl _), Nat.sub_self] at h2
      rw [List.getElem?_append_right (by rw [h.hl]; exact Nat.le_refl _), h.hl, Nat.sub_self] at h1
      simp only [List.getElem?_cons_zero, Option.some.injEq] at h1 h2
      subst h1 h2
      rw [hl]
      exact ROwn.nil0 _ _ _
  · show (x.fA :: (x.hs ++ [((none : Option Addr), (0 : Nat))]).map (fun y : Option Addr × Nat => y.1)).Pairwise _
    rw [List.map_append, ← List.cons_append, List.pairwise_append]
    refine ⟨h.ap, List.pairwise_singleton _ _, fun a ha b hb k hk => ?_⟩
    rw [List.map_cons, List.map_nil, List.mem_singleton] at hb
    subst hb
    intro e; cases e
/-- the time, a commit later -/
theorem LgAt.ticked (h : LgAt W B p g x) (t : Int) : LgAt (W.setCell ⟨p, 0, none⟩ (.int .i64 t)) B p { g with time := t } x ∧ LgK B W (W.setCell ⟨p, 0, none⟩ (.int .i64 t)) :=
  ⟨⟨h.hp, h.blk.set (j := 0) _, rown_setO h.fa h.blk (by decide), rown_setO h.li h.blk (by decide), h.hl, fun i y l h1 h2 => rown_setO (h.ws i y l h1 h2) h.blk (by decide), h.ap⟩, LgK.cell h.hp ⟨_, 61, h.blk, .inl rfl⟩⟩
/-- a fact more -/
theorem LgAt.known (h : LgAt W B p g x) {f : Fc} {A' : Option Addr} {c' : Nat} (ho : ROwn fcE 4 W1 B 75 (.slice A' (g.facts.length + 1) c') (g.facts.length + 1) (g.facts ++ [f])) (hg : W.grownBy W1 (Value.slice x.fA g.facts.length x.fc).ownBlock)
    (hn : ∀ j, (Value.slice A' (g.facts.length + 1) c').ownBlock = some j → (Value.slice x.fA g.facts.length x.fc).ownBlock = some j ∨ W.heap.size ≤ j) :
    LgAt (W1.setCell ⟨p, 1, none⟩ (.slice A' (g.facts.length + 1) c')) B p { g with facts := g.facts ++ [f] } { x with fA := A', fc := c' } ∧ LgK B W (W1.setCell ⟨p, 1, none⟩ (.slice A' (g.facts.length + 1) c')) := by
  have hk1 := LgK.grown h.fa (.inr rfl) hg
  have hneT : ∀ {j : Nat} {cu : Array Value} {t : TypeId}, Blk W j cu t → t ≠ 75 → W1.heap[j]? = W.heap[j]? := fun {j cu t} hb ht => hg.block j hb.lt (fun e2 => by
    obtain ⟨cu2, h2⟩ := h.fa.tag j e2.symm
    have h2 : W.heap[j]? = some (.cells cu2 75 (0, 0)) := h2
    rw [show W.heap[j]? = some (.cells cu t (0, 0)) from hb] at h2
    simp only [Option.some.injEq, Obj.cells.injEq] at h2
    exact ht h2.2.1)
  have hblk1 : Blk W1 p #[.int .i64 g.time, .slice x.fA g.facts.length x.fc, .slice x.lA g.lives.length x.lc] 61 := (hneT h.blk (by decide)).trans h.blk
  have hfar := (List.pairwise_cons.1 h.ap).1
  have hll : (g.facts ++ [f]).length = g.facts.length + 1 := by simp
  refine ⟨⟨h.hp, ?_, ?_, rown_setO (h.li.keepS (fun j hj => by
    obtain ⟨cu, hc⟩ := h.li.tag j hj
    exact hneT (show Blk W j cu 73 from hc) (by decide))) hblk1 (by decide), h.hl, fun i y l h1 h2 => rown_setO ((h.ws i y l h1 h2).keepS (fun j hj => hg.block j ((h.ws i y l h1 h2).lt j hj).2 (fun e2 => ?_))) hblk1 (by decide), ?_⟩, hk1.tr (LgK.cell h.hp ⟨_, 61, hblk1, .inl rfl⟩)⟩
  · have := hblk1.set (j := 1) (.slice A' (g.facts.length + 1) c')
    show Blk _ p #[.int .i64 g.time, .slice A' (g.facts ++ [f]).length c', .slice x.lA g.lives.length x.lc] 61
    rw [hll]; exact this
  · show ROwn fcE 4 _ B 75 (.slice A' (g.facts ++ [f]).length c') (g.facts ++ [f]).length (g.facts ++ [f])
    rw [hll]; exact rown_setO ho hblk1 (by decide)
  · refine hfar y.1 (List.mem_map.2 ⟨y, List.mem_of_getElem? h1, rfl⟩) j ?_ (by rw [ob_eq] at hj; exact hj)
    rw [← ob_eq x.fA g.facts.length x.fc]; exact e2.symm
  · have := ap_set (j := 0) (a' := A') (N := W.heap.size) h.ap (by simp) h.heads (fun k hk => by
      rcases hn k (by rw [ob_eq]; exact hk) with e3 | e3
      · left
        rw [ob_eq] at e3; exact e3
      · exact .inr e3)
    exact this
end
end Go.Proofs.Ytoinjnocopejjaa
