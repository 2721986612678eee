/- A recorder beside the document's history. -/
import Derived.Test.YtgbcncfgpdlmiaaAE
import Derived.Test.YtgbcncfgpdlmiaaNX
import Derived.Test.YtgbcncfgpdlmiaaWT
import Derived.Test.YtgbcncfgpdlmiaaRB
namespace Go.Proofs.Ytgbcncfgpdlmiaa
open Go.ChangeShapes Go.WideShapes Go.ChangeAt Go.RowKit Go.Maps
set_option linter.unusedVariables false
set_option linter.unusedSimpArgs false

theorem addC_zero2 {tasks wh t : Int} {L : List Ev} (h : addC tasks L wh t = 0) : (0 ≤ t ∧ t < tasks) ∧ wh = 1 + (cnt L t % 3 : Nat) := by
  unfold addC at h
  split at h
  · cases h
  · split at h
    · exact ⟨by omega, by assumption⟩
    · cases h
theorem addC_of2 {tasks wh t : Int} {L : List Ev} (h : 0 ≤ t ∧ t < tasks) (e : wh = 1 + (cnt L t % 3 : Nat)) : addC tasks L wh t = 0 := by
  unfold addC
  rw [if_neg (by omega), if_pos e]
theorem doA_of2 (wh : Int) (a : An) : doA wh a = if doW wh = 3 then a else an0 := by
  unfold doA doW
  by_cases h1 : wh = 1
  · simp [h1]
  · by_cases h2 : wh = 2
    · simp [h2]
    · simp [h1, h2]
theorem legal_do2 {tasks : Int} {L : List Ev} (s : SE) (h : legalR tasks [] L = true) : legalR tasks [] (doS tasks L s) = true := by
  unfold doS addL
  split
  · rename_i h0
    obtain ⟨h1, h2⟩ := addC_zero2 h0
    rw [legalR_snoc2, h, Bool.true_and, List.nil_append]
    unfold okE nextE
    rw [Bool.and_eq_true]
    exact ⟨decide_eq_true h1, decide_eq_true (by rw [doA_of2]; simp only [← h2]; split <;> rfl)⟩
  · exact h
/-- what a step is taken for -/
def whX (wh : Int) : Int := if wh < 1 ∨ 3 < wh then 3 else wh
theorem whX_in (wh : Int) : 1 ≤ whX wh ∧ whX wh ≤ 3 := by unfold whX; split <;> omega
theorem doW_in {x : Int} (h : 1 ≤ x ∧ x ≤ 3) : doW x = x := by
  unfold doW
  split
  · omega
  · split <;> omega
theorem doA_in {x : Int} (h : 1 ≤ x ∧ x ≤ 3) (a : An) : doA x a = nxA x a := by
  unfold doA nxA
  by_cases h3 : x = 3
  · rw [if_neg (by omega), if_pos h3]
  · rw [if_pos (by omega), if_neg h3]
theorem doS_in {tasks x t : Int} {L : List Ev} {a : An} {hd : Hd} (h : 1 ≤ x ∧ x ≤ 3) : doS tasks L ((x, t, a), hd) = addL tasks L x t (nxA x a) := by
  unfold doS
  simp only
  rw [doW_in h, doA_in h]
theorem nx_po {W : World} {x : Int} {a : An} {hd : Hd} (h : PO W hd a.2.2.2) : PO W (nxH x hd) (nxA x a).2.2.2 := by
  unfold nxH nxA
  split
  · exact h
  · exact PO.empty W
/-- events of a legal history: what they are, whose -/
theorem legal_what {tasks : Int} (L : List Ev) (h : legalR tasks [] L = true) : ∀ e ∈ L, (1 ≤ e.1 ∧ e.1 ≤ 3) ∧ 0 ≤ e.2.1 ∧ e.2.1 < tasks := by
  obtain ⟨n, hl⟩ : ∃ n, L.length = n := ⟨_, rfl⟩
  induction n generalizing L with
  | zero =>
    obtain rfl := List.eq_nil_of_length_eq_zero hl
    intro e he
    cases he
  | succ n ih =>
    obtain ⟨M, x, rfl⟩ : ∃ M e, L = M ++ [e] := ⟨L.dropLast, L.getLast (by intro h; rw [h] at hl; cases hl), (List.dropLast_concat_getLast _).symm⟩
    rw [legalR_snoc2, Bool.and_eq_true, List.nil_append] at h
    have ih2 := ih M h.1 (by simpa using hl)
    intro e he
    rcases List.mem_append.1 he with he | he
    · exact ih2 e he
    · rw [List.mem_singleton] at he
      subst he
      have ho := h.2
      obtain ⟨wh, t, cl, a⟩ := e
      unfold okE nextE at ho
      rw [Bool.and_eq_true, decide_eq_true_eq, decide_eq_true_eq] at ho
      simp only [Prod.mk.injEq] at ho
      have h3 : cnt M t % 3 < 3 := Nat.mod_lt _ (by decide)
      exact ⟨by simp only; omega, ho.1⟩
theorem legal_none {tasks t : Int} {L : List Ev} (h : legalR tasks [] L = true) (ht : t < 0 ∨ tasks ≤ t) : cnt L t = 0 := by
  unfold cnt
  rw [List.length_eq_zero_iff, List.filter_eq_nil_iff]
  intro e he h2
  rw [decide_eq_true_eq] at h2
  have := (legal_what L h e he).2
  omega
theorem legal_next {tasks x t : Int} {L : List Ev} {a : An} (hl : legalR tasks [] L = true) (ht : 1 ≤ tasks ∧ tasks ≤ 6) (hx : 1 ≤ x ∧ x ≤ 3) : legalL tasks (L ++ [(x, t, ((cnt L t / 3 : Nat) : Int), nxA x a)]) = decide (addC tasks L x t = 0) := by
  unfold legalL
  rw [decide_eq_true ht, Bool.true_and, legalR_snoc2, hl, Bool.true_and, List.nil_append]
  unfold okE nextE
  by_cases h : addC tasks L x t = 0
  · obtain ⟨h1, h2⟩ := addC_zero2 h
    rw [decide_eq_true h, Bool.and_eq_true]
    refine ⟨decide_eq_true h1, decide_eq_true ?_⟩
    simp only [← h2]
    unfold nxA
    split <;> rfl
  · rw [decide_eq_false h]
    by_cases h1 : 0 ≤ t ∧ t < tasks
    · have h2 : ¬ x = 1 + (cnt L t % 3 : Nat) := fun e => h (addC_of2 h1 e)
      rw [decide_eq_false (p := (x, t, ((cnt L t / 3 : Nat) : Int), nxA x a) = _) (fun e => h2 (by injection e)), Bool.and_false]
    · rw [decide_eq_false (p := 0 ≤ (x, t, ((cnt L t / 3 : Nat) : Int), nxA x a).2.1 ∧ _) h1, Bool.false_and]
theorem legal_nil (tasks : Int) : legalL tasks [] = decide (1 ≤ tasks ∧ tasks ≤ 6) := by
  unfold legalL legalR
  rw [Bool.and_true]
theorem POn.wp {W : World} {B : Nat} {hd : Hd} {ps : List Pr} (hp : POn W B hd ps) : Wp W B hd := fun hn => by
  obtain ⟨g, off, hA, hlt, hc⟩ := hp.po.rd.2 hn
  obtain ⟨h1, cur, hcu⟩ := hp.own g (by rw [hA]; rfl)
  have hk : Blk W g cur 53 := hcu
  refine ⟨g, off, hA, h1, cur, hk, ?_⟩
  have hl := hp.po.rd.1
  have hx := List.getElem?_eq_getElem (l := ps) (i := hd.2.1 - 1) (by omega)
  have h2 := hc _ _ hx 1 (by decide)
  rw [hk.cell] at h2
  have h3 : off + (hd.2.1 - 1) * 2 + 1 < cur.size := by
    rcases Nat.lt_or_ge (off + (hd.2.1 - 1) * 2 + 1) cur.size with h | h
    · exact h
    · rw [Array.getElem?_eq_none h] at h2
      simp [prc] at h2
  omega
/-- a recorder, and the document's history, whose pairs lie in the arguments' memory -/
structure XRi (w : World) (tasks : Int) (p : Nat) (v : Value) (Rs : List RE) (xv : Value) (nx : Nat) (Xs : List RE) (W : World) : Prop where
  r : RcAt W w.heap.size p tasks v Rs
  x : ROwn evc 7 W w.heap.size 40 xv nx Xs
  xp : ∀ r ∈ Xs, ∀ W', Below w.heap.size w W' → PO W' r.2 r.1.2.2.2.2.2.2
  d : ∀ k, xv.ownBlock = some k → v.ownBlock ≠ some k
  b : Below w.heap.size w W
section
variable {w W W' : World} {tasks : Int} {p nx : Nat} {v v' xv : Value} {Rs Rs' Xs : List RE}
theorem XRi.later (h : XRi w tasks p v Rs xv nx Xs W) (hb : Below W.heap.size W W') : XRi w tasks p v Rs xv nx Xs W' := ⟨h.r.later hb, h.x.later hb, h.xp, h.d, stepB h.b hb⟩
theorem XRi.do (h : XRi w tasks p v Rs xv nx Xs W) (hr : RcAt W' w.heap.size p tasks v' Rs') (hf : FrR W W' p v) (hn : Nw W v v') : XRi w tasks p v' Rs' xv nx Xs W' :=
  ⟨hr, h.x.keepS (fun i e => hf.block i (h.x.lt i e).2 (fun e2 => by subst e2; exact h.x.nq h.r.blk (by decide) e) (h.d i e)), h.xp, fun k e e2 => by
    rcases hn k e2 with h3 | h3
    · exact h.d k e h3
    · have := (h.x.lt k e).2; omega, FrR.bel2 h.r h.b hf⟩
theorem XRi.set {g o : Nat} {T : TypeId} {c : Array Value} {u : Value} (h : XRi w tasks p v Rs xv nx Xs W) (hg : Blk W g c T) (h40 : T ≠ 40) (h72 : T ≠ 72) (hB : w.heap.size ≤ g) (hne : ∀ r ∈ Rs, ∀ i, r.2.1.map (fun a => a.block) = some i → i ≠ g) : XRi w tasks p v Rs xv nx Xs (W.setCell ⟨g, o, none⟩ u) := by
  have key : ∀ i : Nat, i ≠ g → (W.setCell ⟨g, o, none⟩ u).heap[i]? = W.heap[i]? := fun i hi => Below.heap_setCell W ⟨g, o, none⟩ u i hi
  have hrow : ∀ {n : Nat} {y : Value} {Ys : List RE}, ROwn evc 7 W w.heap.size 40 y n Ys → ROwn evc 7 (W.setCell ⟨g, o, none⟩ u) w.heap.size 40 y n Ys := fun k => k.keepS fun i hi => key i (by rintro rfl; exact k.nq hg h40 hi)
  refine ⟨⟨h.r.hp, h.r.blk.other (by rintro rfl; exact h72 (blk_inj hg h.r.blk).2) u, hrow h.r.row.row, fun r hr => (h.r.row.po r hr).keep (by simp) fun i hi => key i (hne r hr i hi)⟩, hrow h.x, h.xp, h.d, Below.setCell (p := ⟨g, o, none⟩) h.b hB u⟩
theorem XRi.ne {g : Nat} {T : TypeId} {c : Array Value} (h : XRi w tasks p v Rs xv nx Xs W) (hg : Blk W g c T) (hT : T ≠ 53) : ∀ r ∈ Rs, ∀ i, r.2.1.map (fun a => a.block) = some i → i ≠ g := fun r hr i hi e => by
  subst e
  obtain ⟨_, cur, hc⟩ := (h.r.row.po r hr).own i hi
  exact hT (blk_inj hg hc).2
theorem FrR.blk {q B : Nat} {T : TypeId} {c : Array Value} (hf : FrR W W' p v) (hr : RcAt W B p tasks v Rs) (hk : Blk W q c T) (h72 : T ≠ 72) (h40 : T ≠ 40) : Blk W' q c T :=
  (hf.block q hk.lt (by rintro rfl; exact h72 (blk_inj hk hr.blk).2) (hr.row.row.nq hk h40)).trans hk
theorem FrR.pon {B B2 : Nat} {hd : Hd} {ps : List Pr} (hf : FrR W W' p v) (hr : RcAt W B p tasks v Rs) (hk : POn W B2 hd ps) : POn W' B2 hd ps := by
  refine hk.keep hf.size fun g e => hf.block g (hk.lt g e).2 ?_ ?_
  · rintro rfl
    obtain ⟨_, cur, hc⟩ := hk.own g e
    exact absurd (blk_inj hc hr.blk).2 (by decide)
  · intro e2
    obtain ⟨_, cur, hc⟩ := hk.own g e
    exact hr.row.row.nq hc (by decide) e2
theorem XRi.evs {A : Option Addr} {c : Nat} (h : XRi w tasks p v Rs (.slice A nx c) nx Xs W) : EvS W A nx Xs := ⟨h.x.rsl evc_len, fun r hr => h.xp r hr _ h.b⟩
/-- behind the document's Next -/
theorem XRi.next {A A2 : Option Addr} {c n2 c2 : Nat} {b : Bool} {r : RE} (h : XRi w tasks p v Rs (.slice A nx c) nx Xs W) (hb : Below W.heap.size W W') (hr : ∀ W', Below w.heap.size w W' → PO W' r.2 r.1.2.2.2.2.2.2) (hf : b = false → A2 = A ∧ n2 = nx ∧ c2 = c) (ht : b = true → n2 = nx + 1 ∧ ROwn evc 7 W' W.heap.size 40 (.slice A2 n2 c2) n2 (Xs ++ [r])) : XRi w tasks p v Rs (.slice A2 n2 c2) n2 (if b then Xs ++ [r] else Xs) W' := by
  cases b with
  | false =>
    obtain ⟨rfl, rfl, rfl⟩ := hf rfl
    exact h.later hb
  | true =>
    obtain ⟨h1, h2⟩ := ht rfl
    refine ⟨h.r.later hb, h2.base h.b.size, fun x hx => ?_, fun k e e2 => ?_, stepB h.b hb⟩
    · rcases List.mem_append.1 hx with hx | hx
      · exact h.xp x hx
      · rw [List.mem_singleton.1 hx]; exact hr
    · have := (h2.lt k e).1
      have := (h.r.row.lt k e2).2
      omega
end
def XR (w : World) (tasks : Int) (p : Nat) (L : List Ev) (xv : Value) (W : World) : Prop := ∃ v Rs nx Xs, XRi w tasks p v Rs xv nx Xs W ∧ Rs.map Prod.fst = L ∧ Xs.map Prod.fst = L
end Go.Proofs.Ytgbcncfgpdlmiaa
