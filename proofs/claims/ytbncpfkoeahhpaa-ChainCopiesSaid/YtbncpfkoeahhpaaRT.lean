/- A range over a function whose iterator writes blocks of its own: all of one type tg, which the caller does not use. How many rounds there are the caller's invariant bounds. -/
import Derived.Test.YtbncpfkoeahhpaaKP
import Derived.Test.YtbncpfkoeahhpaaRW
namespace Go.Proofs.Ytbncpfkoeahhpaa
open Go.ChangeShapes Go.WideShapes Go.ChangeAt Go.RowKit Go.Shelf
set_option linter.unusedVariables false
set_option linter.unusedSimpArgs false
attribute [local go_sem] Oper.semAt_some
/-- J outlives new blocks, and turns of blocks of the iterator's type laid from B on -/
def AbT {β : Type} (B : Nat) (tg : TypeId) (J : β → World → Prop) : Prop :=
  ∀ s W W' row, J s W → W.grownBy W' row → (∀ r, row = some r → B ≤ r ∧ ∃ c, W.heap[r]? = some (.cells c tg (0, 0))) → J s W'
/-- I outlives these, and turns of what is no cells, from B on -/
def TagT {β : Type} (B : Nat) (tg : TypeId) (I : β → World → Prop) : Prop :=
  ∀ s W W' row, I s W → W.grownBy W' row → (∀ r, row = some r → B ≤ r ∧ ((∃ o : Obj, W.heap[r]? = some o ∧ o.isCells = false) ∨ ∃ c, W.heap[r]? = some (.cells c tg (0, 0)))) → I s W'
theorem TagT.and {β : Type} {B : Nat} {tg : TypeId} {I I' : β → World → Prop} (h : TagT B tg I) (h' : TagT B tg I') : TagT B tg (fun s W => I s W ∧ I' s W) :=
  fun s W W' row hs hg hr => ⟨h s W W' row hs.1 hg hr, h' s W W' row hs.2 hg hr⟩
theorem TagT.pure {β : Type} (B : Nat) (tg : TypeId) (p : β → Prop) : TagT B tg (fun s (_ : World) => p s) := fun _ _ _ _ hs _ _ => hs
theorem TagT.below {β : Type} {n₀ B : Nat} {tg : TypeId} {w0 : World} (hn : n₀ ≤ w0.heap.size) (hB : n₀ ≤ B) : TagT B tg (fun (_ : β) W => Below n₀ w0 W) :=
  fun _ W W' row hs hg hr => hs.grown hg (Nat.le_trans hn hs.size) (fun k e => Nat.le_trans hB (hr k e).1)
theorem TagT.blk {β : Type} {B tg : Nat} (b : β → Nat) (c : β → Array Value) (t : TypeId) (ht : t ≠ tg) : TagT B tg (fun s W => Blk W (b s) (c s) t) := fun s W W' row hs hg hr => by
  refine hs.grown hg (fun e => ?_)
  have hs' : W.heap[b s]? = some (.cells (c s) t (0, 0)) := hs
  obtain ⟨_, ⟨o, ho, hc⟩ | ⟨c2, hc⟩⟩ := hr _ e.symm
  · rw [hs'] at ho; cases ho; cases hc
  · rw [hs'] at hc
    simp only [Option.some.injEq, Obj.cells.injEq] at hc
    exact ht hc.2.1
theorem tag_none {W : World} {row : Option Nat} {B tg k : Nat} {o : Obj} (h : W.heap[k]? = some o) (hc : o.isCells = false) (hr : ∀ r, row = some r → B ≤ r ∧ ∃ c, W.heap[r]? = some (.cells c tg (0, 0))) : some k ≠ row := fun e => by
  obtain ⟨_, c, h2⟩ := hr k e.symm
  rw [h] at h2; cases h2; cases hc
/-- the contract of such an iterator -/
def SeqT {α : Type} (F : Fence) (n : Nat) (P : Program) (g : Nat) (lb : Array Value) (encs : α → Array Value) (tg : TypeId) (Kp : World → World → Prop) (S Sp : List α → Prop) (N : Nat) (w : World) : Prop :=
  ∀ (l : Nat) (J Jx : List α → World → Prop) (W : World), Below w.heap.size w W → AbT W.heap.size tg J → AbT W.heap.size tg Jx → (∀ pre W, J pre W → pre.length < N) →
    (∀ pre x W1, J pre W1 → YieldAt F (n - 1) P l (encs x) W1 fun e W' => (e = .returned (.bool true) ∧ J (pre ++ [x]) W' ∧ Kp W1 W') ∨ (e = .returned (.bool false) ∧ Jx (pre ++ [x]) W')) →
    J [] W → CallsIn F n P g (#[.func (.yield l) #[] #[]] ++ lb) W fun e W' => (∃ v, e = .returned v) ∧ ((∃ xs, S xs ∧ J xs W') ∨ (∃ pre, Sp pre ∧ Jx pre W'))
theorem range_tag {F : Fence} {n : Nat} {P : Program} {α : Type} {g : Operand} {ps : Array Tmp} {assign body : Code} {Q : Exit → Act → World → Prop} {a : Act} {w : World}
    (hro : F.round = none) (h1 : 1 ≤ n) {gf : Nat} {lb : Array Value} (hg : a.eval g = .func (.func gf) #[] lb) (hFg : F.fn gf) (eg : ∀ args w, (callFunc gf args).run P w = .ok (.enter gf args) w)
    {encs : α → Array Value} {tg : TypeId} {Kp : World → World → Prop} {S Sp : List α → Prop} {N : Nat} {w0 : World} (hseq : SeqT F (n - 1) P gf lb encs tg Kp S Sp N w0)
    (hKt : ∀ {A B C : World}, Kp A B → Kp B C → Kp A C) (hKb : ∀ (W : World) (l : Nat) (o o' : Obj), w.heap.size ≤ l → W.heap[l]? = some o → o.isCells = false → Kp W (W.putObj l o')) (hb0 : Below w0.heap.size w0 w) (hps : ∀ x, (encs x).size = ps.size)
    (I : List α → World → Prop) (Ix : Code → List α → World → Prop) (hI : TagT w.heap.size tg I) (hIx : ∀ c, TagT w.heap.size tg (Ix c)) (hN : ∀ pre W, I pre W → pre.length < N) (h0 : I [] w)
    (Ax : α → Act → World → Prop) (hAx : ∀ x a', TagT w.heap.size tg (fun (_ : Unit) W => Ax x a' W))
    (hassign : ∀ (l : Nat) (pre : List α) (x : α) (W : World) (K : Act → World → Prop), I pre W → (∀ a' W', KeepsFrom w.heap.size W W' → Kp W W' → I pre W' → Ax x a' W' → K a' W') →
      assign.wpIn (F.inRound l) (n - 1 - 1) P (Exit.then K (fun _ _ _ => False)) { tmps := (ps.zip (encs x)).foldl (fun t (p, v) => t.setIfInBounds p v) a.tmps, defers := [] } W)
    (hbody : ∀ (l : Nat) (pre : List α) (x : α) (a' : Act) (W : World), w.heap.size ≤ l → (∃ r, W.heap[l]? = some (.loop r)) → I pre W → Ax x a' W → body.wpIn (F.inRound l) (n - 1 - 1) P (ownPostG w.heap.size Kp I Ix (pre ++ [x]) W) a' W)
    (hdone : ∀ (E : Nat) (xs : List α) (W : World), w.heap.size ≤ E → S xs → I xs W → W.heap[E]? = some (.deferred (some [])) → Q .normal { a with defers := { target := .collected E, args := #[] } :: a.defers } W)
    (hstop : ∀ (E : Nat) (c : Code) (pre : List α) (W : World), w.heap.size ≤ E → Sp pre → Ix c pre W → W.heap[E]? = some (.deferred (some [])) → c.wpIn F n P Q { a with defers := { target := .collected E, args := #[] } :: a.defers } W) :
    (Code.rangeFunc g ps assign body).wpIn F n P Q a w := by
  refine wpIn_rangeFunc fun fn hfn => ?_
  rw [hro]
  -- the record of the loop lies in block w.heap.size + 1, the block for calls put off in w.heap.size
  let R : LoopState → Option Code → Obj := fun st pe => .loop { state := st, pending := pe, fn, tmps := a.tmps, params := ps, assign, body, defers := w.heap.size }
  have hRc : ∀ st pe, (R st pe).isCells = false := fun _ _ => rfl
  let Bk : LoopState → Option Code → World → Prop := fun st pe W => W.heap[w.heap.size + 1]? = some (R st pe) ∧ W.heap[w.heap.size]? = some (.deferred (some []))
  have hBk : ∀ (st st' : LoopState) (pe pe' : Option Code) (W : World), Bk st pe W → Bk st' pe' (W.putObj (w.heap.size + 1) (R st' pe')) := fun st st' pe pe' W h =>
    ⟨World.putObj_heap_same (Array.getElem?_eq_some_iff.1 h.1).1, (World.putObj_heap_other (by omega)).trans h.2⟩
  have hBt : ∀ (st : LoopState) (pe : Option Code) {W W' : World} {row : Option Nat} {B : Nat}, Bk st pe W → W.grownBy W' row → (∀ r, row = some r → B ≤ r ∧ ∃ c, W.heap[r]? = some (.cells c tg (0, 0))) → Bk st pe W' := fun st pe {W W' row B} h hg hr =>
    ⟨(hg.block _ (Array.getElem?_eq_some_iff.1 h.1).1 (tag_none h.1 rfl hr)).trans h.1, (hg.block _ (Array.getElem?_eq_some_iff.1 h.2).1 (tag_none h.2 rfl hr)).trans h.2⟩
  have hBf : ∀ (st : LoopState) (pe : Option Code) {W W' : World}, Bk st pe W → KeepsFrom w.heap.size W W' → Bk st pe W' := fun st pe {W W'} h hk =>
    ⟨hk.same _ _ (by omega) h.1 rfl, hk.same _ _ (Nat.le_refl _) h.2 rfl⟩
  have put : ∀ {β : Type} {K : β → World → Prop} (s : β) (st : LoopState) (pe : Option Code) (o' : Obj) (W : World), TagT w.heap.size tg K → K s W → Bk st pe W → K s (W.putObj (w.heap.size + 1) o') := by
    intro β K s st pe o' W hK hs hb
    exact hK s W _ (some (w.heap.size + 1)) hs (grownBy_putObj' W _ o') (fun r e => by cases e; exact ⟨by omega, .inl ⟨_, hb.1, rfl⟩⟩)
  have ext : ∀ {β : Type} {K : β → World → Prop} (s : β) {W W' : World} {row : Option Nat} {B : Nat}, TagT w.heap.size tg K → w.heap.size ≤ B → K s W → W.grownBy W' row → (∀ r, row = some r → B ≤ r ∧ ∃ c, W.heap[r]? = some (.cells c tg (0, 0))) → K s W' := by
    intro β K s W W' row B hK hB hs hg hr
    exact hK s W W' row hs hg (fun r e => ⟨Nat.le_trans hB (hr r e).1, .inr (hr r e).2⟩)
  obtain ⟨W1, hW1⟩ : ∃ W1, (w.alloc (.deferred (some []))).alloc (R .ready none) = W1 := ⟨_, rfl⟩
  have hB1 : Below w.heap.size w W1 := by rw [← hW1]; exact ((Below.refl _ w).alloc (Nat.le_refl _) _).alloc (by simp) _
  have hBk1 : Bk .ready none W1 := by
    rw [← hW1]
    refine ⟨?_, (Below.heap_alloc _ _ _ (by simp)).trans (World.alloc_heap_new w _)⟩
    have := World.alloc_heap_new (w.alloc (.deferred (some []))) (R .ready none)
    rwa [World.size_alloc] at this
  have hI1 : I [] W1 := hI [] w W1 none h0 (grown_of_below hB1) (fun r e => by cases e)
  refine ⟨w.heap.size + 1, [{ target := .collected w.heap.size, args := #[] }], W1, { target := .fn (.func gf) lb, args := #[.func (.yield (w.heap.size + 1)) #[] #[]] }, W1, gf,
    #[.func (.yield (w.heap.size + 1)) #[] #[]] ++ lb, W1, ?_, ?_, ?_, ?_, fun _ => h1, ?_⟩
  · rw [← hW1]; exact run_enterLoop_outer _ _ _ _ _
  · simp only [resolve, hg]
    simp [go_sem]
  · intro f' hf'; simp [Target.leads] at hf'; subst hf'; exact hFg
  · simp [invoke, go_sem, eg]
  refine (hseq (w.heap.size + 1) (fun pre W => I pre W ∧ Bk .ready none W) (fun pre W => ∃ c, Ix c pre W ∧ Bk .done (some c) W) W1 (hb0.trans (hB1.mono hb0.size))
    (fun s A B row hs hg' hr => ⟨ext s hI hB1.size hs.1 hg' hr, hBt _ _ hs.2 hg' hr⟩)
    (fun s A B row hs hg' hr => by obtain ⟨c, hc, hb⟩ := hs; exact ⟨c, ext s (hIx c) hB1.size hc hg' hr, hBt _ _ hb hg' hr⟩)
    (fun pre W h => hN pre W h.1) ?_ ⟨hI1, hBk1⟩).mono ?_
  · rintro pre x W ⟨hi, hb⟩
    refine ⟨fn, _, assign, body, run_yield (P := P) (args := encs x) hb.1 (hps x), roundIn_of_wpIn hfn (hassign _ pre x W _ hi ?_)⟩
    intro a' Wa hkf hkp hia hax
    have hba := hBf _ _ hb hkf
    refine ⟨_, run_beginRound hba.1 rfl, ?_⟩
    have hb2 : Bk .busy none (Wa.putObj (w.heap.size + 1) (R .busy none)) := hBk _ _ _ _ _ hba
    have hk2 : Kp Wa (Wa.putObj (w.heap.size + 1) (R .busy none)) := hKb _ _ _ _ (by omega) hba.1 rfl
    refine wpIn_mono (hbody (w.heap.size + 1) pre x a' _ (by omega) ⟨_, hb2.1⟩ (put pre _ _ _ _ hI hia hba) (put () _ _ _ _ (hAx x a') hax hba)) ?_
    have out : ∀ (c : Code) (W3 : World), KeepsFrom w.heap.size (Wa.putObj (w.heap.size + 1) (R .busy none)) W3 → Ix c (pre ++ [x]) W3 →
        ∃ v W4, (Instr.endRound (w.heap.size + 1) (some c)).run P W3 = .ok v W4 ∧ v = .bool false ∧ Ix c (pre ++ [x]) W4 ∧ Bk .done (some c) W4 := fun c W3 hk3 h3 => by
      have hb3 := hBf _ _ hb2 hk3
      exact ⟨_, _, run_endRound (P := P) (some c) hb3.1, rfl, put _ _ _ _ _ (hIx c) h3 hb3, hBk _ _ _ _ _ hb3⟩
    rintro e a3 W3 hp
    cases e with
    | normal =>
      obtain ⟨hk3, hkp3, hi3⟩ := hp
      have hb3 := hBf _ _ hb2 hk3
      exact ⟨_, _, run_endRound (P := P) none hb3.1, .inl ⟨rfl, ⟨put _ _ _ _ _ hI hi3 hb3, hBk _ _ _ _ _ hb3⟩, hKt hkp (hKt (hKt hk2 hkp3) (hKb _ _ _ _ (by omega) hb3.1 rfl))⟩⟩
    | ret => obtain ⟨v, W4, e1, rfl, e2, e3⟩ := out _ _ hp.1 hp.2; exact ⟨_, _, e1, .inr ⟨rfl, _, e2, e3⟩⟩
    | exit id => obtain ⟨v, W4, e1, rfl, e2, e3⟩ := out _ _ hp.1 hp.2; exact ⟨_, _, e1, .inr ⟨rfl, _, e2, e3⟩⟩
    | goto t => obtain ⟨v, W4, e1, rfl, e2, e3⟩ := out _ _ hp.1 hp.2; exact ⟨_, _, e1, .inr ⟨rfl, _, e2, e3⟩⟩
    | panic ch => exact hp.elim
    | outgrown => exact hp.elim
  · rintro e W2 ⟨⟨v, rfl⟩, ⟨xs, hS, hi, hb⟩ | ⟨pre, hSp, c, hi, hb⟩⟩
    · exact ⟨none, _, run_endLoop (P := P) hb.1 (by simp), hdone _ xs _ (Nat.le_refl _) hS (put _ _ _ _ _ hI hi hb) ((World.putObj_heap_other (by omega)).trans hb.2)⟩
    · exact ⟨some c, _, run_endLoop (P := P) hb.1 (by simp), hstop _ c pre _ (Nat.le_refl _) hSp (put _ _ _ _ _ (hIx c) hi hb) ((World.putObj_heap_other (by omega)).trans hb.2)⟩
/-- what a round keeps: what lay below n₀, and blocks of the types 22, 24, 31 -/
structure KpT (n₀ : Nat) (W W' : World) : Prop where
  os : W'.os = W.os
  tape : W'.tape = W.tape
  output : W'.output = W.output
  size : W.heap.size ≤ W'.heap.size
  low : ∀ k, k < n₀ → W'.heap[k]? = W.heap[k]?
  tag : ∀ k c t, t = 22 ∨ t = 24 ∨ t = 31 → Blk W k c t → Blk W' k c t
theorem KpT.refl (n₀ : Nat) (W : World) : KpT n₀ W W := ⟨rfl, rfl, rfl, Nat.le_refl _, fun _ _ => rfl, fun _ _ _ _ h => h⟩
theorem KpT.trans {n₀ : Nat} {A B C : World} (h : KpT n₀ A B) (k : KpT n₀ B C) : KpT n₀ A C :=
  ⟨k.os.trans h.os, k.tape.trans h.tape, k.output.trans h.output, Nat.le_trans h.size k.size, fun j hj => (k.low j hj).trans (h.low j hj), fun j c t ht hb => k.tag j c t ht (h.tag j c t ht hb)⟩
theorem KpT.grown {n₀ : Nat} {W W' : World} {r : Option Nat} (hg : W.grownBy W' r) (hn : n₀ ≤ W.heap.size) (h1 : ∀ k, r = some k → n₀ ≤ k ∧ ∀ c t, t = 22 ∨ t = 24 ∨ t = 31 → ¬ Blk W k c t) : KpT n₀ W W' :=
  ⟨hg.os, hg.tape, hg.output, hg.size, fun k hk => hg.block k (by omega) (fun e => by have := (h1 k e.symm).1; omega), fun k c t ht hb => hb.grown hg (fun e => (h1 k e.symm).2 c t ht hb)⟩
theorem KpT.of_below {n₀ : Nat} {W W' : World} (h : Below W.heap.size W W') (hn : n₀ ≤ W.heap.size) : KpT n₀ W W' := KpT.grown (grown_of_below h) hn (fun k e => by cases e)
theorem KpT.put {n₀ : Nat} {w : World} (hn : n₀ ≤ w.heap.size) (W : World) (l : Nat) (o o' : Obj) (hl : w.heap.size ≤ l) (h : W.heap[l]? = some o) (hc : o.isCells = false) : KpT n₀ W (W.putObj l o') :=
  KpT.grown (grownBy_putObj' W l o') (Nat.le_trans hn (Nat.le_trans hl (Nat.le_of_lt (Array.getElem?_eq_some_iff.1 h).1))) (fun k e => by
    cases e
    refine ⟨Nat.le_trans hn hl, fun c t _ hb => ?_⟩
    have hb' : W.heap[l]? = some (.cells c t (0, 0)) := hb
    rw [h] at hb'; cases hb'; cases hc)
theorem KpT.below {n₀ : Nat} {W W' : World} (h : KpT n₀ W W') : Below n₀ W W' := ⟨h.os, h.tape, h.output, h.size, fun k hk => h.low k hk⟩
theorem KpT.set {n₀ b j : Nat} {W : World} {c : Array Value} {t : TypeId} (h : Blk W b c t) (hn : n₀ ≤ b) (hn2 : n₀ ≤ W.heap.size) (ht : ¬ (t = 22 ∨ t = 24 ∨ t = 31)) (v : Value) : KpT n₀ W (W.setCell ⟨b, j, none⟩ v) :=
  KpT.grown (grown_set W b j v) hn2 (fun k e => by
    cases e
    refine ⟨hn, fun c2 t2 ht2 hb => ?_⟩
    have h1 : W.heap[b]? = some (.cells c t (0, 0)) := h
    have h2 : W.heap[b]? = some (.cells c2 t2 (0, 0)) := hb
    rw [h1] at h2
    simp only [Option.some.injEq, Obj.cells.injEq] at h2
    exact ht (h2.2.1 ▸ ht2))
end Go.Proofs.Ytbncpfkoeahhpaa
