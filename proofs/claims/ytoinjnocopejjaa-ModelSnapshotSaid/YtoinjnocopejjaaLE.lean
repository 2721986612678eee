/- The log in memory. -/
import Derived.Test.YtoinjnocopejjaaLA
import Derived.Test.YtoinjnocopejjaaAR
import Derived.Test.YtoinjnocopejjaaLG
namespace Go.Proofs.Ytoinjnocopejjaa
open Go.ChangeShapes Go.WideShapes Go.ChangeAt Go.RowKit Go.Maps
set_option linter.unusedVariables false
set_option linter.unusedSimpArgs false
theorem rv_setE {α : Type} {enc : α → List Value} {k : Nat} (hk : ∀ x, (enc x).length = k) {u : Value} {i : Nat} (hi : i < k) {x x' : α} (he : enc x' = (enc x).set i u) : ∀ (L : List α) (j : Nat), L[j]? = some x → (rv enc L).set (j * k + i) u = rv enc (L.set j x')
  | [], j, h => by simp at h
  | v :: l, 0, h => by
    simp at h; subst h
    show (enc v ++ rv enc l).set (0 * k + i) u = enc x' ++ rv enc l
    rw [Nat.zero_mul, Nat.zero_add, List.set_append_left _ _ (by rw [hk]; exact hi), he]
  | v :: l, j + 1, h => by
    have ih := rv_setE hk hi he l j (by simpa using h)
    show (enc v ++ rv enc l).set ((j + 1) * k + i) u = enc v ++ rv enc (l.set j x')
    rw [List.set_append_right _ _ (by rw [hk, Nat.add_mul]; omega), hk, show (j + 1) * k + i - k = j * k + i from by rw [Nat.add_mul]; omega, ih]
theorem ROwn.setC {α : Type} {enc : α → List Value} {k : Nat} (hk : ∀ x, (enc x).length = k) {W : World} {B e n : Nat} {v : Value} {L : List α} (h : ROwn enc k W B e v n L) {g j i : Nat} {u : Value} {x x' : α} (hg : v.ownBlock = some g) (hj : L[j]? = some x) (hi : i < k) (he : enc x' = (enc x).set i u) :
    ROwn enc k (W.setCell ⟨g, j * k + i, none⟩ u) B e v n (L.set j x') := by
  have hO := h.2
  rcases h.2.2 with ⟨rfl, h2⟩ | ⟨g', cap, cur, rfl, _⟩
  · cases hg
  · cases hg
    have e1 := (hO.stored (j * k + i) u).1
    rw [rv_setE hk hi he L j hj] at e1
    exact ⟨by rw [List.length_set]; exact h.1, e1⟩
def fcE (f : Fc) : List Value := [.int .i64 f.ts, .string f.key, .bool f.tomb, .string f.val]
theorem fcE_len (f : Fc) : (fcE f).length = 4 := rfl
abbrev LH := Lf × Option Addr × Nat
def lfE (x : LH) : List Value := [.int .i64 x.1.task, .int .i64 x.1.n, .int .i64 x.1.sn, .slice x.2.1 x.1.ws.length x.2.2, .int .i64 x.1.begun, .int .i64 x.1.over]
theorem lfE_len (x : LH) : (lfE x).length = 6 := rfl
theorem elemF : RElem fcE 4 Try.prog 58 75 48 where
  und := Try.underlying58
  info := by
    have h : (Try.prog.info? 75).map (fun i => (i.zero, i.size, i.bytes)) = some (some (.agg #[.int .i64 0, .string ByteArray.empty, .bool false, .string ByteArray.empty]), 4, 48) := by kernel_rfl
    cases hi : Try.prog.info? 75 with
    | none => rw [hi] at h; cases h
    | some i => rw [hi] at h; simp only [Option.map_some, Option.some.injEq, Prod.mk.injEq] at h; exact ⟨i, _, rfl, h.1, h.2.1, h.2.2, rfl⟩
  pos := by decide
  len := fun _ => rfl
  one := fun x u hu => by
    unfold fcE at hu
    simp only [List.mem_cons, List.not_mem_nil, or_false] at hu
    rcases hu with rfl | rfl | rfl | rfl <;> rfl
theorem elemL : RElem lfE 6 Try.prog 59 73 64 where
  und := Try.underlying59
  info := by
    have h : (Try.prog.info? 73).map (fun i => (i.zero, i.size, i.bytes)) = some (some (.agg #[.int .i64 0, .int .i64 0, .int .i64 0, .slice none 0 0, .int .i64 0, .int .i64 0]), 6, 64) := by kernel_rfl
    cases hi : Try.prog.info? 73 with
    | none => rw [hi] at h; cases h
    | some i => rw [hi] at h; simp only [Option.map_some, Option.some.injEq, Prod.mk.injEq] at h; exact ⟨i, _, rfl, h.1, h.2.1, h.2.2, rfl⟩
  pos := by decide
  len := fun _ => rfl
  one := fun x u hu => by
    unfold lfE at hu
    simp only [List.mem_cons, List.not_mem_nil, or_false] at hu
    rcases hu with rfl | rfl | rfl | rfl | rfl | rfl <;> rfl
theorem idx58 (g off m c k : Nat) (i : Int) (hi : i = (k : Int)) (h : k < m) (W : World) : (Instr.indexAt 58 (.slice (some ⟨g, off, none⟩) m c) (.int .i64 i)).run Try.prog W = .ok (.pointer (some ⟨g, off + k * 4, none⟩)) W := by
  subst hi
  have h1 : (0 : Int) ≤ (k : Int) ∧ (k : Int) < (m : Int) := by omega
  go_simp
theorem idx59 (g off m c k : Nat) (i : Int) (hi : i = (k : Int)) (h : k < m) (W : World) : (Instr.indexAt 59 (.slice (some ⟨g, off, none⟩) m c) (.int .i64 i)).run Try.prog W = .ok (.pointer (some ⟨g, off + k * 6, none⟩)) W := by
  subst hi
  have h1 : (0 : Int) ≤ (k : Int) ∧ (k : Int) < (m : Int) := by omega
  go_simp
/-- where what lies, of a log: the facts' and the lives' headers, the headers of what each wrote -/
structure LX where
  fA : Option Addr
  fc : Nat
  lA : Option Addr
  lc : Nat
  hs : List (Option Addr × Nat)
def blkO (A : Option Addr) : Option Nat := A.map (·.block)
structure LgAt (W : World) (B p : Nat) (g : Lg) (x : LX) : Prop where
  hp : B ≤ p
  blk : Blk W p #[.int .i64 g.time, .slice x.fA g.facts.length x.fc, .slice x.lA g.lives.length x.lc] 61
  fa : ROwn fcE 4 W B 75 (.slice x.fA g.facts.length x.fc) g.facts.length g.facts
  li : ROwn lfE 6 W B 73 (.slice x.lA g.lives.length x.lc) g.lives.length (g.lives.zip x.hs)
  hl : x.hs.length = g.lives.length
  ws : ∀ (i : Nat) (h : Option Addr × Nat) (l : Lf), x.hs[i]? = some h → g.lives[i]? = some l → ROwn fcE 4 W B 75 (.slice h.1 l.ws.length h.2) l.ws.length l.ws
  ap : (x.fA :: x.hs.map (·.1)).Pairwise fun a b => ∀ k : Nat, (Value.slice a 0 0).ownBlock = some k → (Value.slice b 0 0).ownBlock ≠ some k
def LTag (W : World) (k : Nat) : Prop := ∃ (cur : Array Value) (t : TypeId), W.heap[k]? = some (.cells cur t (0, 0)) ∧ (t = 61 ∨ t = 73 ∨ t = 75)
/-- but for a log's blocks all stays -/
structure LgK (B : Nat) (W W' : World) : Prop where
  os : W'.os = W.os
  tape : W'.tape = W.tape
  output : W'.output = W.output
  size : W.heap.size ≤ W'.heap.size
  block : ∀ k, k < W.heap.size → (k < B ∨ ¬ LTag W k) → W'.heap[k]? = W.heap[k]?
theorem LgK.of_below {B : Nat} {W W' : World} (h : Below W.heap.size W W') : LgK B W W' := ⟨h.os, h.tape, h.output, h.size, fun k hk _ => h.block k hk⟩
theorem LgK.lift {B n0 : Nat} {w0 W W' : World} (h : LgK B W W') (hb : Below n0 w0 W) (hn : n0 ≤ B) (hs : n0 ≤ W.heap.size) : Below n0 w0 W' :=
  hb.trans ⟨h.os, h.tape, h.output, h.size, fun k hk => h.block k (by omega) (.inl (by omega))⟩
theorem LgK.trans {B : Nat} {W W' W2 : World} (h : LgK B W W') (k : LgK B W' W2) (hm : ∀ i, i < W.heap.size → LTag W' i → LTag W i ∨ i < B) : LgK B W W2 :=
  ⟨k.os.trans h.os, k.tape.trans h.tape, k.output.trans h.output, Nat.le_trans h.size k.size, fun i hi hn => (k.block i (Nat.lt_of_lt_of_le hi h.size) (by
    rcases hn with hn | hn
    · exact .inl hn
    · by_cases hb : i < B
      · exact .inl hb
      · exact .inr (fun ht => (hm i hi ht).elim hn hb))).trans (h.block i hi hn)⟩
theorem MQ_.lgk {W W' : World} {B B' p : Nat} {own : Nat → Nat} {s : MS} (h : MQ_ W B' own p s) (hk : LgK B W W') : MQ_ W' B' own p s := by
  obtain ⟨S, ⟨x, hx, rfl⟩, h6⟩ := h
  refine ⟨_, ⟨x, hx.keepS (fun j hj => hk.block j (hx.lt j hj).2 (.inr ?_)) (fun g cur hgc => hk.block g (Array.getElem?_eq_some_iff.1 hgc).1 (.inr ?_)), rfl⟩, h6⟩
  · rintro ⟨cur, t, hc, ht⟩
    refine (hx.tags j hj).not (show Blk W j cur t from hc) ?_ ?_ ?_ ?_ <;> (rcases ht with rfl | rfl | rfl <;> decide)
  · rintro ⟨cur2, t, hc, ht⟩
    rw [hc] at hgc
    simp only [Option.some.injEq, Obj.cells.injEq] at hgc
    have e := hgc.2.1
    subst e
    rcases ht with ht | ht | ht <;> exact absurd ht (by decide)
section
variable {W W' : World} {B p : Nat} {g : Lg} {x : LX}
/-- the blocks of a log -/
def LgS (p : Nat) (x : LX) (k : Nat) : Prop := k = p ∨ (Value.slice x.fA 0 0).ownBlock = some k ∨ (Value.slice x.lA 0 0).ownBlock = some k ∨ ∃ h ∈ x.hs, (Value.slice h.1 0 0).ownBlock = some k
theorem ob_eq (A : Option Addr) (n c : Nat) : (Value.slice A n c).ownBlock = (Value.slice A 0 0).ownBlock := by cases A <;> rfl
theorem LgAt.keep (h : LgAt W B p g x) (hk : ∀ k, LgS p x k → W'.heap[k]? = W.heap[k]?) : LgAt W' B p g x :=
  ⟨h.hp, (hk p (.inl rfl)).trans h.blk, h.fa.keepS (fun k e => hk k (.inr (.inl (by rw [ob_eq] at e; exact e)))), h.li.keepS (fun k e => hk k (.inr (.inr (.inl (by rw [ob_eq] at e; exact e))))), h.hl,
   fun i y l h1 h2 => (h.ws i y l h1 h2).keepS (fun k e => hk k (.inr (.inr (.inr ⟨y, List.mem_of_getElem? h1, by rw [ob_eq] at e; exact e⟩)))), h.ap⟩
theorem LgAt.tags (h : LgAt W B p g x) : ∀ k, LgS p x k → B ≤ k ∧ k < W.heap.size ∧ LTag W k := fun k hk => by
  rcases hk with rfl | e | e | ⟨y, hy, e⟩
  · exact ⟨h.hp, h.blk.lt, _, 61, h.blk, .inl rfl⟩
  · have e2 := (ob_eq x.fA g.facts.length x.fc).trans e
    obtain ⟨cur, hc⟩ := h.fa.tag k e2
    exact ⟨(h.fa.lt k e2).1, (h.fa.lt k e2).2, cur, 75, hc, .inr (.inr rfl)⟩
  · have e2 := (ob_eq x.lA g.lives.length x.lc).trans e
    obtain ⟨cur, hc⟩ := h.li.tag k e2
    exact ⟨(h.li.lt k e2).1, (h.li.lt k e2).2, cur, 73, hc, .inr (.inl rfl)⟩
  · obtain ⟨i, hi⟩ := List.getElem?_of_mem hy
    have hil : i < g.lives.length := by rw [← h.hl]; exact (List.getElem?_eq_some_iff.1 hi).1
    have hw := h.ws i y _ hi (List.getElem?_eq_getElem hil)
    have e2 := (ob_eq y.1 (g.lives[i]).ws.length y.2).trans e
    obtain ⟨cur, hc⟩ := hw.tag k e2
    exact ⟨(hw.lt k e2).1, (hw.lt k e2).2, cur, 75, hc, .inr (.inr rfl)⟩
theorem LgAt.later (h : LgAt W B p g x) (hb : Below W.heap.size W W') : LgAt W' B p g x := h.keep (fun k hk => hb.block k (h.tags k hk).2.1)
theorem LgAt.kp (h : LgAt W B p g x) (hk : Kp W W') : LgAt W' B p g x := h.keep (fun k hk2 => by
  obtain ⟨_, _, cur, t, hc, ht⟩ := h.tags k hk2
  have hn : t ≠ 110 ∧ t ≠ 112 ∧ t ≠ 85 ∧ t ≠ 3 := by rcases ht with rfl | rfl | rfl <;> decide
  exact (hk.blk k cur t hc hn.1 hn.2.1 hn.2.2.1 hn.2.2.2).trans hc.symm)
theorem LgAt.c0 (h : LgAt W B p g x) : W.cell? ⟨p, 0, none⟩ = some (.int .i64 g.time) ∧ W.cell? ⟨p, 1, none⟩ = some (.slice x.fA g.facts.length x.fc) ∧ W.cell? ⟨p, 2, none⟩ = some (.slice x.lA g.lives.length x.lc) := by
  have h0 := h.blk.cell 0
  have h1 := h.blk.cell 1
  have h2 := h.blk.cell 2
  simp only [List.getElem?_toArray, List.getElem?_cons_zero, List.getElem?_cons_succ] at h0 h1 h2
  exact ⟨h0, h1, h2⟩
/-- a life, as it lies -/
theorem LgAt.life (h : LgAt W B p g x) {i : Nat} (hi : i < g.lives.length) : ∃ (b off : Nat) (hd : Option Addr × Nat), x.lA = some ⟨b, off, none⟩ ∧ x.hs[i]? = some hd ∧ ∀ j, j < 6 → W.cell? ⟨b, off + i * 6 + j, none⟩ = (lfE (gl g i, hd))[j]? := by
  obtain ⟨b, off, hA, _, hc⟩ := (h.li.rsl lfE_len).2 (by omega)
  have hih : i < x.hs.length := by rw [h.hl]; exact hi
  have e1 : gl g i = g.lives[i] := by unfold gl; rw [List.getD_eq_getElem?_getD, List.getElem?_eq_getElem hi]; rfl
  refine ⟨b, off, x.hs[i], hA, List.getElem?_eq_getElem hih, fun j hj => ?_⟩
  rw [e1]
  exact hc i (g.lives[i], x.hs[i]) (by rw [List.getElem?_zip_eq_some]; exact ⟨List.getElem?_eq_getElem hi, List.getElem?_eq_getElem hih⟩) j hj
end
end Go.Proofs.Ytoinjnocopejjaa
