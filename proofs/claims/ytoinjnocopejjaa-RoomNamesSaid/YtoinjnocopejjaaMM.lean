/- The model in memory. -/
import Derived.Test.YtoinjnocopejjaaMA
import Derived.Test.YtoinjnocopejjaaRW
import Derived.Test.YtoinjnocopejjaaKD
namespace Go.Proofs.Ytoinjnocopejjaa
open Go.ChangeShapes Go.WideShapes Go.ChangeAt Go.RowKit Go.Maps
set_option linter.unusedVariables false
set_option linter.unusedSimpArgs false
/-- all but some blocks stays -/
structure FrS (w w' : World) (S : Nat → Prop) : Prop where
  os : w'.os = w.os
  tape : w'.tape = w.tape
  output : w'.output = w.output
  size : w.heap.size ≤ w'.heap.size
  block : ∀ k, k < w.heap.size → ¬ S k → w'.heap[k]? = w.heap[k]?
section
variable {w w' w2 : World} {S S' : Nat → Prop}
theorem FrS.of_below (h : Below w.heap.size w w') : FrS w w' S := ⟨h.os, h.tape, h.output, h.size, fun k hk _ => h.block k hk⟩
theorem FrS.of_grown {r : Option Nat} (h : w.grownBy w' r) (h1 : ∀ k, r = some k → S k) : FrS w w' S := ⟨h.os, h.tape, h.output, h.size, fun k hk hn => h.block k hk (fun e => hn (h1 k e.symm))⟩
theorem FrS.trans (h : FrS w w' S) (k : FrS w' w2 S') (hS : ∀ i, S' i → S i ∨ w.heap.size ≤ i) : FrS w w2 S :=
  ⟨k.os.trans h.os, k.tape.trans h.tape, k.output.trans h.output, Nat.le_trans h.size k.size, fun i hi hn => (k.block i (Nat.lt_of_lt_of_le hi h.size) (fun e => (hS i e).elim hn (by omega))).trans (h.block i hi hn)⟩
theorem FrS.below {w0 : World} {B0 : Nat} (h : FrS w w' S) (hb : Below B0 w0 w) (hB : B0 ≤ w.heap.size) (hS : ∀ i, S i → B0 ≤ i) : Below B0 w0 w' :=
  hb.trans ⟨h.os, h.tape, h.output, h.size, fun k hk => h.block k (by omega) (fun e => by have := hS k e; omega)⟩
theorem FrS.blk {q : Nat} {c : Array Value} {t : TypeId} (h : FrS w w' S) (k : Blk w q c t) (hq : ¬ S q) : Blk w' q c t := (h.block q k.lt hq).trans k
end
/-- what lies there of a key: the versions' slice, the versions, the intent -/
structure Hd where
  A : Option Addr
  n : Nat
  c : Nat
  L : List Ver
  I : Ver
def hdR (h : Hd) : Rw := (h.L, h.I)
def hd0 : Hd := ⟨none, 0, 0, [], ver0⟩
def rowV (h : Hd) : Value := .agg #[.slice h.A h.n h.c, .int .i64 h.I.w, .int .i64 h.I.ts, .bool h.I.tomb, .string h.I.val]
def HdAt (W : World) (h : Hd) : Prop := VRow W 0 h.A h.n h.L ∧ h.n ≤ h.c ∧ (h.A = none → h.n = 0 ∧ h.c = 0) ∧ h.n ≤ 8
theorem hd0_at (W : World) : HdAt W hd0 := ⟨⟨rfl, fun h => absurd h (Nat.lt_irrefl _)⟩, Nat.le_refl _, fun _ => ⟨rfl, rfl⟩, Nat.zero_le _⟩
theorem vrow_keep {W W' : World} {B n : Nat} {A : Option Addr} {vs : List Ver} (h : VRow W B A n vs) (hk : ∀ (g : Nat) (cur : Array Value), W.heap[g]? = some (.cells cur 26 (0, 0)) → W'.heap[g]? = W.heap[g]?) : VRow W' B A n vs :=
  ⟨h.len, fun hn => by
    obtain ⟨g, cur, h1, h2, h3, h4⟩ := h.blk hn
    exact ⟨g, cur, h1, h2, (hk g cur h3).trans h3, h4⟩⟩
theorem HdAt.keep {W W' : World} {h : Hd} (H : HdAt W h) (hk : ∀ (g : Nat) (cur : Array Value), W.heap[g]? = some (.cells cur 26 (0, 0)) → W'.heap[g]? = W.heap[g]?) : HdAt W' h := ⟨vrow_keep H.1 hk, H.2⟩
theorem HdAt.later {W W' : World} {h : Hd} (H : HdAt W h) (hb : Below W.heap.size W W') : HdAt W' h := H.keep (fun g cur hg => hb.block g (Array.getElem?_eq_some_iff.1 hg).1)
/-- where what lies, of a model -/
structure MX where
  tv : Value
  tb : Nat
  kv : List Value
  b : Nat
  hs : List (ByteArray × Hd)
def txE (p : Int × Int) : List Value := [.int .u8 p.1, .int .i64 p.2]
def iE (x : Int) : Value := .int .i64 x
def mdC (c : Conf) (cl fl : Int) (tv : Value) (tb n b : Nat) : List Value :=
  [.int .i64 c.ta, .int .i64 c.ac, .int .i64 c.ke, .int .i64 c.de, .int .i64 c.ts, .int .i64 c.kl, .int .i64 c.vl, .int .i64 c.fa, .int .i64 cl, .int .i64 fl, tv, .slice (some ⟨tb, 0, none⟩) n n, .map (some b)]
/-- the blocks that are a model's -/
def MxS (p : Nat) (x : MX) (k : Nat) : Prop := k = p ∨ x.tv.ownBlock = some k ∨ k = x.tb ∨ (∃ v ∈ x.kv, v.ownBlock = some k) ∨ k = x.b
def DM (x : MX) : DV := dm (mp rowV x.hs)
structure MdAt (W : World) (B p : Nat) (s : MS) (x : MX) : Prop where
  hp : B ≤ p
  blk : Blk W p (mdC s.cf s.clock s.floor x.tv x.tb s.tasks.length x.b).toArray 110
  tx : ROwn txE 2 W B 112 x.tv s.txns.length s.txns
  htb : B ≤ x.tb
  tb : Blk W x.tb x.kv.toArray 85
  kl : x.kv.length = s.tasks.length
  num : ∀ (i : Nat) (v : Value) (l : List Int), x.kv[i]? = some v → s.tasks[i]? = some l → Ow iE W B 3 v l.length l
  ap : x.kv.Pairwise fun v v' => ∀ k : Nat, v.ownBlock = some k → v'.ownBlock ≠ some k
  hb : B ≤ x.b
  map : W.ownsMap Try.prog 9 RH x.b s.rows.length (DM x)
  rows : s.rows = mp hdR x.hs
  ver : ∀ q ∈ x.hs, HdAt W q.2
  ok : OkM s
def MR (W : World) (B p : Nat) (s : MS) (S : Nat → Prop) : Prop := ∃ x, MdAt W B p s x ∧ S = MxS p x
section
variable {W W' : World} {B p : Nat} {s : MS} {x : MX} {S S' : Nat → Prop}
theorem map_keep {P : Program} {k : TypeId} {R : Value → Option (DV × List MemPlace)} {b n : Nat} {D : DV} (h : W.ownsMap P k R b n D) (e : W'.heap[b]? = W.heap[b]?) : W'.ownsMap P k R b n D := by
  obtain ⟨es, clock, hb, r⟩ := h
  exact ⟨es, clock, e.trans hb, r⟩
theorem ow_keep {α : Type} {enc : α → Value} {e n : Nat} {v : Value} {L : List α} (h : Ow enc W B e v n L) (hk : ∀ i, v.ownBlock = some i → W'.heap[i]? = W.heap[i]?) : Ow enc W' B e v n L := by
  refine ⟨h.1, ?_⟩
  rcases h.2 with h1 | ⟨g, cap, cur, rfl, hB, hg, r⟩
  · exact .inl h1
  · exact .inr ⟨g, cap, cur, rfl, hB, (hk g rfl).trans hg, r⟩
theorem MdAt.up (h : MdAt W B p s x) : Up x.hs := by have := h.ok.up; rw [h.rows] at this; exact (mp_up hdR).1 this
theorem MdAt.len (h : MdAt W B p s x) : x.hs.length = s.rows.length := by rw [h.rows, mp_len]
theorem own_tight {k : TypeId} {R : Value → Option (DV × List MemPlace)} {b n : Nat} {l : List (ByteArray × Value)} (h : W.ownsMap Try.prog k R b n (dm l)) : W.ownsMap Try.prog k R b l.length (dm l) := by
  obtain ⟨es, clock, hb, F, hs, hD⟩ := h
  refine ⟨es, clock, hb, F, ?_, hD⟩
  have e : (l.map encH).length = ((es.toList.map (WideElems.rg Try.prog k R)).foldr DataW.insert []).length := by
    unfold dm at hD
    simp only [DataW.map.injEq] at hD
    rw [hD]
  rw [length_sorted] at e
  simp at e
  omega
theorem MdAt.keepS (h : MdAt W B p s x) (hk : ∀ k, MxS p x k → W'.heap[k]? = W.heap[k]?) (hv : ∀ (g : Nat) (cur : Array Value), W.heap[g]? = some (.cells cur 26 (0, 0)) → W'.heap[g]? = W.heap[g]?) : MdAt W' B p s x :=
  ⟨h.hp, (hk p (.inl rfl)).trans h.blk, h.tx.keepS (fun k e => hk k (.inr (.inl e))), h.htb, (hk x.tb (.inr (.inr (.inl rfl)))).trans h.tb, h.kl,
   fun i v l h1 h2 => ow_keep (h.num i v l h1 h2) (fun k e => hk k (.inr (.inr (.inr (.inl ⟨v, List.mem_of_getElem? h1, e⟩))))), h.ap, h.hb, map_keep h.map (hk x.b (.inr (.inr (.inr (.inr rfl))))), h.rows, fun q hq => (h.ver q hq).keep hv, h.ok⟩
theorem MdAt.num_of (h : MdAt W B p s x) {v : Value} (hv : v ∈ x.kv) : ∃ l n, Ow iE W B 3 v n l := by
  obtain ⟨i, hi⟩ := List.getElem?_of_mem hv
  have hl : i < s.tasks.length := by have := (List.getElem?_eq_some_iff.1 hi).1; rw [h.kl] at this; exact this
  exact ⟨_, _, h.num i v _ hi (List.getElem?_eq_getElem hl)⟩
theorem MdAt.lt (h : MdAt W B p s x) : ∀ k, MxS p x k → B ≤ k ∧ k < W.heap.size := fun k hk => by
  rcases hk with rfl | e | rfl | ⟨v, hv, e⟩ | rfl
  · exact ⟨h.hp, h.blk.lt⟩
  · exact h.tx.lt k e
  · exact ⟨h.htb, h.tb.lt⟩
  · obtain ⟨l, n, ho⟩ := h.num_of hv
    exact ho.lt k e
  · exact ⟨h.hb, h.map.lt⟩
/-- what kind of blocks they are -/
def TagM (W : World) (k : Nat) : Prop := (∃ (cur : Array Value) (t : TypeId), W.heap[k]? = some (.cells cur t (0, 0)) ∧ (t = 110 ∨ t = 112 ∨ t = 85 ∨ t = 3)) ∨ ∃ es cl, W.heap[k]? = some (.map es cl)
theorem MdAt.tags (h : MdAt W B p s x) : ∀ k, MxS p x k → TagM W k := fun k hk => by
  rcases hk with rfl | e | rfl | ⟨v, hv, e⟩ | rfl
  · exact .inl ⟨_, 110, h.blk, .inl rfl⟩
  · obtain ⟨cur, hc⟩ := h.tx.tag k e
    exact .inl ⟨cur, 112, hc, .inr (.inl rfl)⟩
  · exact .inl ⟨_, 85, h.tb, .inr (.inr (.inl rfl))⟩
  · obtain ⟨l, n, ho⟩ := h.num_of hv
    obtain ⟨cur, hc⟩ := ho.tag k e
    exact .inl ⟨cur, 3, hc, .inr (.inr (.inr rfl))⟩
  · obtain ⟨es, cl, hb, _⟩ := h.map
    exact .inr ⟨es, cl, hb⟩
theorem TagM.not {k : Nat} {c : Array Value} {t : TypeId} (h : TagM W k) (hb : Blk W k c t) (h1 : t ≠ 110) (h2 : t ≠ 112) (h3 : t ≠ 85) (h4 : t ≠ 3) : False := by
  have hb : W.heap[k]? = some (.cells c t (0, 0)) := hb
  rcases h with ⟨cur, t', hc, ht⟩ | ⟨es, cl, hc⟩
  · rw [hb] at hc; simp only [Option.some.injEq, Obj.cells.injEq] at hc
    rw [← hc.2.1] at ht; rcases ht with e | e | e | e
    · exact h1 e
    · exact h2 e
    · exact h3 e
    · exact h4 e
  · rw [hb] at hc; cases hc
theorem MdAt.fr (h : MdAt W B p s x) (hf : FrS W W' S') (hd : ∀ k, MxS p x k → ¬ S' k) (ht : ∀ k, S' k → k < W.heap.size → TagM W k) : MdAt W' B p s x :=
  h.keepS (fun k hk => hf.block k (h.lt k hk).2 (hd k hk)) (fun g cur hg => hf.block g (Array.getElem?_eq_some_iff.1 hg).1 (fun e => (ht g e (Array.getElem?_eq_some_iff.1 hg).1).not hg (by decide) (by decide) (by decide) (by decide)))
theorem MdAt.later (h : MdAt W B p s x) (hb : Below W.heap.size W W') : MdAt W' B p s x :=
  h.fr (S' := fun _ => False) (FrS.of_below hb) (fun _ _ e => e) (fun _ e => e.elim)
theorem MR.later (h : MR W B p s S) (hb : Below W.heap.size W W') : MR W' B p s S := by
  obtain ⟨x, hx, e⟩ := h
  exact ⟨x, hx.later hb, e⟩
theorem MR.ok (h : MR W B p s S) : OkM s := by obtain ⟨x, hx, _⟩ := h; exact hx.ok
theorem MR.lt (h : MR W B p s S) : ∀ k, S k → B ≤ k ∧ k < W.heap.size := by obtain ⟨x, hx, rfl⟩ := h; exact hx.lt
theorem MR.tags (h : MR W B p s S) : ∀ k, S k → TagM W k := by obtain ⟨x, hx, rfl⟩ := h; exact hx.tags
theorem MR.fr (h : MR W B p s S) (hf : FrS W W' S') (hd : ∀ k, S k → ¬ S' k) (ht : ∀ k, S' k → k < W.heap.size → TagM W k) : MR W' B p s S := by
  obtain ⟨x, hx, rfl⟩ := h
  exact ⟨x, hx.fr hf hd ht, rfl⟩
theorem MR.base {B' : Nat} (h : MR W B p s S) (hb : B' ≤ B) : MR W B' p s S := by
  obtain ⟨x, hx, e⟩ := h
  refine ⟨x, ⟨Nat.le_trans hb hx.hp, hx.blk, hx.tx.base hb, Nat.le_trans hb hx.htb, hx.tb, hx.kl, fun i v l h1 h2 => (hx.num i v l h1 h2).base hb, hx.ap, Nat.le_trans hb hx.hb, hx.map, hx.rows, hx.ver, hx.ok⟩, e⟩
theorem MR.out {q : Nat} {c : Array Value} {t : TypeId} (h : MR W B p s S) (hb : Blk W q c t) (h1 : t ≠ 110) (h2 : t ≠ 112) (h3 : t ≠ 85) (h4 : t ≠ 3) : ¬ S q := fun e => (h.tags q e).not hb h1 h2 h3 h4
/-- a row of other elements stays -/
theorem ROwn.frS {α : Type} {enc : α → List Value} {k e n : Nat} {v : Value} {L : List α} (h : ROwn enc k W B e v n L) (hf : FrS W W' S') (ht : ∀ k, S' k → k < W.heap.size → TagM W k) (h1 : e ≠ 110) (h2 : e ≠ 112) (h3 : e ≠ 85) (h4 : e ≠ 3) : ROwn enc k W' B e v n L :=
  h.keepS (fun i hi => by
    obtain ⟨cur, hc⟩ := h.tag i hi
    exact hf.block i (h.lt i hi).2 (fun e => (ht i e (h.lt i hi).2).not hc h1 h2 h3 h4))
theorem Ow.frS {α : Type} {enc : α → Value} {e n : Nat} {v : Value} {L : List α} (h : Ow enc W B e v n L) (hf : FrS W W' S') (ht : ∀ k, S' k → k < W.heap.size → TagM W k) (h1 : e ≠ 110) (h2 : e ≠ 112) (h3 : e ≠ 85) (h4 : e ≠ 3) : Ow enc W' B e v n L :=
  ow_keep h (fun i hi => by
    obtain ⟨cur, hc⟩ := h.tag i hi
    exact hf.block i (h.lt i hi).2 (fun e => (ht i e (h.lt i hi).2).not hc h1 h2 h3 h4))
/-- behind what turns a model -/
def Mv (s' : MS) (B p : Nat) (S : Nat → Prop) (w w' : World) : Prop := ∃ S', MR w' B p s' S' ∧ FrS w w' S ∧ ∀ k, S' k → S k ∨ w.heap.size ≤ k
theorem Mv.same (h : MR W B p s S) (hb : Below W.heap.size W W') : Mv s B p S W W' := ⟨S, h.later hb, FrS.of_below hb, fun k e => .inl e⟩
theorem MdAt.c0 (h : MdAt W B p s x) (j : Nat) : W.cell? ⟨p, j, none⟩ = (mdC s.cf s.clock s.floor x.tv x.tb s.tasks.length x.b)[j]? := by
  rw [h.blk.cell]; simp
end
end Go.Proofs.Ytoinjnocopejjaa
