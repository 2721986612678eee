/- The arena in memory; what changes, and what stays. -/
import Derived.Test.YtbncpfkoeahhpaaJY1
import Derived.Test.YtbncpfkoeahhpaaGA
import Derived.Test.YtbncpfkoeahhpaaGB
namespace Go.Proofs.Ytbncpfkoeahhpaa
open Go.ChangeShapes Go.WideShapes Go.ChangeAt Go.RowKit Go.Maps
set_option linter.unusedVariables false
set_option linter.unusedSimpArgs false

def pv (p : Nat) : Value := .pointer (some ⟨p, 0, none⟩)
theorem elemP : Elem Try.prog 90 89 pv 8 where
  und := Try.underlying90
  info := by
    have h : (Try.prog.info? 89).map (fun i => (i.zero, i.size, i.bytes)) = some (some (.pointer none), 1, 8) := by kernel_rfl
    cases hi : Try.prog.info? 89 with
    | none => rw [hi] at h; cases h
    | some i => rw [hi] at h; simp only [Option.map_some, Option.some.injEq, Prod.mk.injEq] at h; exact ⟨i, _, rfl, h.1, h.2.1, h.2.2, rfl⟩
  one := fun _ => rfl
theorem ow_keep {α : Type} {enc : α → Value} {W W' : World} {B e n : Nat} {v : Value} {xs : List α} (o : Ow enc W B e v n xs) (hk : ∀ k, v.ownBlock = some k → W'.heap[k]? = W.heap[k]?) : Ow enc W' B e v n xs := by
  refine ⟨o.1, ?_⟩
  rcases o.2 with h1 | ⟨g, cap, cur, e, hB, hg, rest⟩
  · exact .inl h1
  · exact .inr ⟨g, cap, cur, e, hB, (hk g (by rw [e]; rfl)).trans hg, rest⟩
theorem map_keep {W W' : World} {B b : Nat} {G : List gn.Ct} (h : gn.MapAt W B b G) (hk : W'.heap[b]? = W.heap[b]?) : gn.MapAt W' B b G := by
  obtain ⟨es, clock, hb, r⟩ := h.2
  exact ⟨h.1, es, clock, hk.trans hb, r⟩
theorem pgs_keep {W W' : World} {B p b s : Nat} {st : PS} (h : PgS W B p b s st) (h1 : W'.heap[p]? = W.heap[p]?) (h2 : W'.heap[b]? = W.heap[b]?) : PgS W' B p b s st := by
  have ha := Pg.at_ h
  refine ⟨⟨ha.hp, h1.trans ha.blk, ⟨ha.own.1, ?_⟩, ha.ok, ha.len⟩, Pg.inv h⟩
  obtain ⟨es, clock, hm, r⟩ := ha.own.2
  exact ⟨es, clock, h2.trans hm, r⟩
/-- a page: its blocks, what it is -/
abbrev Pe := Nat × Nat × PS
structure Ar (W : World) (B a g : Nat) (v : Value) (low s : Nat) (Ps : List Pe) (G : List gn.Ct) : Prop where
  hp : B ≤ a
  blk : Blk W a #[.int .i64 (s : Int), v, .int .i64 (low : Int), .map (some g)] 93
  row : Ow pv W B 89 v Ps.length (Ps.map (fun x => x.1))
  gens : gn.MapAt W B g G
  gok : gn.Ok G
  pgs : ∀ x ∈ Ps, PgS W B x.1 x.2.1 s x.2.2
  ap : Ps.Pairwise (fun x y => x.1 ≠ y.1 ∧ x.2.1 ≠ y.2.1)
  ng : ∀ x ∈ Ps, x.2.1 ≠ g
/-- the blocks that are the arena's -/
def ArSet (a g : Nat) (v : Value) (Ps : List Pe) (k : Nat) : Prop := k = a ∨ k = g ∨ v.ownBlock = some k ∨ ∃ x ∈ Ps, k = x.1 ∨ k = x.2.1
/-- all but some blocks stays -/
structure FrS (w w' : World) (S : Nat → Prop) : Prop where
  os : w'.os = w.os
  tape : w'.tape = w.tape
  output : w'.output = w.output
  size : w.heap.size ≤ w'.heap.size
  block : ∀ k, k < w.heap.size → ¬ S k → w'.heap[k]? = w.heap[k]?
section
variable {w w' w2 W W' : World} {S S' : Nat → Prop} {B a g low s : Nat} {v v2 : Value} {Ps : List Pe} {G : List gn.Ct}
theorem FrS.of_below (h : Below w.heap.size w w') : FrS w w' S := ⟨h.os, h.tape, h.output, h.size, fun k hk _ => h.block k hk⟩
theorem FrS.of_fr {p b : Nat} (h : Fr w w' p b) (h1 : S p) (h2 : S b) : FrS w w' S := ⟨h.os, h.tape, h.output, h.size, fun k hk hn => h.block k hk (fun e => hn (e ▸ h1)) (fun e => hn (e ▸ h2))⟩
theorem FrS.of_grown {r : Option Nat} (h : w.grownBy w' r) (h1 : ∀ k, r = some k → S k) : FrS w w' S := ⟨h.os, h.tape, h.output, h.size, fun k hk hn => h.block k hk (fun e => hn (h1 k e.symm))⟩
theorem FrS.trans (h : FrS w w' S) (k : FrS w' w2 S') (hS : ∀ i, S' i → S i ∨ w.heap.size ≤ i) : FrS w w2 S :=
  ⟨k.os.trans h.os, k.tape.trans h.tape, k.output.trans h.output, Nat.le_trans h.size k.size, fun i hi hn => (k.block i (Nat.lt_of_lt_of_le hi h.size) (fun e => (hS i e).elim hn (by omega))).trans (h.block i hi hn)⟩
theorem FrS.below {w0 : World} {B0 : Nat} (h : FrS w w' S) (hb : Below B0 w0 w) (hB : B0 ≤ w.heap.size) (hS : ∀ i, S i → B0 ≤ i) : Below B0 w0 w' :=
  hb.trans ⟨h.os, h.tape, h.output, h.size, fun k hk => h.block k (by omega) (fun e => by have := hS k e; omega)⟩
theorem FrS.blk {q : Nat} {c : Array Value} {t : TypeId} (h : FrS w w' S) (k : Blk w q c t) (hq : ¬ S q) : Blk w' q c t := (h.block q k.lt hq).trans k
theorem Ar.keepS (h : Ar W B a g v low s Ps G) (hz : W.heap.size ≤ W'.heap.size) (hk : ∀ k, ArSet a g v Ps k → W'.heap[k]? = W.heap[k]?) : Ar W' B a g v low s Ps G :=
  ⟨h.hp, (hk a (.inl rfl)).trans h.blk, ow_keep h.row (fun k e => hk k (.inr (.inr (.inl e)))), map_keep h.gens (hk g (.inr (.inl rfl))), h.gok, fun x hx => pgs_keep (h.pgs x hx) (hk _ (.inr (.inr (.inr ⟨x, hx, .inl rfl⟩)))) (hk _ (.inr (.inr (.inr ⟨x, hx, .inr rfl⟩)))), h.ap, h.ng⟩
theorem Ar.lt (h : Ar W B a g v low s Ps G) : ∀ k, ArSet a g v Ps k → B ≤ k ∧ k < W.heap.size := fun k hk => by
  rcases hk with rfl | rfl | e | ⟨x, hx, rfl | rfl⟩
  · exact ⟨h.hp, h.blk.lt⟩
  · exact ⟨h.gens.1, h.gens.2.lt⟩
  · exact Ow.lt h.row k e
  · have ha := Pg.at_ (h.pgs x hx)
    exact ⟨ha.hp, ha.plt⟩
  · have ha := Pg.at_ (h.pgs x hx)
    exact ⟨ha.own.1, ha.blt⟩
theorem Ar.later (h : Ar W B a g v low s Ps G) (hb : Below W.heap.size W W') : Ar W' B a g v low s Ps G := h.keepS hb.size (fun k hk => hb.block k (h.lt k hk).2)
theorem Ar.base {B' : Nat} (h : Ar W B a g v low s Ps G) (hb : B' ≤ B) : Ar W B' a g v low s Ps G :=
  ⟨Nat.le_trans hb h.hp, h.blk, Ow.base h.row hb, ⟨Nat.le_trans hb h.gens.1, h.gens.2⟩, h.gok, fun x hx => (h.pgs x hx).base hb, h.ap, h.ng⟩
theorem Ar.fr (h : Ar W B a g v low s Ps G) (hf : FrS W W' S) (hd : ∀ k, ArSet a g v Ps k → ¬ S k) : Ar W' B a g v low s Ps G :=
  h.keepS hf.size (fun k hk => hf.block k (h.lt k hk).2 (hd k hk))
/-- what each block is -/
theorem Ar.ta (h : Ar W B a g v low s Ps G) : ∃ c, W.heap[a]? = some (.cells c 93 (0, 0)) := ⟨_, h.blk⟩
theorem Ar.tg (h : Ar W B a g v low s Ps G) : ∃ es k, W.heap[g]? = some (.map es k) := by
  obtain ⟨es, clock, hm, _⟩ := h.gens.2
  exact ⟨es, clock, hm⟩
theorem Ar.tv (h : Ar W B a g v low s Ps G) {k : Nat} (e : v.ownBlock = some k) : ∃ c, W.heap[k]? = some (.cells c 89 (0, 0)) := Ow.tag h.row k e
theorem pgs_tp {p b : Nat} {st : PS} (h : PgS W B p b s st) : ∃ c, W.heap[p]? = some (.cells c 128 (0, 0)) := ⟨_, (Pg.at_ h).blk⟩
theorem pgs_tb {p b : Nat} {st : PS} (h : PgS W B p b s st) : ∃ es k, W.heap[b]? = some (.map es k) := by
  obtain ⟨es, clock, hm, _⟩ := (Pg.at_ h).own.2
  exact ⟨es, clock, hm⟩
theorem obj_ne {W : World} {k k' : Nat} {c : Array Value} {t : TypeId} {es : Array MapEntry} {z : Nat} (h : W.heap[k]? = some (.cells c t (0, 0))) (h' : W.heap[k']? = some (.map es z)) : k ≠ k' := fun e => by rw [e, h'] at h; cases h
theorem tag_ne {W : World} {k k' : Nat} {c c' : Array Value} {t t' : TypeId} (h : W.heap[k]? = some (.cells c t (0, 0))) (h' : W.heap[k']? = some (.cells c' t' (0, 0))) (ht : t ≠ t') : k ≠ k' := fun e => by rw [e, h'] at h; cases h; exact ht rfl
theorem Ar.ag (h : Ar W B a g v low s Ps G) : a ≠ g := by
  obtain ⟨c, h1⟩ := h.ta
  obtain ⟨es, k, h2⟩ := h.tg
  exact obj_ne h1 h2
theorem Ar.av (h : Ar W B a g v low s Ps G) : v.ownBlock ≠ some a := fun e => by
  obtain ⟨c, h1⟩ := h.ta
  obtain ⟨c2, h2⟩ := h.tv e
  exact tag_ne h1 h2 (by decide) rfl
theorem Ar.vg (h : Ar W B a g v low s Ps G) : v.ownBlock ≠ some g := fun e => by
  obtain ⟨es, k, h1⟩ := h.tg
  obtain ⟨c2, h2⟩ := h.tv e
  exact obj_ne h2 h1 rfl
theorem Ar.pa (h : Ar W B a g v low s Ps G) {x : Pe} (hx : x ∈ Ps) : x.1 ≠ a ∧ x.2.1 ≠ a ∧ x.1 ≠ g ∧ v.ownBlock ≠ some x.1 ∧ v.ownBlock ≠ some x.2.1 := by
  obtain ⟨c, h1⟩ := h.ta
  obtain ⟨es, k, h2⟩ := h.tg
  obtain ⟨c3, h3⟩ := pgs_tp (h.pgs x hx)
  obtain ⟨es4, k4, h4⟩ := pgs_tb (h.pgs x hx)
  refine ⟨tag_ne h3 h1 (by decide), fun e => obj_ne h1 h4 e.symm, obj_ne h3 h2, fun e => ?_, fun e => ?_⟩
  · obtain ⟨c5, h5⟩ := h.tv e
    exact tag_ne h5 h3 (by decide) rfl
  · obtain ⟨c5, h5⟩ := h.tv e
    exact obj_ne h5 h4 rfl
/-- a field is set, that is no part of what the blocks are -/
theorem Ar.setLow (h : Ar W B a g v low s Ps G) (l : Nat) : Ar (W.setCell ⟨a, 2, none⟩ (.int .i64 (l : Int))) B a g v l s Ps G :=
  ⟨h.hp, h.blk.set (j := 2) _, ow_keep h.row (fun k e => (grown_set W a 2 _).block k (Ow.lt h.row k e).2 (fun e2 => h.av (by rw [e]; exact e2))), map_keep h.gens ((grown_set W a 2 _).block g h.gens.2.lt (fun e => h.ag (Option.some.inj e).symm)), h.gok, fun x hx => pgs_keep (h.pgs x hx) ((grown_set W a 2 _).block _ (Pg.at_ (h.pgs x hx)).plt (fun e => (h.pa hx).1 (Option.some.inj e))) ((grown_set W a 2 _).block _ (Pg.at_ (h.pgs x hx)).blt (fun e => (h.pa hx).2.1 (Option.some.inj e))), h.ap, h.ng⟩
theorem Ar.frLow (h : Ar W B a g v low s Ps G) (l : Nat) : FrS W (W.setCell ⟨a, 2, none⟩ (.int .i64 (l : Int))) (ArSet a g v Ps) := FrS.of_grown (grown_set W a 2 _) (fun k e => .inl (Option.some.inj e).symm)
theorem pe_ne {Ps : List Pe} (h : Ps.Pairwise (fun x y => x.1 ≠ y.1 ∧ x.2.1 ≠ y.2.1)) {i j : Nat} (hi : i < Ps.length) (hj : j < Ps.length) (hne : i ≠ j) : (Ps[i]).1 ≠ (Ps[j]).1 ∧ (Ps[i]).2.1 ≠ (Ps[j]).2.1 := by
  have hp := List.pairwise_iff_getElem.1 h
  rcases Nat.lt_or_gt_of_ne hne with h1 | h1
  · exact hp i j hi hj h1
  · have := hp j i hj hi h1
    exact ⟨fun e => this.1 e.symm, fun e => this.2 e.symm⟩
theorem set_map {Ps : List Pe} {i : Nat} {p b : Nat} {P P' : PS} (h : Ps[i]? = some (p, b, P)) : (Ps.set i (p, b, P')).map (fun x => x.1) = Ps.map (fun x => x.1) := by
  apply List.ext_getElem?
  intro j
  rw [List.map_set, List.getElem?_set]
  by_cases e : i = j
  · subst e
    have hl := (List.getElem?_eq_some_iff.1 h).1
    rw [if_pos rfl, List.length_map, if_pos hl, List.getElem?_map, h]; rfl
  · rw [if_neg e]
/-- a page became another one, in its blocks -/
theorem Ar.page (h : Ar W B a g v low s Ps G) {i p b : Nat} {P P' : PS} (hi : Ps[i]? = some (p, b, P)) (hf : Fr W W' p b) (hp : PgS W' B p b s P') : Ar W' B a g v low s (Ps.set i (p, b, P')) G := by
  have hm : (p, b, P) ∈ Ps := List.mem_of_getElem? hi
  have hl := (List.getElem?_eq_some_iff.1 hi).1
  have ei := (List.getElem?_eq_some_iff.1 hi).2
  have h0 := h.pgs _ hm
  have ha := Pg.at_ h0
  obtain ⟨n1, n2, n3, n4, n5⟩ := h.pa hm
  refine ⟨h.hp, hf.blk h.blk (Ne.symm n1) (Ne.symm n2), ?_, map_keep h.gens (hf.block g h.gens.2.lt (Ne.symm n3) (fun e => h.ng _ hm e.symm)), h.gok, fun x hx => ?_, ?_, fun x hx => ?_⟩
  · rw [set_map hi, List.length_set]
    exact ow_keep h.row (fun k e => hf.block k (Ow.lt h.row k e).2 (fun e2 => n4 (by rw [e, e2])) (fun e2 => n5 (by rw [e, e2])))
  · obtain ⟨j, hj, rfl⟩ := List.getElem_of_mem hx
    rw [List.length_set] at hj
    rw [List.getElem_set]
    by_cases e : i = j
    · rw [if_pos e]; exact hp
    · rw [if_neg e]
      have hx' := h.pgs _ (List.getElem_mem hj)
      have hn := pe_ne h.ap hj hl (Ne.symm e)
      rw [ei] at hn
      obtain ⟨c1, t1⟩ := pgs_tp hx'
      obtain ⟨es1, k1, u1⟩ := pgs_tb hx'
      obtain ⟨c2, t2⟩ := pgs_tp h0
      obtain ⟨es2, k2, u2⟩ := pgs_tb h0
      exact pgs_keep hx' (hf.block _ (Pg.at_ hx').plt hn.1 (obj_ne t1 u2)) (hf.block _ (Pg.at_ hx').blt (fun e2 => obj_ne t2 u1 e2.symm) hn.2)
  · rw [List.pairwise_iff_getElem]
    intro j k hj hk hjk
    rw [List.length_set] at hj hk
    have := List.pairwise_iff_getElem.1 h.ap j k hj hk hjk
    rw [List.getElem_set, List.getElem_set]
    by_cases e1 : i = j <;> by_cases e2 : i = k
    · omega
    · subst e1; rw [if_pos rfl, if_neg e2]; rw [ei] at this; exact this
    · subst e2; rw [if_neg e1, if_pos rfl]; rw [ei] at this; exact this
    · rw [if_neg e1, if_neg e2]; exact this
  · obtain ⟨j, hj, rfl⟩ := List.getElem_of_mem hx
    rw [List.length_set] at hj
    rw [List.getElem_set]
    by_cases e : i = j
    · rw [if_pos e]; exact h.ng (p, b, P) hm
    · rw [if_neg e]; exact h.ng _ (List.getElem_mem hj)
theorem ArSet.page {i p b : Nat} {P P' : PS} (hi : Ps[i]? = some (p, b, P)) {k : Nat} : ArSet a g v (Ps.set i (p, b, P')) k → ArSet a g v Ps k := fun hk => by
  rcases hk with h | h | h | ⟨x, hx, h⟩
  · exact .inl h
  · exact .inr (.inl h)
  · exact .inr (.inr (.inl h))
  · refine .inr (.inr (.inr ?_))
    obtain ⟨j, hj, rfl⟩ := List.getElem_of_mem hx
    rw [List.length_set] at hj
    rw [List.getElem_set] at h
    by_cases e : i = j
    · rw [if_pos e] at h
      exact ⟨_, List.mem_of_getElem? hi, h⟩
    · rw [if_neg e] at h
      exact ⟨_, List.getElem_mem hj, h⟩
/-- how often a slot was given is set -/
theorem Ar.gens_turn (h : Ar W B a g v low s Ps G) {n : Nat} {G' : List gn.Ct} (hg : W.grownBy W' (some g)) (ho : W'.ownsMap Try.prog 96 gn.R3 g n (gn.dm G')) (ok : gn.Ok G') : Ar W' B a g v low s Ps G' :=
  ⟨h.hp, h.blk.grown hg (fun e => h.ag (Option.some.inj e)), ow_keep h.row (fun k e => hg.block k (Ow.lt h.row k e).2 (fun e2 => h.vg (by rw [e]; exact e2))), ⟨h.gens.1, gn.own_tight ho⟩, ok, fun x hx => pgs_keep (h.pgs x hx) (hg.block _ (Pg.at_ (h.pgs x hx)).plt (fun e => (h.pa hx).2.2.1 (Option.some.inj e))) (hg.block _ (Pg.at_ (h.pgs x hx)).blt (fun e => h.ng x hx (Option.some.inj e))), h.ap, h.ng⟩
/-- a page more -/
theorem Ar.more (h : Ar W B a g v low s Ps G) {p b : Nat} {P : PS} (hp : PgS W B p b s P) (h1 : ∀ x ∈ Ps, x.1 ≠ p ∧ x.2.1 ≠ b) (h2 : b ≠ g) (hv : Ow pv W' B 89 v2 (Ps.length + 1) (Ps.map (fun x => x.1) ++ [p])) (hg : W.grownBy W' v.ownBlock) :
    Blk W' a #[.int .i64 (s : Int), v, .int .i64 (low : Int), .map (some g)] 93 ∧ Ar (W'.setCell ⟨a, 1, none⟩ v2) B a g v2 low s (Ps ++ [(p, b, P)]) G := by
  have hb := h.blk.grown hg (fun e => h.av e.symm)
  obtain ⟨c3, t3⟩ := pgs_tp hp
  obtain ⟨es4, k4, t4⟩ := pgs_tb hp
  obtain ⟨ca, ta⟩ := h.ta
  obtain ⟨eg, kg, tg⟩ := h.tg
  have hn : ∀ k, W.heap[k]? ≠ none → (∀ c, W.heap[k]? ≠ some (Obj.cells c 89 (0, 0))) → W'.heap[k]? = W.heap[k]? := fun k hk hc => hg.block k (by
    by_cases e : k < W.heap.size
    · exact e
    · exact absurd (Array.getElem?_eq_none (by omega)) hk) (fun e => by
    obtain ⟨c, hc2⟩ := h.tv e.symm
    exact hc c hc2)
  have hp2 : ∀ {p b : Nat} {P : PS}, PgS W B p b s P → PgS W' B p b s P := fun {p b P} hq => by
    obtain ⟨c, t⟩ := pgs_tp hq
    obtain ⟨es, k, u⟩ := pgs_tb hq
    exact pgs_keep hq (hn _ (by rw [t]; simp) (fun c2 => by rw [t]; simp)) (hn _ (by rw [u]; simp) (fun c2 => by rw [u]; simp))
  have hmap : gn.MapAt W' B g G := map_keep h.gens (hn _ (by rw [tg]; simp) (fun c2 => by rw [tg]; simp))
  have hav2 : v2.ownBlock ≠ some a := fun e => by
    obtain ⟨c, hc⟩ := Ow.tag hv a e
    have h2 : W'.heap[a]? = some (.cells _ 93 (0, 0)) := hb
    rw [h2] at hc; cases hc
  have hst : ∀ k, k ≠ a → (W'.setCell ⟨a, 1, none⟩ v2).heap[k]? = W'.heap[k]? := fun k hk => Below.heap_setCell W' ⟨a, 1, none⟩ v2 k hk
  refine ⟨hb, h.hp, hb.set (j := 1) v2, ?_, map_keep hmap (hst g (Ne.symm h.ag)), h.gok, fun x hx => ?_, ?_, fun x hx => ?_⟩
  · rw [List.map_append, List.length_append]
    exact ow_keep hv (fun k e => hst k (fun e2 => hav2 (by rw [e, e2])))
  · rcases List.mem_append.1 hx with hx | hx
    · exact pgs_keep (hp2 (h.pgs x hx)) (hst _ (h.pa hx).1) (hst _ (h.pa hx).2.1)
    · obtain rfl := List.mem_singleton.1 hx
      exact pgs_keep (hp2 hp) (hst _ (tag_ne t3 ta (by decide))) (hst _ (fun e => obj_ne ta t4 e.symm))
  · rw [List.pairwise_append]
    refine ⟨h.ap, List.pairwise_singleton .., fun x hx y hy => ?_⟩
    obtain rfl := List.mem_singleton.1 hy
    exact h1 x hx
  · rcases List.mem_append.1 hx with hx | hx
    · exact h.ng x hx
    · obtain rfl := List.mem_singleton.1 hx
      exact h2
end
end Go.Proofs.Ytbncpfkoeahhpaa
