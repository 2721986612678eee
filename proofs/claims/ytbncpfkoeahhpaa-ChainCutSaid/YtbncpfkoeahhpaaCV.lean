/- A built chain read, listed and given back. -/
import Derived.Test.YtbncpfkoeahhpaaCU
namespace Go.Proofs.Ytbncpfkoeahhpaa
open Go.ChangeShapes Go.WideShapes Go.ChangeAt Go.RowKit Go.Maps
set_option linter.unusedVariables false
set_option linter.unusedSimpArgs false

theorem us_cons {us : List Int} {i : Nat} (h : i < us.length) : us.drop i = us.getD i 0 :: us.drop (i + 1) := by
  rw [List.drop_eq_getElem_cons h, List.getD_eq_getElem?_getD, List.getElem?_eq_getElem h]; rfl
theorem dec_drop {us : List Int} (hn : us.Nodup) {i : Nat} (h : i < us.length) (x : Int) : (decide (x ∈ us.drop i) && decide (x ≠ us.getD i 0)) = decide (x ∈ us.drop (i + 1)) := by
  have hn2 : (us.drop i).Nodup := hn.sublist (List.drop_sublist i us)
  rw [us_cons h] at hn2 ⊢
  have hx := (List.nodup_cons.1 hn2).1
  by_cases e : x = us.getD i 0
  · subst e
    rw [decide_eq_false (p := _ ≠ _) (fun q => q rfl), decide_eq_false (p := _ ∈ us.drop (i + 1)) hx, Bool.and_false]
  · by_cases e2 : x ∈ us.drop (i + 1)
    · rw [decide_eq_true (p := _ ∈ us.drop (i + 1)) e2, decide_eq_true (p := _ ≠ _) e, decide_eq_true (List.mem_cons_of_mem _ e2)]; rfl
    · rw [decide_eq_false (p := _ ∈ us.drop (i + 1)) e2, decide_eq_true (p := _ ≠ _) e, decide_eq_false (fun q => (List.mem_cons.1 q).elim e e2)]; rfl
theorem count_drop {us : List Int} (hn : us.Nodup) (i : Nat) : us.countP (fun x => decide (x ∈ us.drop i)) = us.length - i := by
  have e : us.countP (fun x => decide (x ∈ us.drop i)) = (us.take i ++ us.drop i).countP (fun x => decide (x ∈ us.drop i)) := by rw [List.take_append_drop]
  rw [e, List.countP_append, List.countP_eq_zero.2 (fun x hx => ?_), List.countP_eq_length.2 (fun x hx => decide_eq_true hx), List.length_drop, Nat.zero_add]
  have hn2 : (us.take i ++ us.drop i).Nodup := by rw [List.take_append_drop]; exact hn
  rw [List.nodup_append] at hn2
  simp only [decide_eq_true_eq]
  exact fun h2 => hn2.2.2 x hx x h2 rfl
/-- the engine and its handles -/
structure PU (w W : World) (q : Nat) (cf : Conf) (a m : Nat) (st : AS) (S : Nat → Prop) (nd : Int → Nd) (us : List Int) (n : Nat) (AU : Option Addr) (cU : Nat) : Prop where
  cx : CX W w.heap.size q cf a m st S nd us n
  ow : Ow hv W w.heap.size 24 (.slice AU n cU) n us
  lo : Below w.heap.size w W
section
variable {w W W' : World} {q : Nat} {cf : Conf} {a m : Nat} {st st' : AS} {S S' : Nat → Prop} {nd nd' : Int → Nd} {us : List Int} {n cU i : Nat} {AU : Option Addr} {L : List Vn}
theorem PU.later (h : PU w W q cf a m st S nd us n AU cU) (hb : Below W.heap.size W W') : PU w W' q cf a m st S nd us n AU cU := ⟨h.cx.later hb, h.ow.later hb, stepB h.lo hb⟩
theorem PU.turn (h : PU w W q cf a m st S nd us n AU cU) (hx : CX W' w.heap.size q cf a m st' S' nd' us n) (hf : FrS W W' S) : PU w W' q cf a m st' S' nd' us n AU cU :=
  ⟨hx, h.cx.cr.ar.ow hf h.ow (by decide), h.cx.cr.ar.frBelow hf h.lo (Nat.le_refl _) h.lo.size⟩
def RwI (L : List Vn) (W : World) (e : Ending) (W' : World) : Prop := ∃ A c, e = .returned (.slice A L.length c) ∧ RSl vec 4 W' A L.length L ∧ Below W.heap.size W W'
theorem pu_list (h : PU w W q cf a m st S nd us n AU cU) {x : Int} (hx : hR x) {M : List Vn} {u : Nat} (hu : usA st = u) (hl : lsF st nd u x = M) (hU : u ≤ 100000) : Calls Try.prog 15 #[.pointer (some ⟨q, 0, none⟩), .int .u64 x] W (RwI M W) := by
  have h1 := list_any w.heap.size q cf a m st S nd us n W h.cx.cr h.cx.ci x hx (by omega)
  rw [hu, hl] at h1
  refine h1.mono ?_
  rintro e W' ⟨vb, rfl, ho, hb⟩
  obtain ⟨A, c, rfl, _, _⟩ := ho.sl
  exact ⟨A, c, rfl, ho.rsl vec_len, hb⟩
theorem pu_behind {A : Option Addr} {c j : Nat} (hS : RSl vec 4 W A n L) (hj : j < n) (hn : n ≤ 100000) : Calls Try.prog 23 #[.slice A n c, .int .i64 (j : Int)] W (RwI (bh L j) W) := by
  refine (behind_any A n c L j W hS hj hn).mono ?_
  rintro e W' ⟨A2, c2, rfl, ho, hb⟩
  exact ⟨A2, c2, rfl, ho.rsl vec_len, hb⟩
theorem same_lists {A A' : Option Addr} {k c c' : Nat} {M : List Vn} (hs : RSl vec 4 W A k M) (hu : RSl vec 4 W A' k M) (hk : k ≤ 100000) : Calls Try.prog 22 #[.slice A k c, .slice A' k c'] W fun e W' => e = .returned (.bool true) ∧ Below W.heap.size W W' := by
  refine (lists_any A A' k k c c' M M W hs hu (by omega) (by omega)).mono ?_
  rintro e W' ⟨rfl, d, rfl⟩
  exact ⟨by rw [decide_eq_true rfl], below_drewN (Below.refl _ _) d⟩
theorem pu_free (h : PU w W q cf a m st S nd us n AU cU) (hn : us.Nodup) (hr : ∀ x ∈ us, hR x ∧ x ≠ 0) (hl : us.length = n) (hi : ∀ x, hR x → isA st x = decide (x ∈ us.drop i)) (hlt : i < n) (h3 : n ≤ 300) : Calls Try.prog 14 #[.pointer (some ⟨q, 0, none⟩), .int .u64 (us.getD i 0)] W fun e W' => e = .returned (.int .i64 0) ∧ ∃ st' S', PU w W' q cf a m st' S' nd us n AU cU ∧ (∀ x, hR x → isA st' x = decide (x ∈ us.drop (i + 1))) ∧ usA st' = n - (i + 1) := by
  have hli : i < us.length := by rw [hl]; exact hlt
  have hx := (hr _ (getD_in hli)).1
  have his : isA st (us.getD i 0) = true := by
    rw [hi _ hx, us_cons hli]
    exact decide_eq_true (List.mem_cons_self ..)
  have h1 := xfree w.heap.size q cf a m st S nd us n W h.cx (us.getD i 0) hx
  rw [show frAE (us.getD i 0) st = 0 by unfold frAE; rw [his]; rfl] at h1
  refine h1.mono ?_
  rintro e W' ⟨rfl, st2, S2, hx2, hi2, _, hf⟩
  have h2 : ∀ x, hR x → isA st2 x = decide (x ∈ us.drop (i + 1)) := fun x hx => by
    have e := hi2 x hx
    simp only at e
    rw [e, hi x hx, dec_drop hn hli]
  refine ⟨rfl, st2, S2, h.turn hx2 hf, h2, ?_⟩
  rw [hx2.us (by omega), ← hl, ← count_drop hn (i + 1)]
  exact List.countP_congr (fun x hx => by rw [h2 x (hr x hx).1])
end
abbrev SM (gU i : Nat) (X : Int) (pn : Nat) (zw zt : Int) (zb : Bool) (zs : ByteArray) (tp : Int) (g o : Nat) (W : World) : Prop := W.cell? ⟨gU, i, none⟩ = some (.int .u64 X) ∧ W.cell? ⟨pn, 0, none⟩ = some (.int .i64 zw) ∧ W.cell? ⟨pn, 1, none⟩ = some (.int .i64 zt) ∧ W.cell? ⟨pn, 2, none⟩ = some (.bool zb) ∧ W.cell? ⟨pn, 3, none⟩ = some (.string zs) ∧ W.cell? ⟨pn, 4, none⟩ = some (.int .u64 tp) ∧ W.cell? ⟨g, o, none⟩ = some (.int .i64 zw) ∧ W.cell? ⟨g, o + 1, none⟩ = some (.int .i64 zt) ∧ W.cell? ⟨g, o + 2, none⟩ = some (.bool zb) ∧ W.cell? ⟨g, o + 3, none⟩ = some (.string zs)
/-- .. and a node's box -/
structure PM (w W : World) (q : Nat) (cf : Conf) (a m : Nat) (st : AS) (S : Nat → Prop) (nd : Int → Nd) (us : List Int) (n : Nat) (AU : Option Addr) (cU pn : Nat) (z : Nd) : Prop where
  pu : PU w W q cf a m st S nd us n AU cU
  bn : Blk W pn #[.int .i64 z.1.1, .int .i64 z.1.2.1, .bool z.1.2.2.1, .string z.1.2.2.2, .int .u64 z.2] 31
theorem PM.later {w W W' : World} {q : Nat} {cf : Conf} {a m : Nat} {st : AS} {S : Nat → Prop} {nd : Int → Nd} {us : List Int} {n cU pn : Nat} {AU : Option Addr} {z : Nd} (h : PM w W q cf a m st S nd us n AU cU pn z) (hb : Below W.heap.size W W') : PM w W' q cf a m st S nd us n AU cU pn z := ⟨h.pu.later hb, h.bn.later hb⟩
end Go.Proofs.Ytbncpfkoeahhpaa
