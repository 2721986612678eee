/- Clones; in the midst of a Copy. -/
import Derived.Test.YtoinjnocopejjaaRT
import Derived.Test.YtoinjnocopejjaaNP
import Derived.Test.YtoinjnocopejjaaS
import Derived.Shelf.Slices.Clone
namespace Go.Proofs.Ytoinjnocopejjaa
open Go.ChangeShapes Go.WideShapes Go.ChangeAt Go.RowKit Go.Maps
set_option linter.unusedVariables false
set_option linter.unusedSimpArgs false
theorem clonei_any (B : Nat) (v : Value) (L : List Int) (w : World) (h : Ow iE w B 3 v L.length L) (hl : L.length ≤ 100000) : Calls Try.prog 69 #[v] w fun e w' => ∃ v', e = .returned v' ∧ Ow iE w' w.heap.size 3 v' L.length L ∧ Below w.heap.size w w' := by
  obtain ⟨A, c, rfl, hsl⟩ := Ow.sl h
  cases A with
  | none =>
    have h0 := (hsl.nil rfl).1
    have hL : L = [] := List.eq_nil_of_length_eq_zero h0
    subst hL
    have hc := Any.slices_Clone_int_nil Try.laysNm215 0 c w
    change Calls Try.prog 69 _ _ _ at hc
    refine hc.mono ?_
    rintro e w' ⟨rfl, rfl⟩
    exact ⟨_, rfl, Ow.none _ _ _, Below.refl _ _⟩
  | some a =>
    by_cases h0 : L.length = 0
    · have hL : L = [] := List.eq_nil_of_length_eq_zero h0
      subst hL
      have hc := Any.slices_Clone_int_zero Try.laysNm215 a c w
      change Calls Try.prog 69 _ _ _ at hc
      refine hc.mono ?_
      rintro e w' ⟨v', rfl, ho, _, hb⟩
      exact ⟨_, rfl, ho, hb⟩
    · obtain ⟨g, off, e, _, hc⟩ := hsl.rd.2 (by omega)
      cases e
      have hk := Any.slices_Clone_int Try.laysNm215 g off L.length c L w (Nat.le_refl _) (by omega) (fun j hj => by
        rw [hc j _ (List.getElem?_eq_getElem hj), List.getD_eq_getElem?_getD, List.getElem?_eq_getElem hj]; rfl)
      change Calls Try.prog 69 _ _ _ at hk
      refine hk.mono ?_
      rintro e w' ⟨v', rfl, ho, _, hb⟩
      rw [List.take_length] at ho
      exact ⟨_, rfl, ho, hb⟩
theorem clonem_any (b n : Nat) (D : DV) (w : World) (h : w.ownsMap Try.prog 9 RH b n D) : Calls Try.prog 70 #[.map (some b)] w fun e w' => e = .returned (.map (some w.heap.size)) ∧ w'.ownsMap Try.prog 9 RH w.heap.size n D ∧ Below w.heap.size w w' := by
  have hc := AnyW.maps_Clone_owns Try.mapsClone 9 RH b n D w h
  change Calls Try.prog 70 _ _ _ at hc
  exact hc.mono fun e w' ⟨h1, h2, _, h4⟩ => ⟨h1, h2, h4⟩
set_option maxRecDepth 100000 in
set_option maxHeartbeats 1600000 in
theorem clonet_any (A : Option Addr) (n c : Nat) (L : List (Int × Int)) (w : World) (h : RSl txE 2 w A n L) (hn : n ≤ 100000) (hnil : A = none → n = 0 ∧ c = 0) : Calls Try.prog 68 #[.slice A n c] w fun e w' => ∃ v', e = .returned v' ∧ ROwn txE 2 w' w.heap.size 112 v' n L ∧ Below w.heap.size w w' := by
  cases A with
  | none =>
    obtain ⟨h1, h2⟩ := hnil rfl
    subst h1 h2
    have hL : L = [] := List.eq_nil_of_length_eq_zero h.1
    subst hL
    clear h hnil
    have hq := fun W => Lib.run_eql_slice_nil (P := Try.prog) W 106 112 none 0 0 0 0 Try.underlying106
    go_enter Try.func68, Try.ntmps68
    go_wp2
    go_ret
    exact ⟨_, rfl, ROwn.nil0 _ _ _, Below.refl _ _⟩
  | some a =>
    have hbx : Below w.heap.size w (w.alloc (.cells #[] 112)) := (Below.refl _ _).alloc (Nat.le_refl _) _
    have HF : Hid (ROwn txE 2 (w.alloc (.cells #[] 112)) w.heap.size 112 (.slice (some ⟨w.heap.size, 0, none⟩) 0 0) 0 []) := Lib.hid (ROwn.fresh w 112 (Nat.le_refl _) rfl)
    have HS := Lib.hid (h.later hbx)
    have HB := Lib.hid hbx
    clear h hbx hnil
    have hq := fun W => Lib.run_eql_slice_nil (P := Try.prog) W 106 112 (some a) n c 0 0 Try.underlying106
    go_enter Try.func68, Try.ntmps68
    go_wp2_with (first
      | (at_builtin; refine append_row elemX rfl (.tmp 5) (.tmp 6) rfl w.heap.size _ 0 [] rfl HF.out (some a) n c L rfl HS.out (fun e => by cases e) (by omega) (by decide) HB.out.size ?_; intro v1 w1 ho1)
      | fail)
    intro hg1
    have HB1 : Hid (Below w.heap.size w w1) := Lib.hid (HB.out.grown hg1 HB.out.size (fun j e => (HF.out.lt j e).1))
    have HO1 : Hid (ROwn txE 2 w1 w.heap.size 112 v1 n L) := Lib.hid (by
      have := ho1
      rw [Nat.zero_add, List.nil_append] at this
      exact this)
    obtain ⟨A1, c1, rfl, _, _⟩ := ho1.sl
    clear ho1 hg1 HF HS HB hq
    go_wp2
    go_ret
    exact ⟨_, rfl, HO1.out, HB1.out⟩
theorem ow_setO {α : Type} {enc : α → Value} {W : World} {B e n q j t : Nat} {v u : Value} {L : List α} {c : Array Value} (h : Ow enc W B e v n L) (hb : Blk W q c t) (hne : t ≠ e) : Ow enc (W.setCell ⟨q, j, none⟩ u) B e v n L :=
  ow_keep h (fun i hi => Below.heap_setCell W ⟨q, j, none⟩ u i (fun e2 => by
    obtain ⟨cur, hc⟩ := Ow.tag h i hi
    have e2 : i = q := e2
    subst e2
    rw [show W.heap[i]? = some (.cells c t (0, 0)) from hb] at hc
    simp only [Option.some.injEq, Obj.cells.injEq] at hc
    exact hne hc.2.1))
theorem rown_setO {α : Type} {enc : α → List Value} {W : World} {B e n k q j t : Nat} {v u : Value} {L : List α} {c : Array Value} (h : ROwn enc k W B e v n L) (hb : Blk W q c t) (hne : t ≠ e) : ROwn enc k (W.setCell ⟨q, j, none⟩ u) B e v n L :=
  h.keepS (fun i hi => Below.heap_setCell W ⟨q, j, none⟩ u i (fun e2 => h.nq hb hne (by rw [hi]; exact congrArg some e2)))
/-- in the midst of a Copy -/
structure CpW (w0 W : World) (s : MS) (q tb m k : Nat) (tv mb : Value) (kv : List Value) : Prop where
  below : Below w0.heap.size w0 W
  kq : Blk W q #[.int .i64 s.cf.ta, .int .i64 s.cf.ac, .int .i64 s.cf.ke, .int .i64 s.cf.de, .int .i64 s.cf.ts, .int .i64 s.cf.kl, .int .i64 s.cf.vl, .int .i64 s.cf.fa, .int .i64 s.clock, .int .i64 s.floor, tv, .slice (some ⟨tb, 0, none⟩) m m, mb] 110
  kt : Blk W tb kv.toArray 85
  kl : kv.length = m
  num : ∀ (i : Nat) (v : Value) (l : List Int), i < k → kv[i]? = some v → s.tasks[i]? = some l → Ow iE W w0.heap.size 3 v l.length l
  rest : ∀ i, k ≤ i → i < m → kv[i]? = some (.slice none 0 0)
  ap : kv.Pairwise fun v v' => ∀ k : Nat, v.ownBlock = some k → v'.ownBlock ≠ some k
  tx : ROwn txE 2 W w0.heap.size 112 tv s.txns.length s.txns
theorem CpW.later {w0 W W' : World} {s : MS} {q tb m k : Nat} {tv mb : Value} {kv : List Value} (h : CpW w0 W s q tb m k tv mb kv) (hb : Below W.heap.size W W') : CpW w0 W' s q tb m k tv mb kv :=
  ⟨h.below.trans (hb.mono h.below.size), h.kq.later hb, h.kt.later hb, h.kl, fun i v l h1 h2 h3 => Ow.later (h.num i v l h1 h2 h3) hb, h.rest, h.ap, h.tx.later hb⟩
theorem CpW.step {w0 W : World} {s : MS} {q tb m k : Nat} {tv mb v' : Value} {kv : List Value} {l : List Int} {B : Nat} (h : CpW w0 W s q tb m k tv mb kv) (hk : k < m) (hl : s.tasks[k]? = some l) (ho : Ow iE W B 3 v' l.length l) (hB : w0.heap.size ≤ B) (htb : w0.heap.size ≤ tb)
    (hnew : ∀ (i : Nat) (v : Value), kv[i]? = some v → ∀ j : Nat, v.ownBlock = some j → j < B) (hq : q ≠ tb) : CpW w0 (W.setCell ⟨tb, k, none⟩ v') s q tb m (k + 1) tv mb (kv.set k v') := by
  have hkl := h.kl
  refine ⟨h.below.trans ⟨rfl, rfl, rfl, by simp, fun j hj => Below.heap_setCell W ⟨tb, k, none⟩ v' j (fun e => ?_)⟩, h.kq.other hq _, ?_, by rw [List.length_set]; exact hkl, fun i v l2 h1 h2 h3 => ?_, fun i h1 h2 => ?_, ?_, rown_setO h.tx h.kt (by decide)⟩
  · have e : j = tb := e
    omega
  · have := h.kt.set (j := k) v'
    rw [List.setIfInBounds_toArray] at this
    exact this
  · rw [List.getElem?_set] at h2
    by_cases e : k = i
    · subst e
      rw [if_pos rfl, if_pos (by omega)] at h2
      cases h2
      rw [hl] at h3
      cases h3
      exact ow_setO (Ow.base ho hB) h.kt (by decide)
    · rw [if_neg e] at h2
      exact ow_setO (h.num i v l2 (by omega) h2 h3) h.kt (by decide)
  · rw [List.getElem?_set, if_neg (by omega)]
    exact h.rest i (by omega) h2
  · rw [List.pairwise_iff_getElem]
    intro i j hi hj hij n hn
    rw [List.length_set] at hi hj
    rw [List.getElem_set] at hn ⊢
    have hap := List.pairwise_iff_getElem.1 h.ap
    have hlt : ∀ n : Nat, v'.ownBlock = some n → B ≤ n := fun n e => (Ow.lt ho n e).1
    by_cases e1 : k = i
    · rw [if_pos e1] at hn
      have hne : ¬ k = j := by omega
      rw [if_neg hne]
      intro e2
      have := hnew j kv[j] (List.getElem?_eq_getElem hj) n e2
      have := hlt n hn
      omega
    · rw [if_neg e1] at hn
      by_cases e3 : k = j
      · rw [if_pos e3]
        intro e2
        have := hnew i kv[i] (List.getElem?_eq_getElem hi) n hn
        have := hlt n e2
        omega
      · rw [if_neg e3]
        exact hap i j hi hj hij n hn
/-- the blocks that the copy's numbers lie in are there -/
theorem CpW.bound {w0 W : World} {s : MS} {q tb m k : Nat} {tv mb : Value} {kv : List Value} (h : CpW w0 W s q tb m k tv mb kv) (hm : s.tasks.length = m) : ∀ (i : Nat) (v : Value), kv[i]? = some v → ∀ j : Nat, v.ownBlock = some j → j < W.heap.size := fun i v hv j hj => by
  have hi : i < m := by have := (List.getElem?_eq_some_iff.1 hv).1; rw [h.kl] at this; exact this
  by_cases e : i < k
  · exact (Ow.lt (h.num i v s.tasks[i] e hv (List.getElem?_eq_getElem (by omega))) j hj).2
  · rw [h.rest i (by omega) hi] at hv
    cases hv
    cases hj
end Go.Proofs.Ytoinjnocopejjaa
