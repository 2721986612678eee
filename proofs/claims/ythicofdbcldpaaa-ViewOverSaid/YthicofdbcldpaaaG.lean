/- Package view's Of. -/
import Derived.Test.YthicofdbcldpaaaF
namespace Go.Proofs.Ythicofdbcldpaaa
open Go.ChangeShapes Go.WideShapes Go.ChangeAt Go.RowKit Go.Shelf Go.Sort Go.Lib
set_option linter.unusedVariables false
set_option linter.unusedSimpArgs false
theorem Own.set {W : World} {B g cap b : Nat} {xs : List Int} (h : Own W B g cap xs) (hne : b ≠ g) (o : Nat) (v : Value) : Own (W.setCell ⟨b, o, none⟩ v) B g cap xs :=
  World.ownsRow.kept h (row := some b) ⟨rfl, rfl, rfl, by simp [World.setCell], fun k hk hkr => Below.heap_setCell W ⟨b, o, none⟩ v k (fun e => hkr (by rw [e]))⟩ (by simp [Value.ownBlock]; omega)
def OfEnd (own high : Int) (l : List Int) (w : World) (e : Ending) (w' : World) : Prop :=
  ∃ g cap, e = .returned (.agg #[.int .i64 own, .int .i64 high, .slice (some ⟨g, 0, none⟩) l.length cap]) ∧ Own w' w.heap.size g cap l ∧ Below w.heap.size w w'
/-- the three boxes that Of makes first -/
def ofW (w : World) (own high : Int) : World := ((w.alloc (.cells #[.int .i64 own] 3)).alloc (.cells #[.int .i64 high] 3)).alloc (.cells #[.int .i64 0, .int .i64 0, .slice none 0 0] 25)
theorem cell_of_heap {W : World} {B : Nat} {c : Array Value} {t : TypeId} {f : Nat × Nat} (h : W.heap[B + 2]? = some (.cells c t f)) (j : Nat) : W.cell? ⟨B + 1 + 1, j, none⟩ = c[j]? := by
  unfold World.cell?; rw [show B + 1 + 1 = B + 2 from rfl, h]; rfl
theorem frozen_of_heap {W : World} {B : Nat} {c : Array Value} {t : TypeId} (h : W.heap[B + 2]? = some (.cells c t (0, 0))) (j : Nat) : W.frozen? ⟨B + 1 + 1, j, none⟩ = false := by
  unfold World.frozen?; rw [show B + 1 + 1 = B + 2 from rfl, h]; simp
theorem own_heap {W : World} {B g : Nat} {xs : List Int} (hg : W.heap[g]? = some (.cells (xs.map (Value.int .i64)).toArray 3 (0, 0))) (hB : B ≤ g) (hm : xs.length ≤ maxLen) : Own W B g xs.length xs :=
  ⟨by simp, .inr ⟨g, xs.length, _, rfl, hB, hg, Nat.le_refl _, hm, by simp, by simp [List.take_of_length_le]⟩⟩
theorem own_holds {W : World} {B g cap : Nat} {xs : List Int} (h : Own W B g cap xs) : Holds (Value.int .i64) W g 0 xs.toArray ∧ xs.length ≤ cap := by
  obtain ⟨g', cap', e, h1, h2, h3, h4, h5, h6⟩ := holds_of_ownsRow h (by simp)
  cases e
  exact ⟨h6, h3⟩
theorem own_put {W : World} {B g cap q k : Nat} {xs ys : List Int} (h : Own W B g cap xs) (hy : ys.length = xs.length) (hk : k ≤ xs.length) : Own (putRow (Value.int .i64) (Sort.ahead W q) g 0 ys.toArray) B g cap (ys.take k) := by
  have := ownsRow_putRow (q := q) h hy hk
  unfold Own
  rw [show (ys.take k).length = k from by rw [List.length_take]; omega]
  exact this
set_option maxRecDepth 100000 in
set_option maxHeartbeats 4000000 in
theorem Of_any (own high : Int) (A : Option Addr) (n c : Nat) (xs : List Int) (w : World) (hs : Ints w.heap.size w A n xs) (hn : n ≤ 1000000) :
    Calls Try.prog 12 #[.int .i64 own, .int .i64 high, .slice A n c] w (OfEnd own high (refOf own high xs) w) := by
  obtain ⟨i0, hi, hz0, hz1, hz2⟩ := info_parts v3info
  obtain ⟨w1, hrun, hown, hgrow⟩ := run_make_full (P := Try.prog) (ofW w own high) (w.heap.size + 3) 23 3 i0 _ 1 Try.underlying23 hi hz0 hz1 .i64 .i64 n (by rw [hz2]; omega) (by unfold maxLen; omega) (by simp [ofW])
  have hb0 : Below w.heap.size w (ofW w own high) := (((Below.refl _ w).alloc (Nat.le_refl _) _).alloc (by simp) _).alloc (by simp; omega) _
  have hb1 : Below w.heap.size w w1 := stepB hb0 (below_of_grownN hgrow)
  have hsz : (ofW w own high).heap.size = w.heap.size + 3 := by simp [ofW]
  have hk0 : (ofW w own high).cell? ⟨w.heap.size, 0, none⟩ = some (.int .i64 own) := by simp [ofW, go_sem]
  have hk1 : (ofW w own high).cell? ⟨w.heap.size + 1, 0, none⟩ = some (.int .i64 high) := by simp [ofW, go_sem]
  have hk2 : (ofW w own high).heap[w.heap.size + 2]? = some (.cells #[.int .i64 0, .int .i64 0, .slice none 0 0] 25 (0, 0)) := by
    have := heap_alloc_new ((w.alloc (.cells #[.int .i64 own] 3)).alloc (.cells #[.int .i64 high] 3)) (.cells #[.int .i64 0, .int .i64 0, .slice none 0 0] 25)
    simp only [World.size_alloc] at this
    exact this
  rw [hsz] at hrun hown
  have hb1' := below_of_grownN hgrow
  have Hk0 := Lib.hid ((hb1'.cell (p := ⟨w.heap.size, 0, none⟩) (by simp [ofW]; omega)).trans hk0)
  have Hk1 := Lib.hid ((hb1'.cell (p := ⟨w.heap.size + 1, 0, none⟩) (by simp [ofW])).trans hk1)
  have Hk2 := Lib.hid ((hb1'.block (w.heap.size + 2) (by simp [ofW])).trans hk2)
  have Hl := Lib.hid hs.1
  have HS := Lib.hid (hs.below hb1)
  obtain ⟨h1, ⟨e, _⟩ | ⟨g', cap', cur, e, hB, hg, hn', hm, hs', ht⟩⟩ := hown
  · cases e
  cases e
  have hcl : cur.toList.length = n := by simpa using hs'
  have Hcl := Lib.hid hcl
  have Hg := Lib.hid hg
  have HB := Lib.hid hb1
  have hsz1 := hb1'.size
  rw [hsz] at hsz1
  have Hcs : Hid (∀ j v, (xs.map (Value.int .i64))[j]? = some v → ∃ g off, A = some ⟨g, off, none⟩ ∧ w1.cell? ⟨g, off + j, none⟩ = some v) := fun j v hv => by
    rw [List.getElem?_map] at hv
    by_cases hj : j < n
    · obtain ⟨g, off, hA, hg, hc⟩ := HS.out.2 (by omega)
      refine ⟨g, off, hA, ?_⟩
      rw [hc j hj, ← hv, List.getD_eq_getElem?_getD, List.getElem?_eq_getElem (by rw [Hl.out]; exact hj)]; rfl
    · rw [List.getElem?_eq_none (by rw [Hl.out]; omega)] at hv; cases hv
  have HC2 : Hid (0 < (xs.map (Value.int .i64)).length → some (⟨w.heap.size + 3, 0, none⟩ : Addr) = some ⟨w.heap.size + 3, 0, none⟩ ∧ ∃ ad, A = some ad ∧ ∀ j v, (xs.map (Value.int .i64))[j]? = some v → w1.cell? (ad.add j) = some v) := fun hp => by
    refine ⟨rfl, ?_⟩
    obtain ⟨g, off, hA, _, _⟩ := HS.out.2 (by rw [List.length_map, Hl.out] at hp; exact hp)
    refine ⟨⟨g, off, none⟩, hA, fun j v hv => ?_⟩
    obtain ⟨g2, off2, hA2, hc2⟩ := Hcs.out j v hv
    rw [hA] at hA2; cases hA2
    rw [show (⟨g, off, none⟩ : Addr).add j = ⟨g, off + j, none⟩ from by unfold Addr.add; split <;> simp_all]
    exact hc2
  have hsz0 : (Try.prog.info? 3).map (·.size) = some 1 := by rw [hi]; simp [hz1]
  unfold ofW at hrun
  clear hk0 hk1 hk2 hs hb0 hb1 hb1' hg hgrow h1 hn' hm hs' ht hcl hB hsz
  go_enter Try.func12, Try.ntmps12
  go_wp2_with (with_reducible refine wpList_copy_splice rfl (.tmp 11) (.tmp 12) 23 23 rfl 3 Try.underlying23 hsz0 (some ⟨w.heap.size + 3, 0, none⟩) A n n n c rfl rfl (w.heap.size + 3) 0 cur.toList 3 Hg.out (xs.map (Value.int .i64)) ?c1 ?c2 ?c3 ?c4 (w.heap.size + 3) w1 (Below.refl _ _) (Nat.le_refl _) ?_)
  case c1 => exact Hl.out
  case c2 => first | exact HC2.out | simpa using HC2.out
  case c3 =>
    have h1 := Hl.out
    have h2 : cur.size = n := by simpa using Hcl.out
    simp; omega
  case c4 => first | (intro v hv; obtain ⟨x, _, rfl⟩ := List.mem_map.1 hv; rfl) | (intro v hv; rfl)
  intro w2 hg2 hb2
  rw [show splice cur.toList 0 (xs.map (Value.int .i64)) = xs.map (Value.int .i64) from by
    unfold splice; rw [List.drop_of_length_le (by rw [List.length_map, Hl.out, Hcl.out]; omega)]; simp] at hg2
  have HO2 : Hid (Own w2 (w.heap.size + 3) (w.heap.size + 3) xs.length xs) := own_heap hg2.out (Nat.le_refl _) (by rw [Hl.out]; unfold maxLen; omega)
  rw [Hl.out] at HO2
  have HB2 := Lib.hid (HB.out.trans (hb2.mono (by omega)))
  have hsz2 := hb2.size
  have k0 := (hb2.cell (p := ⟨w.heap.size, 0, none⟩) (by show w.heap.size < _; omega)).trans Hk0.out
  have k1 := (hb2.cell (p := ⟨w.heap.size + 1, 0, none⟩) (by show w.heap.size + 1 < _; omega)).trans Hk1.out
  have Hk2' := Lib.hid ((hb2.block (w.heap.size + 2) (by omega)).trans Hk2.out)
  have CD := Try.slices_DeleteFunc (Value.int .i64) (fun _ => rfl) (dropB own high) 21 #[.pointer (some ⟨w.heap.size + 1, 0, none⟩), .pointer (some ⟨w.heap.size, 0, none⟩)] (enters_of Try.func21 (by kernel_rfl) rfl) 0 Try.zeroValue3 (w.heap.size + 3) 0 n xs.toArray w2
    (drops_at own high _ _ w2 (by omega) (by omega) k0 k1) (drops_over own high _ _ _ _ _ w2 (by omega) (by omega) (by omega) (by omega) k0 k1) (own_holds HO2.out).1 (by simp [Hl.out]; omega) (by simp [Hl.out])
  simp only [List.size_toArray, Hl.out] at CD
  have Hk0' := Lib.hid k0
  have Hk1' := Lib.hid k1
  have HCD := Lib.hid CD
  have Hr : Hid (Lib.compact ((xs.filter fun x => !dropB own high x).mergeSort fun x y => decide (x ≤ y)) = refOf own high xs) := goOf_eq own high xs
  clear CD k0 k1 hb2 hg2 Hk0 Hk1 Hk2 Hg Hcl Hcs HS HB
  have hF : (xs.filter fun x => !dropB own high x).length ≤ n := by rw [← Hl.out]; exact List.length_filter_le _ _
  generalize (xs.filter fun x => !dropB own high x) = F at *
  go_wp2_with fail
  refine HCD.out.mono ?_
  rintro e w3 ⟨rfl, q3, hw3⟩
  have hl3 : (F ++ List.replicate (n - F.length) (0 : Int)).length = xs.length := by simp [Hl.out]; omega
  have O3 : Own w3 (w.heap.size + 3) (w.heap.size + 3) n F := by
    have := own_put (q := q3) (k := F.length) HO2.out hl3 (by rw [Hl.out]; exact hF)
    rw [List.take_left] at this
    rw [hw3]; exact this
  have b3 : Below (w.heap.size + 3) w2 w3 := by rw [hw3]; exact below_putRow (Below.refl _ _) (Nat.le_refl _)
  have Hk0 := Lib.hid ((b3.cell (p := ⟨w.heap.size, 0, none⟩) (by show w.heap.size < _; omega)).trans Hk0'.out)
  have Hk1 := Lib.hid ((b3.cell (p := ⟨w.heap.size + 1, 0, none⟩) (by show w.heap.size + 1 < _; omega)).trans Hk1'.out)
  have Hk2 := Lib.hid ((b3.block (w.heap.size + 2) (by omega)).trans Hk2'.out)
  have HO3 := Lib.hid O3
  have HB3 := Lib.hid (HB2.out.trans (b3.mono (by omega)))
  have HCS := Lib.hid (Try.slices_Sort_int (w.heap.size + 3) 0 n F w3 (own_holds O3).1 O3.lt.2 (by omega))
  have hsz3 := O3.lt.2
  clear hw3 hl3 O3 b3 HCD Hk0' Hk1' Hk2' HO2 HB2
  go_wp2_with fail
  refine HCS.out.mono ?_
  rintro e w4 ⟨rfl, q4, os, hw4⟩
  have hm4 : (F.mergeSort fun x y => decide (x ≤ y)).length = F.length := List.length_mergeSort _
  have O4 : Own w4 (w.heap.size + 3) (w.heap.size + 3) n (F.mergeSort fun x y => decide (x ≤ y)) := by
    have := own_put (q := q4) (k := F.length) HO3.out hm4 (Nat.le_refl _)
    rw [List.take_of_length_le (by omega)] at this
    rw [hw4]; exact this.later (below_grown _ 0 os)
  have b4 : Below (w.heap.size + 3) w3 w4 := by
    rw [hw4]
    have hp : Below (w.heap.size + 3) w3 (putRow (Value.int .i64) (Sort.ahead w3 q4) (w.heap.size + 3) 0 (F.mergeSort fun x y => decide (x ≤ y)).toArray) := below_putRow (Below.refl _ _) (Nat.le_refl _)
    exact hp.trans ((below_grown _ 0 os).mono (by have := hp.size; omega))
  have Hk0' := Lib.hid ((b4.cell (p := ⟨w.heap.size, 0, none⟩) (by show w.heap.size < _; omega)).trans Hk0.out)
  have Hk1' := Lib.hid ((b4.cell (p := ⟨w.heap.size + 1, 0, none⟩) (by show w.heap.size + 1 < _; omega)).trans Hk1.out)
  have Hk2' := Lib.hid ((b4.block (w.heap.size + 2) (by omega)).trans Hk2.out)
  have HO4 := Lib.hid O4
  have HB4 := Lib.hid (HB3.out.trans (b4.mono (by omega)))
  have hsz4 := O4.lt.2
  have Hm4 := Lib.hid hm4
  clear hw4 O4 b4 HCS Hk0 Hk1 Hk2 HO3 HB3 hm4
  generalize (F.mergeSort fun x y => decide (x ≤ y)) = G at *
  go_wp2_with fail
  have y0 := Hk0'.out
  have y1 := Hk1'.out
  have y2 := Hk2'.out
  clear Hk0' Hk1' Hk2'
  have HCC := Lib.hid (Try.slices_Compact_int (w.heap.size + 3) 0 n G w4.drew (own_holds (W := w4.drew) HO4.out).1 (by have := Hm4.out; omega) (by have := Hm4.out; omega))
  rw [Hm4.out] at HCC
  go_region_with (go_at_call 23; refine HCC.out.mono ?_; rintro e w5 ⟨rfl, q5, hw5⟩; have b5 : Below (w.heap.size + 3) w4.drew w5 := (by rw [hw5]; exact below_putRow (Below.refl _ _) (Nat.le_refl _)); have z0 := (b5.cell (p := ⟨w.heap.size, 0, none⟩) (by show w.heap.size < _; omega)).trans y0; have z1 := (b5.cell (p := ⟨w.heap.size + 1, 0, none⟩) (by show w.heap.size + 1 < _; omega)).trans y1; have z2 := (b5.block (w.heap.size + 2) (by omega)).trans y2; have f0 := cell_of_heap z2 0; have f1 := cell_of_heap z2 1; have f2 := cell_of_heap z2 2; have g0 := frozen_of_heap z2 0; have g1 := frozen_of_heap z2 1; have g2 := frozen_of_heap z2 2; have Hw5 := Lib.hid hw5; have Hz2 := Lib.hid z2; clear hw5 z2; simp only [List.getElem?_toArray, List.getElem?_cons_zero, List.getElem?_cons_succ, Nat.zero_add] at f0 f1 f2)
  all_goals (
    have O5 : Own w5 (w.heap.size + 3) (w.heap.size + 3) n (refOf own high xs) := by
      have hle := compact_length_le G
      have := own_put (W := w4.drew) (q := q5) (k := (compact G).length) (ys := compact G ++ List.replicate (F.length - (compact G).length) 0) HO4.out (by have := Hm4.out; simp; omega) hle
      rw [List.take_left] at this
      rw [Hw5.out, ← Hr.out]; exact this
    have HOE := Lib.hid ((((O5.mono (by omega : w.heap.size ≤ w.heap.size + 3)).set (b := w.heap.size + 1 + 1) (by omega) 0 (.int .i64 own)).set (b := w.heap.size + 1 + 1) (by omega) 1 (.int .i64 high)).set (b := w.heap.size + 1 + 1) (by omega) 2 (.slice (some ⟨w.heap.size + 3, 0, none⟩) (compact G).length n))
    have HBE := Lib.hid (((((Below.drew HB4.out).trans (b5.mono (by omega))).setCell (p := ⟨w.heap.size + 1 + 1, 0, none⟩) (by simp; omega) (.int .i64 own)).setCell (p := ⟨w.heap.size + 1 + 1, 1, none⟩) (by simp; omega) (.int .i64 high)).setCell (p := ⟨w.heap.size + 1 + 1, 2, none⟩) (by simp; omega) (.slice (some ⟨w.heap.size + 3, 0, none⟩) (compact G).length n))
    clear O5
    go_wp2
    refine bodyPost_ret (v := .agg #[.int .i64 own, .int .i64 high, .slice (some ⟨w.heap.size + 3, 0, none⟩) (compact G).length n]) (by simp [results, Try.results12, go_sem, f0, f1, f2]) rfl ?_
    exact ⟨_, n, by rw [← Hr.out], HOE.out, HBE.out⟩)
end Go.Proofs.Ythicofdbcldpaaa
