/- The examples. -/
import Derived.Test.YthicofdbcldpaaaH
namespace Go.Proofs.Ythicofdbcldpaaa
open Go.ChangeShapes Go.WideShapes Go.ChangeAt Go.RowKit Go.Shelf Go.Sort Go.Lib
set_option linter.unusedVariables false
set_option linter.unusedSimpArgs false
/-- a block known whole -/
def Blk (W : World) (B : Nat) (c : Array Value) (t : TypeId) : Prop := W.heap[B]? = some (.cells c t (0, 0))
theorem Blk.lt {W : World} {B : Nat} {c : Array Value} {t : TypeId} (h : Blk W B c t) : B < W.heap.size := (Array.getElem?_eq_some_iff.1 (show W.heap[B]? = _ from h)).1
theorem Blk.cell {W : World} {B : Nat} {c : Array Value} {t : TypeId} (h : Blk W B c t) (j : Nat) : W.cell? ⟨B, j, none⟩ = c[j]? := hcell h j
theorem Blk.frozen {W : World} {B : Nat} {c : Array Value} {t : TypeId} (h : Blk W B c t) (j : Nat) : W.frozen? ⟨B, j, none⟩ = false := hfrozen h j
theorem Blk.new (W : World) (c : Array Value) (t : TypeId) : Blk (W.alloc (.cells c t)) W.heap.size c t := heap_alloc_new W _
theorem Blk.later {W W' : World} {B : Nat} {c : Array Value} {t : TypeId} (h : Blk W B c t) (hb : Below W.heap.size W W') : Blk W' B c t := (hb.block B h.lt).trans h
theorem Blk.other {W : World} {B B' j : Nat} {c : Array Value} {t : TypeId} (h : Blk W B c t) (hne : B ≠ B') (v : Value) : Blk (W.setCell ⟨B', j, none⟩ v) B c t :=
  (Below.heap_setCell W ⟨B', j, none⟩ v B hne).trans h
theorem Blk.set {W : World} {B j : Nat} {c : Array Value} {t : TypeId} (h : Blk W B c t) (v : Value) : Blk (W.setCell ⟨B, j, none⟩ v) B (c.setIfInBounds j v) t := hset h v
theorem ints_blk {W : World} {B : Nat} {t : TypeId} {xs : List Int} (h : Blk W B (xs.map (Value.int .i64)).toArray t) : Ints W.heap.size W (some ⟨B, 0, none⟩) xs.length xs :=
  ⟨rfl, fun _ => ⟨B, 0, rfl, h.lt, fun j hj => by
    rw [Nat.zero_add, h.cell, List.getD_eq_getElem?_getD, List.getElem?_eq_getElem hj]; simp [hj]⟩⟩
theorem ints_lit (W : World) (xs : List Int) : Ints (W.alloc (.cells (xs.map (Value.int .i64)).toArray 3)).heap.size (W.alloc (.cells (xs.map (Value.int .i64)).toArray 3)) (some ⟨W.heap.size, 0, none⟩) xs.length xs := ints_blk (Blk.new W _ 3)
theorem ints_lit2 (W : World) (xs : List Int) {B : Nat} (hB : W.heap.size = B) : Ints (W.alloc (.cells (xs.map (Value.int .i64)).toArray 3)).heap.size (W.alloc (.cells (xs.map (Value.int .i64)).toArray 3)) (some ⟨B, 0, none⟩) xs.length xs := by subst hB; exact ints_lit W xs
set_option maxRecDepth 100000 in
set_option maxHeartbeats 4000000 in
theorem awake_any (w : World) : Calls Try.prog 7 #[] w fun e w' => e = .returned (.bool true) ∧ Below w.heap.size w w' := by
  go_enter Try.func7, Try.ntmps7
  have hb : Below w.heap.size w (w.alloc (.cells #[.int .i64 3, .int .i64 2, .int .i64 3, .int .i64 9, .int .i64 0] 3)) := (Below.refl _ _).alloc (Nat.le_refl _) _
  have H1 : Hid (Below w.heap.size w (w.alloc (.cells #[.int .i64 3, .int .i64 2, .int .i64 3, .int .i64 9, .int .i64 0] 3))) := hb
  clear hb
  have V1 := Lib.hid (ints_lit w [3, 2, 3, 9, 0])
  have CO : Hid (∀ W, Ints W.heap.size W (some ⟨w.heap.size, 0, none⟩) 5 [3, 2, 3, 9, 0] → Calls Try.prog 12 #[.int .i64 5, .int .i64 5, .slice (some ⟨w.heap.size, 0, none⟩) 5 5] W (OfEnd 5 5 [2, 3] W)) := fun W h => Of_any 5 5 (some ⟨w.heap.size, 0, none⟩) 5 5 [3, 2, 3, 9, 0] W h (by omega)
  go_wp2_with fail
  refine (CO.out _ V1.out).mono ?_
  rintro e w2 ⟨g, cap, rfl, hO, hb⟩
  simp only [List.length_cons, List.length_nil, Nat.zero_add, Nat.reduceAdd]
  have V : Hid (Ints w2.heap.size w2 (some ⟨g, 0, none⟩) 2 [2, 3]) := hO.ints
  clear hO V1 CO
  have H2 : Hid (Below w.heap.size w w2) := stepB H1.out hb
  clear hb H1
  have hb : Below w2.heap.size w2 (w2.alloc (.cells #[.int .i64 5, .int .i64 5, .slice (some ⟨g, 0, none⟩) 2 cap] 25)) := (Below.refl _ _).alloc (Nat.le_refl _) _
  replace V := Lib.hid (V.out.later hb)
  have H3 : Hid (Below w.heap.size w (w2.alloc (.cells #[.int .i64 5, .int .i64 5, .slice (some ⟨g, 0, none⟩) 2 cap] 25))) := stepB H2.out hb
  clear hb H2
  have K : Hid (Blk (w2.alloc (.cells #[.int .i64 5, .int .i64 5, .slice (some ⟨g, 0, none⟩) 2 cap] 25)) w2.heap.size #[.int .i64 5, .int .i64 5, .slice (some ⟨g, 0, none⟩) 2 cap] 25) := Blk.new w2 _ _
  have K_0 : _ = some (Value.int .i64 5) := K.out.cell 0
  have K_1 : _ = some (Value.int .i64 5) := K.out.cell 1
  have K_2 : _ = some (Value.slice (some ⟨g, 0, none⟩) 2 cap) := K.out.cell 2
  have zK : w2.heap.size < w2.heap.size + 1 := by omega
  have hb : Below (w2.alloc (.cells #[.int .i64 5, .int .i64 5, .slice (some ⟨g, 0, none⟩) 2 cap] 25)).heap.size (w2.alloc (.cells #[.int .i64 5, .int .i64 5, .slice (some ⟨g, 0, none⟩) 2 cap] 25)) ((w2.alloc (.cells #[.int .i64 5, .int .i64 5, .slice (some ⟨g, 0, none⟩) 2 cap] 25)).alloc (.cells #[.int .i64 2, .int .i64 3] 3)) := (Below.refl _ _).alloc (Nat.le_refl _) _
  replace V := Lib.hid (V.out.later hb)
  replace K := Lib.hid (K.out.later hb)
  replace K_0 : _ = some (Value.int .i64 5) := K.out.cell 0
  replace K_1 : _ = some (Value.int .i64 5) := K.out.cell 1
  replace K_2 : _ = some (Value.slice (some ⟨g, 0, none⟩) 2 cap) := K.out.cell 2
  have H4 : Hid (Below w.heap.size w ((w2.alloc (.cells #[.int .i64 5, .int .i64 5, .slice (some ⟨g, 0, none⟩) 2 cap] 25)).alloc (.cells #[.int .i64 2, .int .i64 3] 3))) := stepB H3.out hb
  clear hb H3
  have V2 : Hid (Ints ((w2.alloc (.cells #[.int .i64 5, .int .i64 5, .slice (some ⟨g, 0, none⟩) 2 cap] 25)).alloc (.cells #[.int .i64 2, .int .i64 3] 3)).heap.size ((w2.alloc (.cells #[.int .i64 5, .int .i64 5, .slice (some ⟨g, 0, none⟩) 2 cap] 25)).alloc (.cells #[.int .i64 2, .int .i64 3] 3)) (some ⟨w2.heap.size + 1, 0, none⟩) 2 [2, 3]) := ints_lit2 (w2.alloc (.cells #[.int .i64 5, .int .i64 5, .slice (some ⟨g, 0, none⟩) 2 cap] 25)) [2, 3] (World.size_alloc _ _)
  go_wp2_with fail
  refine (rSame_any 5 5 5 5 (some ⟨g, 0, none⟩) (some ⟨w2.heap.size + 1, 0, none⟩) 2 2 cap 2 [2, 3] [2, 3] _ V.out V2.out (by omega) (by omega)).mono ?_
  rintro e w5 ⟨rfl, hb⟩
  rw [same_yes]
  clear V2
  replace V := Lib.hid (V.out.later hb)
  replace K := Lib.hid (K.out.later hb)
  replace K_0 : _ = some (Value.int .i64 5) := K.out.cell 0
  replace K_1 : _ = some (Value.int .i64 5) := K.out.cell 1
  replace K_2 : _ = some (Value.slice (some ⟨g, 0, none⟩) 2 cap) := K.out.cell 2
  have H5 : Hid (Below w.heap.size w w5) := stepB H4.out hb
  clear hb H4
  go_wp2_with fail
  refine (Sees_any 5 5 (some ⟨g, 0, none⟩) 2 cap [2, 3] 1 _ V.out (by omega)).mono ?_
  rintro e w6 ⟨rfl, hb⟩
  rw [show sees 5 5 [2, 3] 1 = true from by decide]
  replace V := Lib.hid (V.out.later hb)
  replace K := Lib.hid (K.out.later hb)
  replace K_0 : _ = some (Value.int .i64 5) := K.out.cell 0
  replace K_1 : _ = some (Value.int .i64 5) := K.out.cell 1
  replace K_2 : _ = some (Value.slice (some ⟨g, 0, none⟩) 2 cap) := K.out.cell 2
  have H6 : Hid (Below w.heap.size w w6) := stepB H5.out hb
  clear hb H5
  go_wp2_with fail
  refine (Sees_any 5 5 (some ⟨g, 0, none⟩) 2 cap [2, 3] 4 _ V.out (by omega)).mono ?_
  rintro e w7 ⟨rfl, hb⟩
  rw [show sees 5 5 [2, 3] 4 = true from by decide]
  replace V := Lib.hid (V.out.later hb)
  replace K := Lib.hid (K.out.later hb)
  replace K_0 : _ = some (Value.int .i64 5) := K.out.cell 0
  replace K_1 : _ = some (Value.int .i64 5) := K.out.cell 1
  replace K_2 : _ = some (Value.slice (some ⟨g, 0, none⟩) 2 cap) := K.out.cell 2
  have H7 : Hid (Below w.heap.size w w7) := stepB H6.out hb
  clear hb H6
  go_wp2_with fail
  refine (Sees_any 5 5 (some ⟨g, 0, none⟩) 2 cap [2, 3] 5 _ V.out (by omega)).mono ?_
  rintro e w8 ⟨rfl, hb⟩
  rw [show sees 5 5 [2, 3] 5 = true from by decide]
  replace V := Lib.hid (V.out.later hb)
  replace K := Lib.hid (K.out.later hb)
  replace K_0 : _ = some (Value.int .i64 5) := K.out.cell 0
  replace K_1 : _ = some (Value.int .i64 5) := K.out.cell 1
  replace K_2 : _ = some (Value.slice (some ⟨g, 0, none⟩) 2 cap) := K.out.cell 2
  have H8 : Hid (Below w.heap.size w w8) := stepB H7.out hb
  clear hb H7
  go_wp2_with fail
  refine (Sees_any 5 5 (some ⟨g, 0, none⟩) 2 cap [2, 3] 2 _ V.out (by omega)).mono ?_
  rintro e w9 ⟨rfl, hb⟩
  rw [show sees 5 5 [2, 3] 2 = false from by decide]
  replace V := Lib.hid (V.out.later hb)
  replace K := Lib.hid (K.out.later hb)
  replace K_0 : _ = some (Value.int .i64 5) := K.out.cell 0
  replace K_1 : _ = some (Value.int .i64 5) := K.out.cell 1
  replace K_2 : _ = some (Value.slice (some ⟨g, 0, none⟩) 2 cap) := K.out.cell 2
  have H9 : Hid (Below w.heap.size w w9) := stepB H8.out hb
  clear hb H8
  go_wp2_with fail
  refine (Sees_any 5 5 (some ⟨g, 0, none⟩) 2 cap [2, 3] 3 _ V.out (by omega)).mono ?_
  rintro e w10 ⟨rfl, hb⟩
  rw [show sees 5 5 [2, 3] 3 = false from by decide]
  replace V := Lib.hid (V.out.later hb)
  replace K := Lib.hid (K.out.later hb)
  replace K_0 : _ = some (Value.int .i64 5) := K.out.cell 0
  replace K_1 : _ = some (Value.int .i64 5) := K.out.cell 1
  replace K_2 : _ = some (Value.slice (some ⟨g, 0, none⟩) 2 cap) := K.out.cell 2
  have H10 : Hid (Below w.heap.size w w10) := stepB H9.out hb
  clear hb H9
  go_wp2_with fail
  refine (Sees_any 5 5 (some ⟨g, 0, none⟩) 2 cap [2, 3] 6 _ V.out (by omega)).mono ?_
  rintro e w11 ⟨rfl, hb⟩
  rw [show sees 5 5 [2, 3] 6 = false from by decide]
  replace V := Lib.hid (V.out.later hb)
  replace K := Lib.hid (K.out.later hb)
  replace K_0 : _ = some (Value.int .i64 5) := K.out.cell 0
  replace K_1 : _ = some (Value.int .i64 5) := K.out.cell 1
  replace K_2 : _ = some (Value.slice (some ⟨g, 0, none⟩) 2 cap) := K.out.cell 2
  have H11 : Hid (Below w.heap.size w w11) := stepB H10.out hb
  clear hb H10
  go_wp2_with fail
  refine (Sees_any 5 5 (some ⟨g, 0, none⟩) 2 cap [2, 3] 0 _ V.out (by omega)).mono ?_
  rintro e w12 ⟨rfl, hb⟩
  rw [show sees 5 5 [2, 3] 0 = false from by decide]
  replace V := Lib.hid (V.out.later hb)
  replace K := Lib.hid (K.out.later hb)
  replace K_0 : _ = some (Value.int .i64 5) := K.out.cell 0
  replace K_1 : _ = some (Value.int .i64 5) := K.out.cell 1
  replace K_2 : _ = some (Value.slice (some ⟨g, 0, none⟩) 2 cap) := K.out.cell 2
  have H12 : Hid (Below w.heap.size w w12) := stepB H11.out hb
  clear hb H11
  go_wp2_with fail
  refine (Least_any 5 5 (some ⟨g, 0, none⟩) 2 cap [2, 3] _ V.out (by omega) (by omega)).mono ?_
  rintro e w13 ⟨rfl, hb⟩
  rw [show leastOf 5 5 [2, 3] = 2 from by decide]
  replace V := Lib.hid (V.out.later hb)
  replace K := Lib.hid (K.out.later hb)
  replace K_0 : _ = some (Value.int .i64 5) := K.out.cell 0
  replace K_1 : _ = some (Value.int .i64 5) := K.out.cell 1
  replace K_2 : _ = some (Value.slice (some ⟨g, 0, none⟩) 2 cap) := K.out.cell 2
  have H13 : Hid (Below w.heap.size w w13) := stepB H12.out hb
  clear hb H12
  have CO : Hid (∀ W, Calls Try.prog 12 #[.int .i64 1, .int .i64 1, .slice none 0 0] W (OfEnd 1 1 [] W)) := fun W => Of_any 1 1 none 0 0 [] W ⟨rfl, fun h => by omega⟩ (by omega)
  go_wp2_with fail
  refine (CO.out _).mono ?_
  rintro e w14 ⟨g2, cap2, rfl, hO, hb⟩
  simp only [List.length_nil]
  replace V := Lib.hid (V.out.later hb)
  replace K := Lib.hid (K.out.later hb)
  replace K_0 : _ = some (Value.int .i64 5) := K.out.cell 0
  replace K_1 : _ = some (Value.int .i64 5) := K.out.cell 1
  replace K_2 : _ = some (Value.slice (some ⟨g, 0, none⟩) 2 cap) := K.out.cell 2
  have H14 : Hid (Below w.heap.size w w14) := stepB H13.out hb
  clear hb H13
  have V3 : Hid (Ints w14.heap.size w14 (some ⟨g2, 0, none⟩) 0 []) := hO.ints
  clear hO
  go_wp2_with fail
  refine (Least_any 1 1 (some ⟨g2, 0, none⟩) 0 cap2 [] _ V3.out (by omega) (by omega)).mono ?_
  rintro e w15 ⟨rfl, hb⟩
  rw [show leastOf 1 1 [] = 2 from by decide]
  replace V := Lib.hid (V.out.later hb)
  replace K := Lib.hid (K.out.later hb)
  replace K_0 : _ = some (Value.int .i64 5) := K.out.cell 0
  replace K_1 : _ = some (Value.int .i64 5) := K.out.cell 1
  replace K_2 : _ = some (Value.slice (some ⟨g, 0, none⟩) 2 cap) := K.out.cell 2
  have H15 : Hid (Below w.heap.size w w15) := stepB H14.out hb
  clear hb H14
  go_wp2_with fail
  go_ret
  exact ⟨rfl, H15.out⟩
end Go.Proofs.Ythicofdbcldpaaa
