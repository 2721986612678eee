/- The sort at names; Copy; rows of names. -/
import Derived.Test.YtgjponobiplipaaC
import Derived.Test.YtgjponobiplipaaS
import Derived.Shelf.GgSortFunc.RowK
import Derived.Shelf.GgSortFunc.InsertionK
import Derived.Lib.OwnBridge
import Derived.Lib.RowBridge
namespace Go.Proofs.Ytgjponobiplipaa
open Go.ChangeShapes Go.WideShapes Go.ChangeAt Go.RowKit Go.Maps
set_option linter.unusedVariables false
set_option linter.unusedSimpArgs false

open Go.Sort Go.Lib Go.Shelf
theorem isAgg27 (w : World) : (isAgg 27).run Try.prog w = .ok true w := by kernel_rfl
theorem sizeOf27 (w : World) : (Go.sizeOf 27).run Try.prog w = .ok 2 w := by kernel_rfl
def encN (z : Int) : List Value := [.int .u8 (z / 18446744073709551616), .int .u64 (z % 18446744073709551616)]
theorem cmpLays26 (blk off size : Nat) (w : World) : CmpLays Try.prog 26 #[] encN 2 (fun x y => Lib.compareInt x y) blk off size w :=
  fun _ _ _ _ x y => compare26 x y _
theorem ltNm (x y : Int) : ltOf (fun x y : Int => Lib.compareInt x y) x y = decide (x < y) := by
  unfold ltOf Lib.compareInt
  by_cases h1 : x < y
  · simp [h1]
  · by_cases h2 : y < x <;> simp [h1, h2]
theorem swoNm : SWO (ltOf fun x y : Int => Lib.compareInt x y) where
  irrefl x := by rw [ltNm]; simp
  trans x y z h1 h2 := by rw [ltNm] at *; simp at *; omega
  ntrans x y z h1 h2 := by rw [ltNm] at *; simp at *; omega
theorem below_growS {B : Nat} {w0 w : World} (h : RowKit.Below B w0 w) (hB : B ≤ w.heap.size) (os : Array Obj) : RowKit.Below B w0 (Sort.grow w os) :=
  ⟨h.os, h.tape, h.output, by have := h.size; simp [Sort.grow]; omega, fun k hk => by
    rw [← h.block k hk]
    simp only [Sort.grow]
    exact Array.getElem?_append_left (by omega)⟩
theorem below_sort {w : World} {B g n : Nat} {d : Array Int} {os : Array Obj} (hg : g < w.heap.size) (hB : B ≤ g) : RowKit.Below B w (sortWorldK encN 2 w g 0 n d os) := by
  have h1 : RowKit.Below B w (putRowK encN 2 (Sort.ahead w n) g 0 d) := below_putRow (enc := id) (RowKit.Below.refl B w) hB
  have hs : w.heap.size ≤ (putRowK encN 2 (Sort.ahead w n) g 0 d).heap.size := h1.size
  exact below_growS h1 (by omega) os
def SortEnd (g : Nat) (D : List Int) (w : World) (e : Ending) (w' : World) : Prop := e = .returned (.tuple #[]) ∧ ∃ E : List Int, E.length = D.length ∧ E.Perm D ∧ E.Pairwise (fun p q => ¬ q < p) ∧ HoldsK encN 2 w' g 0 E.toArray ∧ ∀ B, B ≤ g → RowKit.Below B w w'
theorem sort_some (g cap : Nat) (D : List Int) (w : World) (hH : HoldsK encN 2 w g 0 D.toArray) (hg : g < w.heap.size) (hD : D.length ≤ 1000) : Calls Try.prog 25 #[.slice (some ⟨g, 0, none⟩) D.length cap, .func (.func 26) #[] #[]] w (SortEnd g D w) := by
  have eg : ∀ args w, (callFunc 26 args).run Try.prog w = .ok (.enter 26 args) w := enters_of Try.func26 (by kernel_rfl) rfl
  have hcon := AnyQ.slices_SortFunc Try.sortNm 2 isAgg27 sizeOf27 encN (fun _ => rfl) (fun x v hv => by simp [encN] at hv; rcases hv with rfl | rfl <;> rfl) (fun x y => Lib.compareInt x y) swoNm 26 #[] g 0 cap D.toArray w eg (cmpLays26 g 0 _ w) hH hg (by simp; omega)
  change Calls Try.prog 25 _ _ _ at hcon
  simp only [List.size_toArray] at hcon
  refine hcon.mono ?_
  rintro e w' ⟨rfl, d', n, os, hp, hs, rfl⟩
  obtain ⟨p1, _, p3⟩ := hp
  have hl : d'.toList.length = D.length := by simpa using p1
  have hl2 : d'.size = D.length := by simpa using p1
  refine ⟨rfl, d'.toList, hl, ?_, ?_, ?_, fun B hB => below_sort hg hB⟩
  · have e1 : d'.extract 0 D.length = d' := by rw [← hl2]; simp
    have e2 : D.toArray.extract 0 D.length = D.toArray := by simp
    rw [e1, e2] at p3
    simpa using p3
  · rw [List.pairwise_iff_getElem]
    intro i j hi hj hij
    have h := hs i j (Nat.zero_le _) hij (by omega)
    rw [ltNm] at h
    have hi' : i < d'.size := by omega
    have hj' : j < d'.size := by omega
    rw [getElem!_pos d' i hi', getElem!_pos d' j hj'] at h
    have := of_decide_eq_false h
    simpa using this
  · rw [Array.toArray_toList]
    exact holdsK_sortWorldK encN 2 w g 0 n D.toArray d' os hg hH (by simpa using hl2)
theorem sort_none (w : World) : Calls Try.prog 25 #[.slice none 0 0, .func (.func 26) #[] #[]] w fun e w' => e = .returned (.tuple #[]) ∧ w = w' := by
  have h := AnyF.slices_SortFunc_none Try.sortNm none 0 (.func (.func 26) #[] #[]) w
  change Calls Try.prog 25 _ _ _ at h
  exact h.mono fun e w' h => ⟨h.1, h.2.symm⟩
theorem clone_any (b n : Nat) (C : List Ct) (w : World) (h : w.ownsMap Try.prog 27 R3 b n (dm C)) : Calls Try.prog 27 #[.map (some b)] w fun e w' => e = .returned (.map (some w.heap.size)) ∧ w'.ownsMap Try.prog 27 R3 w.heap.size n (dm C) ∧ Below w.heap.size w w' := by
  have hc := AnyW.maps_Clone_owns Try.mapsClone 27 R3 b n (dm C) w h
  change Calls Try.prog 27 _ _ _ at hc
  exact hc.mono fun e w' ⟨h1, h2, _, h4⟩ => ⟨h1, h2, h4⟩
def CopyEnd (C : List Ct) (w : World) (x : Ending) (w' : World) : Prop := ∃ q b, x = .returned (.pointer (some ⟨q, 0, none⟩)) ∧ LaAt w' w.heap.size q b C ∧ Below w.heap.size w w'
set_option maxRecDepth 100000 in
set_option maxHeartbeats 4000000 in
theorem copy_any (B p b : Nat) (C : List Ct) (w : World) (h : LaAt w B p b C) : Calls Try.prog 15 #[.pointer (some ⟨p, 0, none⟩)] w (CopyEnd C w) := by
  have HOK := Lib.hid h.ok
  have HC := Lib.hid (clone_any b C.length C w h.own.2)
  have k0 := h.blk.cell 0
  simp only [List.getElem?_toArray, List.getElem?_cons_zero] at k0
  clear h
  go_enter Try.func15, Try.ntmps15
  go_wp2_with fail
  refine (HC.out).mono ?_
  rintro x w1 ⟨rfl, ho, hb⟩
  have hb2 : RowKit.Below w.heap.size w (w1.alloc (.cells #[.map (some w.heap.size)] 56)) := hb.alloc hb.size _
  have HF : Hid (LaAt (w1.alloc (.cells #[.map (some w.heap.size)] 56)) w.heap.size w1.heap.size w.heap.size C) := ⟨hb.size, Blk.new _ _ _, ⟨Nat.le_refl _, ho.alloc _⟩, HOK.out⟩
  have HB2 := Lib.hid hb2
  clear ho hb hb2 HC k0
  go_wp2
  go_ret
  exact ⟨_, _, rfl, HF.out, HB2.out⟩
/-! ### rows of names -/
theorem n27info : (Try.prog.info? 27).map (fun i => (i.zero, i.size, i.bytes)) = some (some (.agg #[.int .u8 0, .int .u64 0]), 2, 16) := by kernel_rfl
theorem info_parts {t : TypeId} {z : Option Value} {s b : Nat} (h : (Try.prog.info? t).map (fun i => (i.zero, i.size, i.bytes)) = some (z, s, b)) : ∃ i, Try.prog.info? t = some i ∧ i.zero = z ∧ i.size = s ∧ i.bytes = b := by
  cases hi : Try.prog.info? t with
  | none => rw [hi] at h; cases h
  | some i => rw [hi] at h; simp only [Option.map_some, Option.some.injEq, Prod.mk.injEq] at h; exact ⟨i, rfl, h.1, h.2.1, h.2.2⟩
def nmvs : List Int → List Value
  | [] => []
  | z :: l => .int .u8 (z / 18446744073709551616) :: .int .u64 (z % 18446744073709551616) :: nmvs l
theorem nmvs_len : ∀ l : List Int, (nmvs l).length = l.length * 2
  | [] => rfl
  | v :: l => by simp [nmvs, nmvs_len l]; omega
theorem nmvs_app : ∀ (l m : List Int), nmvs (l ++ m) = nmvs l ++ nmvs m
  | [], m => rfl
  | v :: l, m => by simp [nmvs, nmvs_app l m]
theorem nmvs_at : ∀ (l : List Int) (j : Nat), j < l.length → (nmvs l)[j * 2]? = some (.int .u8 (l.getD j 0 / 18446744073709551616)) ∧ (nmvs l)[j * 2 + 1]? = some (.int .u64 (l.getD j 0 % 18446744073709551616))
  | [], j, h => by simp at h
  | v :: l, 0, h => ⟨rfl, rfl⟩
  | v :: l, j + 1, h => by
    have ih := nmvs_at l j (by simp at h; omega)
    rw [show (j + 1) * 2 = j * 2 + 1 + 1 from by omega]
    simp only [nmvs, List.getElem?_cons_succ, List.getD_cons_succ]
    exact ih
theorem nmvs_one : ∀ (l : List Int), ∀ u ∈ nmvs l, u.oneCell' = true
  | [], u, h => by cases h
  | v :: l, u, h => by
    simp only [nmvs, List.mem_cons] at h
    rcases h with rfl | rfl | h
    · rfl
    · rfl
    · exact nmvs_one l u h
/-- a row of names that the call made, its elements of a type -/
def NOwn (e : TypeId) (W : World) (B : Nat) (v : Value) (L : List Int) : Prop := W.ownsRow B e 2 v L.length (nmvs L)
/-- a slice that reads as names, in a block that the call made -/
def NSl (W : World) (B : Nat) (A : Option Addr) (L : List Int) : Prop :=
  0 < L.length → ∃ g, A = some ⟨g, 0, none⟩ ∧ B ≤ g ∧ g < W.heap.size ∧ ∀ j, j < L.length → W.cell? ⟨g, j * 2, none⟩ = some (.int .u8 (L.getD j 0 / 18446744073709551616)) ∧ W.cell? ⟨g, j * 2 + 1, none⟩ = some (.int .u64 (L.getD j 0 % 18446744073709551616)) ∧ W.frozen? ⟨g, j * 2, none⟩ = false ∧ W.frozen? ⟨g, j * 2 + 1, none⟩ = false
section
variable {e : TypeId} {W W' : World} {B : Nat} {v : Value} {L : List Int}
theorem NSl.later {A : Option Addr} (h : NSl W B A L) (hb : RowKit.Below W.heap.size W W') : NSl W' B A L := fun hL => by
  obtain ⟨g, hA, hB, hg, hc⟩ := h hL
  refine ⟨g, hA, hB, Nat.lt_of_lt_of_le hg hb.size, fun j hj => ?_⟩
  obtain ⟨c1, c2, c3, c4⟩ := hc j hj
  have e := hb.block g hg
  exact ⟨(World.cell?_of_block (a := ⟨g, j * 2, none⟩) e).trans c1, (World.cell?_of_block (a := ⟨g, j * 2 + 1, none⟩) e).trans c2, (World.frozen?_of_block (a := ⟨g, j * 2, none⟩) e).trans c3, (World.frozen?_of_block (a := ⟨g, j * 2 + 1, none⟩) e).trans c4⟩
theorem NSl.base {B' : Nat} {A : Option Addr} (h : NSl W B A L) (hb : B' ≤ B) : NSl W B' A L := fun hL => by
  obtain ⟨g, hA, hB, rest⟩ := h hL
  exact ⟨g, hA, Nat.le_trans hb hB, rest⟩
theorem NOwn.sl (h : NOwn e W B v L) : ∃ A c, v = .slice A L.length c ∧ (0 < L.length → ∃ g, A = some ⟨g, 0, none⟩ ∧ B ≤ g ∧ g < W.heap.size) := by
  rcases h.2 with ⟨rfl, h2⟩ | ⟨g, cap, cur, rfl, hB, hg, hn, hm, hs, ht⟩
  · have hL : L.length = 0 := h2
    exact ⟨none, 0, by rw [hL], fun h => by omega⟩
  · exact ⟨_, cap, rfl, fun _ => ⟨g, rfl, hB, (Array.getElem?_eq_some_iff.1 hg).1⟩⟩
theorem NOwn.nil (e : TypeId) (W : World) (B : Nat) : NOwn e W B (.slice none 0 0) [] := World.ownsRow_nil _ _ _ _
theorem NOwn.lt (h : NOwn e W B v L) : ∀ k, v.ownBlock = some k → B ≤ k ∧ k < W.heap.size := World.ownsRow.lt h
theorem NOwn.later (h : NOwn e W B v L) (hb : RowKit.Below W.heap.size W W') : NOwn e W' B v L := World.ownsRow.kept h (row := none) ⟨hb.os, hb.tape, hb.output, hb.size, fun k hk _ => hb.block k hk⟩ (by cases v.ownBlock <;> simp)
theorem NOwn.tag (h : NOwn e W B v L) : ∀ k, v.ownBlock = some k → ∃ cur, W.heap[k]? = some (.cells cur e (0, 0)) := fun k hk => by
  rcases h.2 with ⟨rfl, _⟩ | ⟨g, cap, cur, rfl, hb, hg, _⟩
  · cases hk
  · cases hk; exact ⟨cur, hg⟩
theorem getD_arr (L : List Int) (i : Nat) (hi : i < L.length) : (L.toArray)[i]! = L.getD i 0 := by
  rw [getElem!_pos _ i (by simpa using hi), List.getElem_toArray, List.getD_eq_getElem?_getD, List.getElem?_eq_getElem hi]; rfl
theorem NOwn.holds {g cap : Nat} (h : NOwn e W B (.slice (some ⟨g, 0, none⟩) L.length cap) L) : HoldsK encN 2 W g 0 L.toArray := fun j hj => by
  have hO : W.ownsRow B e 2 (.slice (some ⟨g, 0, none⟩) L.length cap) L.length (nmvs L) := h
  have hj2 : j < L.length * 2 := by simpa using hj
  have hjl : j < (nmvs L).length := by rw [nmvs_len]; exact hj2
  refine ⟨?_, hO.frozenAt _⟩
  rw [Nat.zero_add, hO.cellAt j hj2, get_flatK encN 2 _ j (by simpa using hj2)]
  have hi : j / 2 < L.length := by omega
  rw [getD_arr L _ hi]
  obtain ⟨e1, e2⟩ := nmvs_at L (j / 2) hi
  rcases Nat.mod_two_eq_zero_or_one j with h0 | h0
  · have ej : j = j / 2 * 2 := by omega
    rw [h0]; rw [← ej] at e1; rw [e1]; rfl
  · have ej : j = j / 2 * 2 + 1 := by omega
    rw [h0]; rw [← ej] at e2; rw [e2]; rfl
theorem nsl_of {g : Nat} (h : HoldsK encN 2 W g 0 L.toArray) (hB : B ≤ g) (hg : g < W.heap.size) : NSl W B (some ⟨g, 0, none⟩) L := fun hL => by
  refine ⟨g, rfl, hB, hg, fun j hj => ?_⟩
  have h0 := h.cell (i := j) (c := 0) (by simpa using hj) (by decide)
  have h1 := h.cell (i := j) (c := 1) (by simpa using hj) (by decide)
  rw [getD_arr L j hj] at h0 h1
  simp only [Nat.zero_add, Nat.add_zero] at h0 h1
  exact ⟨h0.1, h1.1, h0.2, h1.2⟩
theorem NOwn.nsl {A : Option Addr} {c : Nat} (h : NOwn e W B (.slice A L.length c) L) : NSl W B A L := fun hL => by
  obtain ⟨A', c', e', hg⟩ := h.sl
  cases e'
  obtain ⟨g, rfl, hB, hlt⟩ := hg hL
  exact nsl_of h.holds hB hlt hL
end
theorem ranges_ne {W : World} {B b r n cnt : Nat} {D : DU} {left : Lit → Bool} {v : Value} {L : List Int} {e : TypeId} (h : W.ranges Try.prog 27 R3 b r n D left cnt) (o : NOwn e W B v L) : some b ≠ v.ownBlock ∧ some r ≠ v.ownBlock := by
  obtain ⟨es, clock, since, seen, c0, hb, _, _, _, hr, _⟩ := h
  refine ⟨fun e => ?_, fun e => ?_⟩
  · obtain ⟨cur, hc⟩ := o.tag b e.symm; rw [hb] at hc; cases hc
  · obtain ⟨cur, hc⟩ := o.tag r e.symm; rw [hr] at hc; cases hc
theorem blk_oneN {W : World} {g : Nat} {z : Int} {t : TypeId} (h : Blk W g #[.int .u8 (z / 18446744073709551616), .int .u64 (z % 18446744073709551616)] t) : ∀ j u, (nmvs [z])[j]? = some u → W.cell? ((⟨g, 0, none⟩ : Addr).add j) = some u := fun j u hu => by
  rw [add_plain, Nat.zero_add, h.cell]
  simpa [nmvs] using hu
end Go.Proofs.Ytgjponobiplipaa
