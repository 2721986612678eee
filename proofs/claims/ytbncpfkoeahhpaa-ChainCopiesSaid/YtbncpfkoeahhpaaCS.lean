/- behind; what a built chain's List tells. -/
import Derived.Test.YtbncpfkoeahhpaaCQ
namespace Go.Proofs.Ytbncpfkoeahhpaa
open Go.ChangeShapes Go.WideShapes Go.ChangeAt Go.RowKit Go.Maps
set_option linter.unusedVariables false
set_option linter.unusedSimpArgs false

/-- the versions from place j on, the last one first -/
def bh (L : List Vn) (j : Nat) : List Vn := (L.take (j + 1)).reverse
theorem bh_len {L : List Vn} {j : Nat} (h : j < L.length) : (bh L j).length = j + 1 := by unfold bh; rw [List.length_reverse, List.length_take]; omega
theorem getD_vn {L : List Vn} {j : Nat} (h : j < L.length) : L[j]? = some (L.getD j vn0) := by rw [List.getElem?_eq_getElem h, List.getD_eq_getElem?_getD, List.getElem?_eq_getElem h]; rfl
theorem bh_at {L : List Vn} {j r : Nat} (h : j < L.length) (hr : r ≤ j) : (bh L j)[r]? = some (L.getD (j - r) vn0) := by
  unfold bh
  have hl : (L.take (j + 1)).length = j + 1 := by rw [List.length_take]; omega
  rw [List.getElem?_reverse (by omega), hl, List.getElem?_take_of_lt (by omega), show j + 1 - 1 - r = j - r by omega]
  exact getD_vn (by omega)
theorem bh_succ {L : List Vn} {j : Nat} (h : j + 1 < L.length) : bh L (j + 1) = L.getD (j + 1) vn0 :: bh L j := by
  unfold bh
  rw [List.take_add_one, getD_vn h, List.reverse_append]; rfl
theorem bh_zero {L : List Vn} (h : 0 < L.length) : bh L 0 = [L.getD 0 vn0] := by
  unfold bh
  rw [List.take_add_one, getD_vn h]; rfl
theorem Bd.zero {st : AS} {nd : Int → Nd} {us : List Int} {L : List Vn} {k : Nat} (h : Bd st nd us L k) : isA st 0 = false := by
  rw [h.is 0 ⟨Int.le_refl _, by decide⟩]
  exact decide_eq_false (fun q => (h.rg 0 q).2 rfl)
theorem Bd.has {st : AS} {nd : Int → Nd} {us : List Int} {L : List Vn} {k j : Nat} (h : Bd st nd us L k) (hj : j < k) : hR (us.getD j 0) ∧ isA st (us.getD j 0) = true := by
  have hm := getD_in (us := us) (j := j) (by rw [h.len]; exact hj)
  have hr := (h.rg _ hm).1
  exact ⟨hr, by rw [h.is _ hr]; exact decide_eq_true hm⟩
theorem lsF_dead {st : AS} {nd : Int → Nd} {x : Int} (h : isA st x = false) : ∀ m, lsF st nd m x = []
  | 0 => rfl
  | m + 1 => by rw [lsF, h]; rfl
theorem Bd.list {st : AS} {nd : Int → Nd} {us : List Int} {L : List Vn} {k : Nat} (h : Bd st nd us L k) (hk : k ≤ L.length) : ∀ j, j < k → ∀ m, j + 1 ≤ m → lsF st nd m (us.getD j 0) = bh L j
  | 0, hj, m + 1, _ => by
    rw [lsF, (h.has hj).2, if_pos rfl, h.nd 0 hj, bh_zero (by omega)]
    show _ :: lsF st nd m (topU us 0) = _
    rw [show topU us 0 = 0 from rfl, lsF_dead h.zero]
  | j + 1, hj, m + 1, hm => by
    rw [lsF, (h.has hj).2, if_pos rfl, h.nd (j + 1) hj, bh_succ (by omega)]
    show _ :: lsF st nd m (topU us (j + 1)) = _
    have e : topU us (j + 1) = us.getD j 0 := by unfold topU; rw [if_neg (by omega)]; rfl
    rw [e, h.list hk j (by omega) m (by omega)]
theorem Bd.us {W : World} {B q a m k : Nat} {cf : Conf} {st : AS} {S : Nat → Prop} {nd : Int → Nd} {us : List Int} {L : List Vn} (h : Bd st nd us L k) (hx : CX W B q cf a m st S nd us k) (hk : k ≤ 100000) : usA st = k := by
  rw [hx.us hk, ← h.len]
  refine List.countP_eq_length.2 (fun x hm => ?_)
  rw [h.is x (h.rg x hm).1]
  exact decide_eq_true hm
def RwEnd (L : List Vn) (w : World) (e : Ending) (w' : World) : Prop := ∃ A c, e = .returned (.slice A L.length c) ∧ ROwn vec 4 w' w.heap.size 29 (.slice A L.length c) L.length L ∧ Below w.heap.size w w'
set_option maxRecDepth 100000 in
set_option maxHeartbeats 8000000 in
theorem behind_any (A : Option Addr) (n c : Nat) (L : List Vn) (j : Nat) (w : World) (hS : RSl vec 4 w A n L) (hj : j < n) (hn : n ≤ 100000) : Calls Try.prog 23 #[.slice A n c, .int .i64 (j : Int)] w (RwEnd (bh L j) w) := by
  have HS := Lib.hid hS
  have HLN : Hid (L.length = n) := hS.1
  have HBL := Lib.hid (bh_len (L := L) (j := j) (by rw [hS.1]; exact hj))
  clear hS
  go_enter Try.func23, Try.ntmps23
  go_wp2
  go_loopw [5, 6] (fun o i W => ∃ (r : Nat) (v : Value), r ≤ j + 1 ∧ i = .int .i64 ((j : Int) - (r : Int)) ∧ v = o ∧ ROwn vec 4 W w.heap.size 29 v r ((bh L j).take r) ∧ Below w.heap.size w W) (fun _ i _ => (intOf i + 1).toNat)
  case atStart => exact ⟨0, _, by omega, by simp, rfl, ROwn.nil0 _ _ _, Below.refl _ _⟩
  case round =>
    obtain ⟨r, v, hr, rfl, rfl, ho, hb⟩ := hrel
    have HO := Lib.hid ho
    have HBW := Lib.hid hb
    clear ho hb
    by_cases hlt : r ≤ j
    · have d2 : decide ((0 : Int) ≤ (j : Int) - (r : Int)) = true := decide_eq_true (by omega)
      have wk : IntKind.i64.wrap ((j : Int) - (r : Int) - 1) = (j : Int) - (r : Int) - 1 := IntWalk.i64_in _ (by omega)
      obtain ⟨g, off, rfl, hg, a0, a1, a2, a3⟩ := rsl_at (k := j - r) (HS.out.later HBW.out) (by omega)
      have hx1 := index_run g off n c (j - r) ((j : Int) - (r : Int)) (by omega) (by omega)
      have HT : Hid ((bh L j).take (r + 1) = (bh L j).take r ++ [L.getD (j - r) vn0]) := by
        have h1 := bh_at (L := L) (j := j) (r := r) (by rw [HLN.out]; exact hj) hlt
        have h2 := List.take_add_one (l := bh L j) (i := r)
        rw [h1] at h2
        exact h2
      obtain ⟨x, hx⟩ : ∃ x, L.getD (j - r) vn0 = x := ⟨_, rfl⟩
      rw [hx] at a0 a1 a2 a3 HT
      obtain ⟨wr2, t, b, z⟩ := x
      simp only at a0 a1 a2 a3
      clear hx hg
      have hby : Below wr.heap.size wr (wr.alloc (.cells #[.int .i64 wr2, .int .i64 t, .bool b, .string z] 29)) := (Below.refl _ _).alloc (Nat.le_refl _) _
      have HX3 : Hid (RSl vec 4 (wr.alloc (.cells #[.int .i64 wr2, .int .i64 t, .bool b, .string z] 29)) (some ⟨wr.heap.size, 0, none⟩) 1 [(wr2, t, b, z)]) := Blk.rsl (x := ((wr2, t, b, z) : Vn)) (Blk.new wr _ 29)
      have HO3 := Lib.hid (HO.out.later hby)
      have HB3 := Lib.hid (stepB HBW.out hby)
      clear hby HO
      obtain ⟨Av, cv, hv, _, _⟩ := HO3.out.sl
      subst hv
      go_wp2_with (first
        | (at_builtin; refine append_row1 elemV rfl (.tmp 12) (.tmp 17) rfl w.heap.size (.slice Av r cv) r ((bh L j).take r) rfl HO3.out wr.heap.size 1 (wr2, t, b, z) rfl HX3.out (by omega) (by decide) HB3.out.size ?_; intro A4 c4 w4 ho4 hg4 hn4)
        | fail)
      intro hl4
      have HO4 := Lib.hid ho4
      have HB4 : Hid (Below w.heap.size w w4) := HB3.out.grown hg4 HB3.out.size (fun j e => (HO3.out.lt j e).1)
      clear ho4 hg4 hn4 hl4 HX3 HO3 HB3
      go_wp2
      go_roundw
      case rel => exact ⟨r + 1, _, by omega, by go_num, rfl, by rw [HT.out]; exact HO4.out, HB4.out⟩
      case measure => simp [intOf]; omega
    · obtain rfl : r = j + 1 := by omega
      obtain ⟨z, hz⟩ : ∃ z, (j : Int) - ((j + 1 : Nat) : Int) = z := ⟨_, rfl⟩
      rw [hz]
      have d2 : decide ((0 : Int) ≤ z) = false := decide_eq_false (by omega)
      clear hz
      have HTK : Hid ((bh L j).take (j + 1) = bh L j) := List.take_of_length_le (by rw [HBL.out]; exact Nat.le_refl _)
      obtain ⟨Av, cv, hv, _, _⟩ := HO.out.sl
      subst hv
      go_wp2
      go_ret
      have h9 := HO.out
      rw [HTK.out] at h9
      refine ⟨Av, cv, by rw [HBL.out]; rfl, by rw [HBL.out]; exact h9, HBW.out⟩
end Go.Proofs.Ytbncpfkoeahhpaa
