/- Versions in memory of the call's own; the library's Clone of them. -/
import Derived.Test.YteelhldioaaffaaE
import Derived.Laws.AppendOwn
namespace Go.Proofs.Yteelhldioaaffaa
open Go.ChangeShapes Go.WideShapes Go.ChangeAt Go.RowKit
set_option linter.unusedVariables false
/-- versions as the memory's cells -/
def vsv : List Ver → List Value
  | [] => []
  | v :: l => .int .i64 v.w :: .int .i64 v.ts :: .bool v.tomb :: .string v.val :: vsv l
theorem vsv_len : ∀ l : List Ver, (vsv l).length = l.length * 4
  | [] => rfl
  | v :: l => by simp [vsv, vsv_len l]; omega
theorem vsv_app : ∀ (l m : List Ver), vsv (l ++ m) = vsv l ++ vsv m
  | [], m => rfl
  | v :: l, m => by simp [vsv, vsv_app l m]
theorem vsv_take : ∀ (l : List Ver) (k : Nat), (vsv l).take (k * 4) = vsv (l.take k)
  | l, 0 => by simp [vsv]
  | [], k + 1 => by simp [vsv]
  | v :: l, k + 1 => by
    rw [show (k + 1) * 4 = k * 4 + 1 + 1 + 1 + 1 from by omega]
    simp only [vsv, List.take_succ_cons, vsv_take l k]
theorem vsv_at : ∀ (l : List Ver) (j : Nat), j < l.length → (vsv l)[j * 4]? = some (.int .i64 (l.getD j ver0).w) ∧ (vsv l)[j * 4 + 1]? = some (.int .i64 (l.getD j ver0).ts) ∧
    (vsv l)[j * 4 + 1 + 1]? = some (.bool (l.getD j ver0).tomb) ∧ (vsv l)[j * 4 + 1 + 1 + 1]? = some (.string (l.getD j ver0).val)
  | [], j, h => by simp at h
  | v :: l, 0, h => ⟨rfl, rfl, rfl, rfl⟩
  | v :: l, j + 1, h => by
    have ih := vsv_at l j (by simp at h; omega)
    rw [show (j + 1) * 4 = j * 4 + 1 + 1 + 1 + 1 from by omega]
    simp only [vsv, List.getElem?_cons_succ, List.getD_cons_succ]
    exact ih
theorem vsv_one : ∀ (l : List Ver), ∀ u ∈ vsv l, u.oneCell' = true
  | [], u, h => by cases h
  | v :: l, u, h => by
    simp only [vsv, List.mem_cons] at h
    rcases h with rfl | rfl | rfl | rfl | h
    · rfl
    · rfl
    · rfl
    · rfl
    · exact vsv_one l u h
/-- the first versions of a block of cells -/
structure VRow (W : World) (B : Nat) (A : Option Addr) (n : Nat) (vs : List Ver) : Prop where
  len : vs.length = n
  blk : 0 < n → ∃ g cur, A = some ⟨g, 0, none⟩ ∧ B ≤ g ∧ Blk W g cur 27 ∧ n * 4 ≤ cur.size ∧ cur.toList.take (n * 4) = vsv vs
theorem vrow_vers {W : World} {B n : Nat} {A : Option Addr} {vs : List Ver} (h : VRow W B A n vs) : Vers W.heap.size W A n vs :=
  ⟨h.len, fun hn => by
    obtain ⟨g, cur, hA, _, hb, hs, ht⟩ := h.blk hn
    refine ⟨g, 0, hA, hb.lt, fun j hj => ?_⟩
    have e := vsv_at vs j (by rw [h.len]; exact hj)
    have hc : ∀ i, i < n * 4 → W.cell? ⟨g, i, none⟩ = (vsv vs)[i]? := fun i hi => by
      rw [hb.cell, ← ht, List.getElem?_take_of_lt hi, Array.getElem?_toList]
    rw [Nat.zero_add]
    exact ⟨(hc _ (by omega)).trans e.1, (hc _ (by omega)).trans e.2.1, (hc _ (by omega)).trans e.2.2.1, (hc _ (by omega)).trans e.2.2.2⟩⟩
theorem VRow.below {W W' : World} {B n : Nat} {A : Option Addr} {vs : List Ver} (h : VRow W B A n vs) (hb : Below W.heap.size W W') : VRow W' B A n vs :=
  ⟨h.len, fun hn => by
    obtain ⟨g, cur, hA, hB, hk, hs, ht⟩ := h.blk hn
    exact ⟨g, cur, hA, hB, hk.below hb hk.lt, hs, ht⟩⟩
theorem VRow.take {W : World} {B n k : Nat} {A : Option Addr} {vs : List Ver} (h : VRow W B A n vs) (hk : k ≤ n) : VRow W B A k (vs.take k) :=
  ⟨by rw [List.length_take, h.len]; omega, fun hp => by
    obtain ⟨g, cur, hA, hB, hb, hs, ht⟩ := h.blk (by omega)
    refine ⟨g, cur, hA, hB, hb, by omega, ?_⟩
    rw [← vsv_take, ← ht, List.take_take, show min (k * 4) (n * 4) = k * 4 from by omega]⟩
theorem own_vrow {w : World} {B n : Nat} {v : Value} {vs : List Ver} (h : w.ownsRow B 27 4 v n (vsv vs)) : ∃ A c, v = .slice A n c ∧ n ≤ c ∧ VRow w B A n vs := by
  have hl : vs.length = n := by have := h.1; rw [vsv_len] at this; omega
  rcases h.2 with ⟨rfl, rfl⟩ | ⟨g, cap, cur, rfl, hg, hb, hc, _, hs, ht⟩
  · exact ⟨none, 0, rfl, Nat.le_refl _, ⟨hl, fun h => by omega⟩⟩
  · exact ⟨some ⟨g, 0, none⟩, cap, rfl, hc, ⟨hl, fun _ => ⟨g, cur, rfl, hg, hb, by rw [hs]; omega, ht⟩⟩⟩
theorem v27info : (Try.prog.info? 27).map (fun i => (i.zero, i.size, i.bytes)) = some (some (.agg #[.int .i64 0, .int .i64 0, .bool false, .string ⟨#[]⟩]), 4, 40) := by kernel_rfl
theorem add_plain (b off n : Nat) : (⟨b, off, none⟩ : Addr).add n = ⟨b, off + n, none⟩ := by
  unfold Addr.add
  by_cases h : n = 0
  · subst h; rfl
  · rw [if_neg h]
/-- the cells of a slice that reads as versions -/
theorem vers_cells {n : Nat} {W : World} {g off : Nat} {vs : List Ver} (hl : vs.length = n) (h : ∀ j, j < n → VerAt W g (off + j * 4) (vs.getD j ver0)) :
    ∀ i u, (vsv vs)[i]? = some u → W.cell? ((⟨g, off, none⟩ : Addr).add i) = some u := fun i u hu => by
  have hi : i < vs.length * 4 := by rw [← vsv_len]; exact (List.getElem?_eq_some_iff.1 hu).1
  have hj : i / 4 < n := by omega
  have e := vsv_at vs (i / 4) (by omega)
  have hc := h (i / 4) hj
  rw [add_plain]
  have h4 : i = i / 4 * 4 ∨ i = i / 4 * 4 + 1 ∨ i = i / 4 * 4 + 1 + 1 ∨ i = i / 4 * 4 + 1 + 1 + 1 := by omega
  generalize i / 4 = q at *
  obtain ⟨e0, e1, e2, e3⟩ := e
  rcases h4 with rfl | rfl | rfl | rfl
  · rw [e0] at hu; cases hu; exact hc.c0
  · rw [e1] at hu; cases hu; exact hc.c1
  · rw [e2] at hu; cases hu; exact hc.c2
  · rw [e3] at hu; cases hu; exact hc.c3
def CloneEnd (vs : List Ver) (n : Nat) (w : World) (e : Ending) (w' : World) : Prop :=
  ∃ A' c', e = .returned (.slice A' n c') ∧ n ≤ c' ∧ VRow w' w.heap.size A' n vs ∧ Below w.heap.size w w'
set_option maxRecDepth 100000 in
set_option maxHeartbeats 2000000 in
theorem clone_any (A : Option Addr) (n c : Nat) (vs : List Ver) (w : World) (hn : n ≤ 1000000) (hs : Vers w.heap.size w A n vs) :
    Calls Try.prog 23 #[.slice A n c] w (CloneEnd vs n w) := by
  have Hs := Lib.hid hs
  clear hs
  cases A with
  | none =>
    have hn0 : n = 0 := by
      rcases Nat.eq_zero_or_pos n with h | h
      · exact h
      · obtain ⟨g, off, e, _⟩ := Hs.out.2 h; cases e
    subst hn0
    have hv : Hid (vs = []) := List.eq_nil_of_length_eq_zero Hs.out.1
    have hq := fun W => Lib.run_eql_slice_nil (P := Try.prog) W 24 27 none 0 c 0 0 Try.underlying24
    go_enter Try.func23, Try.ntmps23
    go_wp2
    go_ret
    exact ⟨none, 0, rfl, Nat.le_refl _, ⟨by rw [hv.out]; rfl, fun h => by omega⟩, Below.refl _ _⟩
  | some a =>
    obtain ⟨i0, hi, hz0, hz1, hz2⟩ := info_parts v27info
    have hown0 := World.ownsRow_lit (base := w.heap.size) (size := 4) (e := 27) w #[] 0 (Nat.le_refl _) (by unfold maxLen; omega) (by simp)
    have Hl : Hid ((vsv vs).length = n * 4) := by show _ = _; rw [vsv_len, Hs.out.1]
    have Hc : Hid (∀ i u, (vsv vs)[i]? = some u → (w.alloc (.cells #[] 27)).cell? (a.add i) = some u) := by
      by_cases h0 : 0 < n
      · obtain ⟨g, off, e, hg, hc⟩ := Hs.out.2 h0
        cases e
        intro i u hu
        have := vers_cells Hs.out.1 hc i u hu
        exact (((Below.refl w.heap.size w).alloc (Nat.le_refl _) (.cells #[] 27)).cell (p := (⟨g, off, none⟩ : Addr).add i) (by rw [add_plain]; exact hg)).trans this
      · have hv : vs = [] := List.eq_nil_of_length_eq_zero (by have := Hs.out.1; omega)
        intro i u hu
        rw [hv] at hu; simp [vsv] at hu
    have hq := fun W => Lib.run_eql_slice_nil (P := Try.prog) W 24 27 (some a) n c 0 0 Try.underlying24
    go_enter Try.func23, Try.ntmps23
    go_wp2_with (at_builtin; refine wpList_append_own _ rfl _ _ 24 rfl w.heap.size 27 i0 _ 4 40 Try.underlying24 hi hz0 hz1 hz2 rfl (by decide) _ 0 [] rfl hown0 a n c (vsv vs) rfl Hl.out Hc.out (vsv_one vs) (by unfold maxLen; omega) (by omega) (by simp) ?_; intro v' w3 hown' hgrow3 hnil3)
    simp only [Nat.zero_add, List.nil_append] at hown'
    obtain ⟨A', c', rfl, hc', hrow⟩ := own_vrow hown'
    have hb : Below w.heap.size w w3 := ((Below.refl _ _).alloc (Nat.le_refl _) _).grown hgrow3 (by simp) (fun j e => by cases e; exact Nat.le_refl _)
    clear hown' hgrow3 hnil3
    go_wp2
    go_ret
    exact ⟨A', c', rfl, hc', hrow, hb⟩
end Go.Proofs.Yteelhldioaaffaa
