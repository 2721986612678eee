/- What is told may be written over: events of the call's own, of which only the headers are known. -/
import Derived.Test.YtgbcncfgpdlmiaaG
namespace Go.Proofs.Ytgbcncfgpdlmiaa
open Go.ChangeShapes Go.WideShapes Go.ChangeAt Go.RowKit Go.Maps
set_option linter.unusedVariables false
set_option linter.unusedSimpArgs false

/-- pairs that may be written over -/
def Wp (W : World) (B : Nat) (h : Hd) : Prop := 0 < h.2.1 → ∃ g off, h.1 = some ⟨g, off, none⟩ ∧ B ≤ g ∧ ∃ cur, Blk W g cur 53 ∧ off + h.2.1 * 2 ≤ cur.size
structure Wtn (W : World) (B : Nat) (A : Option Addr) (n : Nat) (Hs : List Hd) : Prop where
  len : Hs.length = n
  row : 0 < n → ∃ g, A = some ⟨g, 0, none⟩ ∧ B ≤ g ∧ ∃ cur, Blk W g cur 40 ∧ n * 7 ≤ cur.size ∧ ∀ (i : Nat) (h : Hd), Hs[i]? = some h → cur[i * 7 + 6]? = some (hdv h)
  prs : ∀ h ∈ Hs, Wp W B h
section
variable {W W' : World} {B B' n : Nat} {A : Option Addr} {Hs : List Hd} {h : Hd}
theorem Wp.later (k : Wp W B h) (hb : Below W.heap.size W W') : Wp W' B h := fun hn => by
  obtain ⟨g, off, h1, h2, cur, h3, h4⟩ := k hn
  exact ⟨g, off, h1, h2, cur, h3.later hb, h4⟩
theorem Wtn.later (k : Wtn W B A n Hs) (hb : Below W.heap.size W W') : Wtn W' B A n Hs := ⟨k.len, fun hn => by
  obtain ⟨g, h1, h2, cur, h3, h4⟩ := k.row hn
  exact ⟨g, h1, h2, cur, h3.later hb, h4⟩, fun h hh => (k.prs h hh).later hb⟩
theorem blk_inj {g : Nat} {c d : Array Value} {t u : TypeId} (h : Blk W g c t) (k : Blk W g d u) : c = d ∧ t = u := by
  have h1 : W.heap[g]? = some (.cells c t (0, 0)) := h
  have h2 : W.heap[g]? = some (.cells d u (0, 0)) := k
  rw [h1] at h2
  simp only [Option.some.injEq, Obj.cells.injEq] at h2
  exact ⟨h2.1, h2.2.1⟩
/-- a store into a block with a tag of its own changes no other kind; of the same kind the sizes stay -/
theorem Wp.set {g o : Nat} {u : Value} {c : Array Value} {t : TypeId} (k : Wp W B h) (hg : Blk W g c t) : Wp (W.setCell ⟨g, o, none⟩ u) B h := fun hn => by
  obtain ⟨g2, off, h1, h2, cur, h3, h4⟩ := k hn
  by_cases e : g2 = g
  · subst e
    exact ⟨g2, off, h1, h2, _, h3.set (j := o) u, by rw [Array.size_setIfInBounds]; exact h4⟩
  · exact ⟨g2, off, h1, h2, cur, h3.other e u, h4⟩
theorem Wtn.set53 {g o : Nat} {u : Value} {c : Array Value} (k : Wtn W B A n Hs) (hg : Blk W g c 53) : Wtn (W.setCell ⟨g, o, none⟩ u) B A n Hs := ⟨k.len, fun hn => by
  obtain ⟨g2, h1, h2, cur, h3, h4⟩ := k.row hn
  refine ⟨g2, h1, h2, cur, h3.other ?_ u, h4⟩
  rintro rfl
  exact absurd (blk_inj h3 hg).2 (by decide), fun h hh => (k.prs h hh).set hg⟩
theorem Wtn.set40 {g i : Nat} {u : Value} {c : Array Value} (k : Wtn W B A n Hs) (hg : Blk W g c 40) : Wtn (W.setCell ⟨g, i * 7 + 1, none⟩ u) B A n Hs := ⟨k.len, fun hn => by
  obtain ⟨g2, h1, h2, cur, h3, h4, h5⟩ := k.row hn
  by_cases e : g2 = g
  · subst e
    refine ⟨g2, h1, h2, _, h3.set (j := i * 7 + 1) u, by rw [Array.size_setIfInBounds]; exact h4, fun j h hj => ?_⟩
    rw [Array.getElem?_setIfInBounds_ne (by omega)]
    exact h5 j h hj
  · exact ⟨g2, h1, h2, cur, h3.other e u, h4, h5⟩, fun h hh => (k.prs h hh).set hg⟩
theorem Wtn.base (k : Wtn W B A n Hs) (hb : B' ≤ B) : Wtn W B' A n Hs := ⟨k.len, fun hn => by
  obtain ⟨g, h1, h2, cur, h3, h4⟩ := k.row hn
  exact ⟨g, h1, Nat.le_trans hb h2, cur, h3, h4⟩, fun h hh hn => by
  obtain ⟨g, off, h1, h2, h3⟩ := k.prs h hh hn
  exact ⟨g, off, h1, Nat.le_trans hb h2, h3⟩⟩
theorem EvO.wtn {c : Nat} {Rs : List RE} (k : EvO W B (.slice A n c) n Rs) : Wtn W B A n (Rs.map Prod.snd) := by
  refine ⟨by rw [List.length_map]; exact k.row.1, fun hn => ?_, fun h hh hn => ?_⟩
  · have hO := k.row.2
    rcases k.row.2.2 with ⟨e, h2⟩ | ⟨g, cap, cur, e, hB, hg, hle, hm, hs, ht⟩
    · omega
    · cases e
      have hcell : ∀ j, j < n * 7 → cur[j]? = (rv evc Rs)[j]? := fun j hj => by
        have h1 := hO.cellAt j hj
        have h2 : Blk W g cur 40 := hg
        rw [h2.cell] at h1
        exact h1
      refine ⟨g, rfl, hB, cur, hg, ?_, fun i h hi => ?_⟩
      · have h1 := rv_len evc_len Rs
        rw [k.row.1] at h1
        have h2 := hcell (n * 7 - 1) (by omega)
        rw [List.getElem?_eq_getElem (by omega)] at h2
        have h3 := (Array.getElem?_eq_some_iff.1 h2).1
        omega
      · rw [List.getElem?_map] at hi
        cases hr : Rs[i]? with
        | none => rw [hr] at hi; cases hi
        | some r =>
          rw [hr] at hi
          have hri := Option.some.inj hi
          have hlt : i < n := by rw [← k.row.1]; exact (List.getElem?_eq_some_iff.1 hr).1
          rw [hcell _ (by omega), rv_at evc_len Rs i 6 r hr (by decide), ← hri]
          rfl
  · obtain ⟨r, hr, rfl⟩ := List.mem_map.1 hh
    have hp := k.po r hr
    obtain ⟨g, off, hA, hlt, hc⟩ := hp.po.rd.2 hn
    obtain ⟨h1, cur, hcu⟩ := hp.own g (by rw [hA]; rfl)
    have hk : Blk W g cur 53 := hcu
    refine ⟨g, off, hA, h1, cur, hk, ?_⟩
    have hl := hp.po.rd.1
    have hx := List.getElem?_eq_getElem (l := r.1.2.2.2.2.2.2) (i := r.2.2.1 - 1) (by omega)
    have h2 := hc _ _ hx 1 (by decide)
    rw [hk.cell] at h2
    have h3 : off + (r.2.2.1 - 1) * 2 + 1 < cur.size := by
      rcases Nat.lt_or_ge (off + (r.2.2.1 - 1) * 2 + 1) cur.size with h | h
      · exact h
      · rw [Array.getElem?_eq_none h] at h2
        simp [prc] at h2
    omega
/-- the row's cells: a task's; a header -/
theorem Wtn.at_ (k : Wtn W B A n Hs) {i : Nat} (hi : i < n) : ∃ g cur h, A = some ⟨g, 0, none⟩ ∧ B ≤ g ∧ Blk W g cur 40 ∧ Hs[i]? = some h ∧ (∃ u, W.cell? ⟨g, i * 7 + 1, none⟩ = some u) ∧ W.cell? ⟨g, i * 7 + 3 + 3, none⟩ = some (hdv h) ∧ Wp W B h := by
  obtain ⟨g, h1, h2, cur, h3, h4, h5⟩ := k.row (by omega)
  have hx : Hs[i]? = some (Hs[i]'(by rw [k.len]; exact hi)) := List.getElem?_eq_getElem _
  refine ⟨g, cur, _, h1, h2, h3, hx, ⟨cur[i * 7 + 1]'(by omega), ?_⟩, ?_, k.prs _ (List.mem_of_getElem? hx)⟩
  · rw [h3.cell]; exact Array.getElem?_eq_getElem _
  · rw [h3.cell]; exact h5 i _ hx
theorem Wp.at_ (k : Wp W B h) {j : Nat} (hj : j < h.2.1) : ∃ g off cur, h.1 = some ⟨g, off, none⟩ ∧ B ≤ g ∧ Blk W g cur 53 ∧ (∃ u, W.cell? ⟨g, off + j * 2, none⟩ = some u) ∧ (∃ u, W.cell? ⟨g, off + j * 2 + 1, none⟩ = some u) := by
  obtain ⟨g, off, h1, h2, cur, h3, h4⟩ := k (by omega)
  refine ⟨g, off, cur, h1, h2, h3, ⟨cur[off + j * 2]'(by omega), ?_⟩, ⟨cur[off + j * 2 + 1]'(by omega), ?_⟩⟩
  · rw [h3.cell]; exact Array.getElem?_eq_getElem _
  · rw [h3.cell]; exact Array.getElem?_eq_getElem _
end
end Go.Proofs.Ytgbcncfgpdlmiaa
