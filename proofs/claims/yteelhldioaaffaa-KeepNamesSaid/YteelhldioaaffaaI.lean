/- The document's Seen; the laws' own lists. -/
import Derived.Test.YteelhldioaaffaaH
namespace Go.Proofs.Yteelhldioaaffaa
open Go.ChangeShapes Go.WideShapes Go.ChangeAt Go.RowKit
set_option linter.unusedVariables false
set_option linter.unusedSimpArgs false
def SeenEnd (vs : List Ver) (s : Int) (w : World) (e : Ending) (w' : World) : Prop :=
  e = .returned (.tuple #[(seen vs s).agg, .bool (seenB vs s)]) ∧ Below w.heap.size w w'
set_option maxRecDepth 100000 in
set_option maxHeartbeats 2000000 in
theorem rSeen_any (A : Option Addr) (n c : Nat) (s : Int) (vs : List Ver) (w : World) (hn : n ≤ 1000000) (hs : Vers w.heap.size w A n vs) :
    Calls Try.prog 19 #[.slice A n c, .int .i64 s] w (SeenEnd vs s w) := by
  have Hs := Lib.hid hs
  have hul := upto_le vs s
  rw [hs.1] at hul
  have hs2 : Vers w.heap.size (w.alloc (.cells (vcells ver0) 27)) A n vs := hs.below ((Below.refl _ w).alloc (Nat.le_refl _) _)
  have U1 := Lib.hid (upto_any A n c vs s (w.alloc (.cells (vcells ver0) 27)) (hs2.mono (by simp)) hn)
  have HB : Hid (seenB vs s = (decide (upto vs s < n) && !(vs.getD (upto vs s) ver0).tomb)) := by show _ = _; unfold seenB; rw [hs.1]
  have HV : Hid (seen vs s = if seenB vs s = true then vs.getD (upto vs s) ver0 else ver0) := rfl
  clear hs
  have b1 := Blk.new w (vcells ver0) 27
  have hb1 : Below w.heap.size w (w.alloc (.cells (vcells ver0) 27)) := (Below.refl _ w).alloc (Nat.le_refl _) _
  obtain ⟨K, hK⟩ : ∃ K, upto vs s = K := ⟨_, rfl⟩
  rw [hK] at HB HV U1 hul
  clear hK
  go_enter Try.func19, Try.ntmps19
  go_wp2_with fail
  refine (U1.out).mono ?_
  rintro e _ ⟨rfl, rfl⟩
  clear U1
  generalize w.alloc (.cells (vcells ver0) 27) = W1 at *
  have Hs2 := Lib.hid hs2
  clear hs2
  have y0 := b1.cell 0
  have y1 := b1.cell 1
  have y2 := b1.cell 2
  have y3 := b1.cell 3
  simp only [vcells, ver0, List.getElem?_toArray, List.getElem?_cons_zero, List.getElem?_cons_succ] at y0 y1 y2 y3
  have f0 := b1.frozen 0
  have f1 := b1.frozen 1
  have f2 := b1.frozen 2
  have f3 := b1.frozen 3
  have B1 := Lib.hid b1
  have Hb1 := Lib.hid hb1
  clear b1 hb1
  by_cases hlt : K < n
  · obtain ⟨g, off, rfl, hg, hc⟩ := Hs2.out.2 (by omega)
    have hck := hc K hlt
    have hne : ¬ (K : Int) = (n : Int) := by omega
    obtain ⟨d, hd⟩ : ∃ d, vs.getD K ver0 = d := ⟨_, rfl⟩
    rw [hd] at hck HB HV
    clear hd hc
    have c0 := hck.c0
    have c1 := hck.c1
    have c2 := hck.c2
    have c3 := hck.c3
    have c2x : W1.cell? ⟨g, off + K * 4 + 2, none⟩ = some (.bool d.tomb) := c2
    clear hck
    have hx := index_run g off n c K (K : Int) rfl hlt
    cases ht : d.tomb with
    | true =>
      rw [ht] at c2 c2x HB
      clear ht
      go_wp2
      show bodyPost _ _ _ _ _ (Yteelhldioaaffaa.setV W1 w.heap.size ver0)
      have z := B1.out.setV ver0
      have hB2 := belowV Hb1.out (B := w.heap.size) (Nat.le_refl _) ver0
      generalize Yteelhldioaaffaa.setV W1 w.heap.size ver0 = W2 at *
      have z0 := z.cell 0
      have z1 := z.cell 1
      have z2 := z.cell 2
      have z3 := z.cell 3
      simp only [vcells, ver0, List.getElem?_toArray, List.getElem?_cons_zero, List.getElem?_cons_succ] at z0 z1 z2 z3
      refine ⟨rfl, .tuple #[(seen vs s).agg, .bool (seenB vs s)], ?_, rfl, hB2⟩
      have eb : seenB vs s = false := by rw [HB.out, Bool.and_eq_false_iff]; exact .inr rfl
      have ev : seen vs s = ver0 := by rw [HV.out, eb]; rfl
      rw [eb, ev]; simp [results, Try.f19, go_sem, z0, z1, z2, z3, Ver.agg, ver0]
    | false =>
      rw [ht] at c2 c2x HB
      go_wp2
      show bodyPost _ _ _ _ _ (Yteelhldioaaffaa.setV W1 w.heap.size ⟨d.w, d.ts, false, d.val⟩)
      have hdd : (⟨d.w, d.ts, false, d.val⟩ : Ver) = d := by rw [← ht]
      rw [hdd]
      have z := B1.out.setV d
      have hB2 := belowV Hb1.out (B := w.heap.size) (Nat.le_refl _) d
      generalize Yteelhldioaaffaa.setV W1 w.heap.size d = W2 at *
      have z0 := z.cell 0
      have z1 := z.cell 1
      have z2 := z.cell 2
      have z3 := z.cell 3
      simp only [vcells, ver0, List.getElem?_toArray, List.getElem?_cons_zero, List.getElem?_cons_succ] at z0 z1 z2 z3
      refine ⟨rfl, .tuple #[(seen vs s).agg, .bool (seenB vs s)], ?_, rfl, hB2⟩
      have eb : seenB vs s = true := by rw [HB.out]; simp [hlt]
      have ev : seen vs s = d := by rw [HV.out, eb]; rfl
      rw [eb, ev]; simp [results, Try.f19, go_sem, z0, z1, z2, z3, Ver.agg, ver0]
  · obtain rfl : K = n := by omega
    go_wp2
    show bodyPost _ _ _ _ _ (Yteelhldioaaffaa.setV W1 w.heap.size ver0)
    have z := B1.out.setV ver0
    have hB2 := belowV Hb1.out (B := w.heap.size) (Nat.le_refl _) ver0
    generalize Yteelhldioaaffaa.setV W1 w.heap.size ver0 = W2 at *
    have z0 := z.cell 0
    have z1 := z.cell 1
    have z2 := z.cell 2
    have z3 := z.cell 3
    simp only [vcells, ver0, List.getElem?_toArray, List.getElem?_cons_zero, List.getElem?_cons_succ] at z0 z1 z2 z3
    refine ⟨rfl, .tuple #[(seen vs s).agg, .bool (seenB vs s)], ?_, rfl, hB2⟩
    have eb : seenB vs s = false := by rw [HB.out]; simp
    have ev : seen vs s = ver0 := by rw [HV.out, eb]; rfl
    rw [eb, ev]; simp [results, Try.f19, go_sem, z0, z1, z2, z3, Ver.agg, ver0]
end Go.Proofs.Yteelhldioaaffaa
