/- The lists of the closed statement. -/
import Derived.Test.YteelhldioaaffaaL
import Derived.Test.YteelhldioaaffaaM
namespace Go.Proofs.Yteelhldioaaffaa
open Go.ChangeShapes Go.WideShapes Go.ChangeAt Go.RowKit
set_option linter.unusedVariables false
set_option linter.unusedSimpArgs false
def mkT (t : Int) : Ver := ⟨0, t, false, ⟨#[]⟩⟩
def bads : List (List Ver) := [[mkT 0], [mkT (-1)], [mkT 2, mkT 2], [mkT 2, mkT 3], [mkT 3, mkT 2, mkT 0]]
theorem bads_not : ∀ l ∈ bads, legalB l = false := by
  intro l hl
  simp only [bads, List.mem_cons, List.mem_nil_iff, or_false] at hl
  rcases hl with rfl | rfl | rfl | rfl | rfl <;> rfl
/-- the memory of the five lists, and of the list of them -/
def litW (w : World) : World := (((((w.alloc (.cells (vsv [mkT 0]).toArray 27)).alloc (.cells (vsv [mkT (-1)]).toArray 27)).alloc (.cells (vsv [mkT 2, mkT 2]).toArray 27)).alloc (.cells (vsv [mkT 2, mkT 3]).toArray 27)).alloc (.cells (vsv [mkT 3, mkT 2, mkT 0]).toArray 27)).alloc
  (.cells #[.slice (some ⟨w.heap.size, 0, none⟩) 1 1, .slice (some ⟨w.heap.size + 1, 0, none⟩) 1 1, .slice (some ⟨w.heap.size + 1 + 1, 0, none⟩) 2 2, .slice (some ⟨w.heap.size + 1 + 1 + 1, 0, none⟩) 2 2, .slice (some ⟨w.heap.size + 1 + 1 + 1 + 1, 0, none⟩) 3 3] 24)
theorem litW_size (w : World) : (litW w).heap.size = w.heap.size + 6 := by simp [litW]
theorem litW_below (w : World) : Below w.heap.size w (litW w) := by
  unfold litW
  refine ((((((Below.refl _ w).alloc (Nat.le_refl _) _).alloc ?_ _).alloc ?_ _).alloc ?_ _).alloc ?_ _).alloc ?_ _ <;> simp <;> omega
/-- a list laid as a block reads as its versions -/
theorem blk_vers {W : World} {g n : Nat} {vs : List Ver} (h : Blk W g (vsv vs).toArray 27) (hl : vs.length = n) : Vers W.heap.size W (some ⟨g, 0, none⟩) n vs :=
  ⟨hl, fun _ => ⟨g, 0, rfl, h.lt, fun j hj => by
    have e := vsv_at vs j (by omega)
    have hc : ∀ i, W.cell? ⟨g, i, none⟩ = (vsv vs)[i]? := fun i => by rw [h.cell]; simp
    rw [Nat.zero_add]
    exact ⟨(hc _).trans e.1, (hc _).trans e.2.1, (hc _).trans e.2.2.1, (hc _).trans e.2.2.2⟩⟩⟩
theorem litW_1 (w : World) : Blk (litW w) w.heap.size (vsv [mkT 0]).toArray 27 := (((((Blk.new w _ 27).alloc _).alloc _).alloc _).alloc _).alloc _
theorem litW_2 (w : World) : Blk (litW w) (w.heap.size + 1) (vsv [mkT (-1)]).toArray 27 := by
  have h := Blk.new (w.alloc (.cells (vsv [mkT 0]).toArray 27)) (vsv [mkT (-1)]).toArray 27
  simp only [World.size_alloc] at h
  exact (((h.alloc _).alloc _).alloc _).alloc _
theorem litW_3 (w : World) : Blk (litW w) (w.heap.size + 1 + 1) (vsv [mkT 2, mkT 2]).toArray 27 := by
  have h := Blk.new ((w.alloc (.cells (vsv [mkT 0]).toArray 27)).alloc (.cells (vsv [mkT (-1)]).toArray 27)) (vsv [mkT 2, mkT 2]).toArray 27
  simp only [World.size_alloc] at h
  exact ((h.alloc _).alloc _).alloc _
theorem litW_4 (w : World) : Blk (litW w) (w.heap.size + 1 + 1 + 1) (vsv [mkT 2, mkT 3]).toArray 27 := by
  have h := Blk.new (((w.alloc (.cells (vsv [mkT 0]).toArray 27)).alloc (.cells (vsv [mkT (-1)]).toArray 27)).alloc (.cells (vsv [mkT 2, mkT 2]).toArray 27)) (vsv [mkT 2, mkT 3]).toArray 27
  simp only [World.size_alloc] at h
  exact (h.alloc _).alloc _
theorem litW_5 (w : World) : Blk (litW w) (w.heap.size + 1 + 1 + 1 + 1) (vsv [mkT 3, mkT 2, mkT 0]).toArray 27 := by
  have h := Blk.new ((((w.alloc (.cells (vsv [mkT 0]).toArray 27)).alloc (.cells (vsv [mkT (-1)]).toArray 27)).alloc (.cells (vsv [mkT 2, mkT 2]).toArray 27)).alloc (.cells (vsv [mkT 2, mkT 3]).toArray 27)) (vsv [mkT 3, mkT 2, mkT 0]).toArray 27
  simp only [World.size_alloc] at h
  exact h.alloc _
theorem litW_6 (w : World) : Blk (litW w) (w.heap.size + 1 + 1 + 1 + 1 + 1) #[.slice (some ⟨w.heap.size, 0, none⟩) 1 1, .slice (some ⟨w.heap.size + 1, 0, none⟩) 1 1, .slice (some ⟨w.heap.size + 1 + 1, 0, none⟩) 2 2, .slice (some ⟨w.heap.size + 1 + 1 + 1, 0, none⟩) 2 2, .slice (some ⟨w.heap.size + 1 + 1 + 1 + 1, 0, none⟩) 3 3] 24 := by
  have h := Blk.new (((((w.alloc (.cells (vsv [mkT 0]).toArray 27)).alloc (.cells (vsv [mkT (-1)]).toArray 27)).alloc (.cells (vsv [mkT 2, mkT 2]).toArray 27)).alloc (.cells (vsv [mkT 2, mkT 3]).toArray 27)).alloc (.cells (vsv [mkT 3, mkT 2, mkT 0]).toArray 27))
    #[.slice (some ⟨w.heap.size, 0, none⟩) 1 1, .slice (some ⟨w.heap.size + 1, 0, none⟩) 1 1, .slice (some ⟨w.heap.size + 1 + 1, 0, none⟩) 2 2, .slice (some ⟨w.heap.size + 1 + 1 + 1, 0, none⟩) 2 2, .slice (some ⟨w.heap.size + 1 + 1 + 1 + 1, 0, none⟩) 3 3] 24
  simp only [World.size_alloc] at h
  exact h
/-- the five lists, as the loop meets them: which it is, and that it may not be -/
theorem lit_at (w W : World) (h : Below (litW w).heap.size (litW w) W) (k : Nat) (hk : k < 5) :
    ∃ g n vs, W.cell? ⟨w.heap.size + 1 + 1 + 1 + 1 + 1, k, none⟩ = some (.slice (some ⟨g, 0, none⟩) n n) ∧ n ≤ 1000000 ∧ Vers W.heap.size W (some ⟨g, 0, none⟩) n vs ∧ legalB vs = false := by
  have hc := ((litW_6 w).below h (litW_6 w).lt).cell
  have hv : ∀ {g n : Nat} {vs : List Ver}, Blk (litW w) g (vsv vs).toArray 27 → vs.length = n → Vers W.heap.size W (some ⟨g, 0, none⟩) n vs := fun hb hl => ((blk_vers hb hl).below h).mono h.size
  rcases k with _ | _ | _ | _ | _ | k
  · exact ⟨_, _, [mkT 0], hc 0, by omega, hv (litW_1 w) rfl, rfl⟩
  · exact ⟨_, _, [mkT (-1)], hc 1, by omega, hv (litW_2 w) rfl, rfl⟩
  · exact ⟨_, _, [mkT 2, mkT 2], hc 2, by omega, hv (litW_3 w) rfl, rfl⟩
  · exact ⟨_, _, [mkT 2, mkT 3], hc 3, by omega, hv (litW_4 w) rfl, rfl⟩
  · exact ⟨_, _, [mkT 3, mkT 2, mkT 0], hc 4, by omega, hv (litW_5 w) rfl, rfl⟩
  · omega
def odd : List Ver := [⟨0, 3, false, ⟨#[120]⟩⟩, ⟨0, 7, false, ⟨#[121]⟩⟩]
end Go.Proofs.Yteelhldioaaffaa
