/- A writer that begins. -/
import Derived.Test.YtmkgipbepipjkaaDoorB
namespace Go.Proofs.YtmkgipbepipjkaaDoor
open Go.ChangeShapes Go.WideShapes Go.ChangeAt Go.RowKit
set_option linter.unusedVariables false
set_option linter.unusedSimpArgs false

theorem info_parts {P : Program} {e : TypeId} {z : Value} {s b : Nat} (h : (P.info? e).map (fun i => (i.zero, i.size, i.bytes)) = some (some z, s, b)) : ∃ i, P.info? e = some i ∧ i.zero = some z ∧ i.size = s ∧ i.bytes = b := by
  cases hi : P.info? e with
  | none => rw [hi] at h; cases h
  | some i => rw [hi] at h; simp only [Option.map_some, Option.some.injEq, Prod.mk.injEq] at h; exact ⟨i, rfl, h.1, h.2.1, h.2.2⟩
theorem w49info : (Tryd.prog.info? 49).map (fun i => (i.zero, i.size, i.bytes)) = some (some (.agg #[.int .u8 0, .int .i64 0]), 2, 16) := by kernel_rfl
def wz : Wr := (1, 0)
def BegEnd (B p : Nat) (v : Value) (L : List Wr) (la : Int) (en : Nat) (w : World) (x : Ending) (w' : World) : Prop := ∃ v', x = .returned (.int .i64 ((L.length : Int) + 1)) ∧ WrAt w' B p v' (L ++ [wz]) la en ∧ Fr w w' p v
theorem blk_one {W : World} {g : Nat} (h : Blk W g #[.int .u8 1, .int .i64 0] 49) : ∀ j u, (wrv [wz])[j]? = some u → W.cell? ((⟨g, 0, none⟩ : Addr).add j) = some u := fun j u hu => by
  rw [add_plain, Nat.zero_add, h.cell]
  simpa [wrv, wz] using hu
theorem beg_fin {B p : Nat} {v v2 : Value} {L : List Wr} {la : Int} {en : Nat} {w w1 w2 : World} (h : WrAt w B p v L la en) (hb : Below w.heap.size w w1) (ho : WOwn w2 B v2 (L ++ [wz])) (hg : w1.grownBy w2 v.ownBlock) : WrAt (w2.setCell ⟨p, 0, none⟩ v2) B p v2 (L ++ [wz]) la en ∧ Fr w (w2.setCell ⟨p, 0, none⟩ v2) p v := by
  have h1 := h.later hb
  have hB2 : Blk w2 p #[v, .int .i64 en, .int .i64 la] 47 := h1.blk.grown hg (fun e => h1.own.ne h1.blk (by decide) p e.symm rfl)
  refine ⟨⟨h.hp, hB2.set v2, ho.fr (Fr.setp w2 p 0 v2 (.slice none 0 0)) (ho.ne hB2 (by decide)) (fun k hk e => by cases e), by have := h.le; simp; omega, fun j hj => ?_, h.la0, h.la1, fun x hx => ?_⟩, ((Fr.of_below hb).trans (Fr.grown hg)).trans (Fr.setp w2 p 0 v2 v)⟩
  · rw [List.getD_eq_getElem?_getD, List.getElem?_append_left (by have := h.le; omega), ← List.getD_eq_getElem?_getD]; exact h.nb j hj
  · rcases List.mem_append.1 hx with hx | hx
    · exact h.st x hx
    · rw [List.mem_singleton] at hx; subst hx; exact ⟨by decide, by decide⟩
set_option maxRecDepth 100000 in
set_option maxHeartbeats 4000000 in
theorem begin_any (B p : Nat) (v : Value) (L : List Wr) (la : Int) (en : Nat) (w : World) (h : WrAt w B p v L la en) (hn : L.length ≤ 1000000) (hB : B ≤ w.heap.size) : Calls Tryd.prog 9 #[.pointer (some ⟨p, 0, none⟩)] w (BegEnd B p v L la en w) := by
  obtain ⟨A, c, rfl, hc, k0, k1, k2, f0, f1, f2⟩ := h.cells
  obtain ⟨i0, hi, hz0, hz1, hz2⟩ := info_parts w49info
  have H := Lib.hid h
  have hb0 : Below w.heap.size w (w.alloc (.cells #[.int .u8 1, .int .i64 0] 49)) := (Below.refl _ _).alloc (Nat.le_refl _) _
  have H1 := Lib.hid (h.later hb0)
  have HB0 := Lib.hid hb0
  have HO := Lib.hid (Blk.new w #[.int .u8 1, .int .i64 0] 49)
  have hsz : B ≤ (w.alloc (.cells #[.int .u8 1, .int .i64 0] 49)).heap.size := by simp; omega
  clear h hb0
  go_enter Tryd.func9, Tryd.ntmps9
  go_wp2_with (at_builtin; refine wpList_append_own _ rfl (.tmp 9) (.tmp 11) 45 rfl B 49 i0 _ 2 16 Tryd.underlying45 hi hz0 hz1 hz2 rfl (by decide) _ L.length (wrv L) rfl H1.out.own ⟨w.heap.size, 0, none⟩ 1 1 (wrv [wz]) rfl rfl (blk_one HO.out) (wrv_one _) (by unfold maxLen; omega) (by omega) hsz ?_; intro v2 w2 ho2 hg2)
  intro hn2
  clear hn2
  have ho3 : WOwn w2 B v2 (L ++ [wz]) := by unfold WOwn; rw [wrv_app, List.length_append]; exact ho2
  obtain ⟨A2, c2, rfl, _⟩ := ho3.sl
  have hF := Lib.hid (beg_fin H.out HB0.out ho3 hg2)
  have hBp : Blk w2 p #[.slice A L.length c, .int .i64 en, .int .i64 la] 47 := H1.out.blk.grown hg2 (fun e => H1.out.own.ne H1.out.blk (by decide) p e.symm rfl)
  have q0 := hBp.cell 0
  have q1 := hBp.frozen 0
  have hl : (L ++ [wz]).length = L.length + 1 := by simp
  simp only [List.getElem?_toArray, List.getElem?_cons_zero] at q0
  rw [hl] at hF ⊢
  clear ho2 ho3 hg2 hBp hl k0 k1 k2 f0 f1 f2 H1
  go_wp2
  go_ret
  exact ⟨_, rfl, hF.out⟩
end Go.Proofs.YtmkgipbepipjkaaDoor
