/- Copy. -/
import Derived.Test.YtbncpfkoeahhpaaS
import Derived.Test.YtbncpfkoeahhpaaJA
import Derived.Deep.WholeRow
namespace Go.Proofs.Ytbncpfkoeahhpaa
open Go.ChangeShapes Go.WideShapes Go.ChangeAt Go.RowKit Go.Maps Go.Shelf
set_option linter.unusedVariables false
set_option linter.unusedSimpArgs false

theorem clone_any (b n : Nat) (C : List Int) (w : World) (h : w.ownsMap Try.prog 87 unitElem b n (dm C)) : Calls Try.prog 73 #[.map (some b)] w fun e w' => e = .returned (.map (some w.heap.size)) ∧ w'.ownsMap Try.prog 87 unitElem w.heap.size n (dm C) ∧ Below w.heap.size w w' := by
  have hc := AnyW.maps_Clone_owns Try.mapsClone 87 unitElem b n (dm C) w h
  change Calls Try.prog 73 _ _ _ at hc
  exact hc.mono fun e w' ⟨h1, h2, _, h4⟩ => ⟨h1, h2, h4⟩
theorem info69 : (Try.prog.info? 128).map (·.size) = some 4100 := by kernel_rfl
def aggSize : Option Value → Option Nat
  | some (.agg c) => some c.size
  | _ => none
theorem zero69 : ∃ zc : Array Value, zc.size = 4100 ∧ ∀ w, (zeroValue 128).run Try.prog w = .ok (.agg zc) w := by
  have h : (Try.prog.info? 128).map (fun i => (aggSize i.zero, i.size)) = some (some 4100, 4100) := by kernel_rfl
  cases hi : Try.prog.info? 128 with
  | none => rw [hi] at h; cases h
  | some i =>
    rw [hi] at h
    simp only [Option.map_some, Option.some.injEq, Prod.mk.injEq] at h
    have h1 := h.1
    cases hz : i.zero with
    | none => rw [hz] at h1; cases h1
    | some v =>
      rw [hz] at h1
      cases v with
      | agg c =>
        have h2 : c.size = 4100 := by simpa [aggSize] using h1
        refine ⟨c, h2, (zero_of_info (n := 4100) (v := .agg c) ?_).1⟩
        rw [hi]; simp [hz, h.2]
      | _ => cases h1
theorem pgv_len {slot fresh last : Int} {b : Nat} {bs : List Int} (h : bs.length = 4096) : (pgv slot fresh last b bs).length = 4100 := by unfold pgv; simp [h]
theorem pgv_one {slot fresh last : Int} {b : Nat} {bs : List Int} : (pgv slot fresh last b bs).toArray.all (·.oneCell') = true := by
  refine all_oneCell_toArray (fun v hv => ?_)
  unfold pgv at hv
  simp only [List.mem_cons, List.mem_map] at hv
  rcases hv with rfl | rfl | rfl | rfl | ⟨x, _, rfl⟩ <;> rfl
def CopyEnd (s m : Nat) (C bs : List Int) (F : List Nat) (w : World) (x : Ending) (w' : World) : Prop := ∃ q b, x = .returned (.pointer (some ⟨q, 0, none⟩)) ∧ Pg w' w.heap.size q b s m C bs F ∧ Below w.heap.size w w'
set_option maxRecDepth 100000 in
set_option maxHeartbeats 4000000 in
theorem copy_any (B p b s m : Nat) (C bs : List Int) (F : List Nat) (w : World) (h : Pg w B p b s m C bs F) : Calls Try.prog 60 #[.pointer (some ⟨p, 0, none⟩)] w (CopyEnd s m C bs F w) := by
  have H := Lib.hid h
  obtain ⟨cs, hcs⟩ : ∃ cs, pgv (s : Int) ((m * s : Nat) : Int) (hdF F) b bs = cs := ⟨_, rfl⟩
  have hlen : cs.length = 4100 := by rw [← hcs]; exact pgv_len h.at_.len
  have hr : w.rangeAt p 0 cs := fun j v hv => by
    rw [Nat.zero_add, h.at_.blk.cell j, hcs, List.getElem?_toArray]; exact hv
  have HR := Lib.hid hr
  have HI : Hid ((Try.prog.info? 128).map (·.size) = some cs.length) := by rw [hlen]; exact info69
  have HONE : Hid (cs.toArray.all (·.oneCell') = true) := by rw [← hcs]; exact pgv_one
  obtain ⟨zc, hzs, hz⟩ := zero69
  have hst : (storeCells ⟨w.heap.size, 0, none⟩ cs 0).run Try.prog (w.alloc (.cells zc 128)) = .ok () (w.alloc (.cells cs.toArray 128)) := by
    have := run_storeCells_new w 128 zc cs.toArray (by rw [List.size_toArray]; exact HI.out) (by rw [hzs, List.size_toArray, hlen]) HONE.out
    simpa using this
  have hbx : Below w.heap.size w (w.alloc (.cells cs.toArray 128)) := (Below.refl _ _).alloc (Nat.le_refl _) _
  have c3 := (h.at_.later hbx).c3
  have HC := Lib.hid (clone_any b C.length C (w.alloc (.cells cs.toArray 128)) (h.at_.later hbx).own.2)
  have BX : Hid (Blk (w.alloc (.cells cs.toArray 128)) w.heap.size cs.toArray 128) := Blk.new _ _ _
  have HBX := Lib.hid hbx
  have HCS := Lib.hid hcs
  clear h hcs hr hbx hzs
  go_enter Try.func60, Try.ntmps60
  go_wp2_with (first
    | (refine wpList_load_mid rfl 128 (.tmp 7) rfl p 0 rfl cs _ HR.out Try.underlying128 rfl HI.out ?_)
    | fail)
  refine HC.out.mono ?_
  rintro e w1 ⟨rfl, ho, hb⟩
  have B1 := Lib.hid (BX.out.later hb)
  have hsz : w.heap.size + 1 ≤ w1.heap.size := by have := hb.size; simpa using this
  have HB1 := Lib.hid (stepB HBX.out hb)
  have q0 := B1.out.lt
  have q3 := B1.out.cell 3
  rw [← HCS.out] at q3
  have qf := B1.out.frozen 3
  have HF : Hid (Pg (w1.setCell ⟨w.heap.size, 3, none⟩ (.map (some (w.heap.size + 1)))) w.heap.size w.heap.size (w.heap.size + 1) s m C bs F) := by
    have ha := H.out.at_
    refine ⟨⟨Nat.le_refl _, ?_, ⟨Nat.le_succ _, ?_⟩, ha.ok, ha.len⟩, H.out.inv⟩
    · have hs := B1.out.set (j := 3) (.map (some (w.heap.size + 1)))
      rw [← HCS.out] at hs
      exact hs
    · have ho2 : w1.ownsMap Try.prog 87 unitElem (w.heap.size + 1) C.length (dm C) := by simpa using ho
      exact ho2.kept (grown_set w1 w.heap.size 3 _) (by simp)
  have HB2 := Lib.hid (Below.setCell (p := ⟨w.heap.size, 3, none⟩) HB1.out (Nat.le_refl _) (.map (some (w.heap.size + 1))))
  have hq3 : w1.cell? ⟨w.heap.size, 3, none⟩ = some (.map (some b)) := q3
  clear ho hb hst hz c3 q3 q0
  go_wp2
  go_ret
  exact ⟨_, _, rfl, HF.out, HB2.out⟩
end Go.Proofs.Ytbncpfkoeahhpaa
