/- The reader. -/
import Derived.Test.YtkgdmdcnhbaidaaDoorE
namespace Go.Proofs.YtkgdmdcnhbaidaaDoor
open Go.ChangeShapes Go.WideShapes Go.ChangeAt Go.RowKit
set_option linter.unusedVariables false
set_option linter.unusedSimpArgs false

/-- a reader in memory: its words lie in block g from o on -/
structure RdAt (W : World) (p : Nat) (r : Rd_) (g o c : Nat) : Prop where
  blk : Blk W p #[.slice (some ⟨g, o, none⟩) r.1.length c, .bool r.2] 68
  ne : g ≠ p
  lo : g < p
  lt : g < W.heap.size
  le : r.1.length ≤ c
  at_ : ∀ (j : Nat) (x : ByteArray), r.1[j]? = some x → W.cell? ⟨g, o + j, none⟩ = some (.string x)
def RdO (W : World) (p : Nat) (r : Rd_) : Prop := ∃ g o c, RdAt W p r g o c
theorem RdAt.later {W W' : World} {p g o c : Nat} {r : Rd_} (h : RdAt W p r g o c) (hb : Below W.heap.size W W') : RdAt W' p r g o c := ⟨h.blk.later hb, h.ne, h.lo, Nat.lt_of_lt_of_le h.lt hb.size, h.le, fun j x e => (hb.cell (p := ⟨g, o + j, none⟩) h.lt).trans (h.at_ j x e)⟩
theorem RdO.later {W W' : World} {p : Nat} {r : Rd_} (h : RdO W p r) (hb : Below W.heap.size W W') : RdO W' p r := by
  obtain ⟨g, o, c, h⟩ := h
  exact ⟨g, o, c, h.later hb⟩
theorem RdO.other {W : World} {p q j : Nat} {r : Rd_} {v : Value} (h : RdO W p r) (hq : p < q) : RdO (W.setCell ⟨q, j, none⟩ v) p r := by
  obtain ⟨g, o, c, h⟩ := h
  have hl := h.lo
  refine ⟨g, o, c, h.blk.other (by omega) v, h.ne, h.lo, by simp [World.setCell]; exact h.lt, h.le, fun i x e => ?_⟩
  have h1 := h.at_ i x e
  have h2 := Below.heap_setCell W ⟨q, j, none⟩ v g (show g ≠ q by omega)
  unfold World.cell? at h1 ⊢
  rw [h2]
  exact h1
theorem RdO.lt {W : World} {p : Nat} {r : Rd_} (h : RdO W p r) : p < W.heap.size := by
  obtain ⟨g, o, c, h⟩ := h
  exact h.blk.lt
/-- one cell of the reader's block is set -/
theorem RdAt.set {W : World} {p g o c j : Nat} {r : Rd_} {v : Value} (h : RdAt W p r g o c) {r2 : Rd_} {o2 c2 : Nat} (hb : (#[.slice (some ⟨g, o, none⟩) r.1.length c, .bool r.2] : Array Value).setIfInBounds j v = #[.slice (some ⟨g, o2, none⟩) r2.1.length c2, .bool r2.2]) (hl : r2.1.length ≤ c2) (hc : ∀ (i : Nat) (x : ByteArray), r2.1[i]? = some x → W.cell? ⟨g, o2 + i, none⟩ = some (.string x)) : RdAt (W.setCell ⟨p, j, none⟩ v) p r2 g o2 c2 := by
  refine ⟨by rw [← hb]; exact h.blk.set v, h.ne, h.lo, by simp [World.setCell]; exact h.lt, hl, fun i x e => ?_⟩
  have h1 := hc i x e
  have h2 := Below.heap_setCell W ⟨p, j, none⟩ v g h.ne
  unfold World.cell? at h1 ⊢
  rw [h2]
  exact h1
theorem slice25 (g o n c : Nat) (h1 : 1 ≤ n) (hc : n ≤ c) : ∃ o2, (∀ W, (Instr.slice 25 (.slice (some ⟨g, o, none⟩) n c) (some (.int .i64 1)) .none .none).run Tryd.prog W = .ok (.slice (some ⟨g, o2, none⟩) (n - 1) (c - 1)) W) ∧ (1 < n → o2 = o + 1) := by
  have ht' : Tryd.prog.underlying 25 = some (.slice (Tryd.prog.elem 25)) := by simp [Program.elem, Tryd.underlying25]
  have he : Tryd.prog.elem 25 = 9 := by simp [Program.elem, Tryd.underlying25]
  refine ⟨if c = 1 then o else o + 1, fun W => ?_, fun h => by rw [if_neg (by omega)]⟩
  have hr := run_slice_l (P := Tryd.prog) W 25 (some ⟨g, o, none⟩) n c ht' .i64 1 (by omega) (by omega)
  rw [hr, he, Tryd.sizeOf9]
  by_cases e : c = 1
  · simp [Result.andThen, sliced, e]
  · simp [Result.andThen, sliced, e, Addr.add]
theorem grown_below {W W' : World} {r : Option Nat} (h : Below W.heap.size W W') : W.grownBy W' r := ⟨h.os, h.tape, h.output, h.size, fun k hk _ => h.block k hk⟩
theorem Gl.grown {W W' : World} {p : Nat} (h : Gl W) (hg : W.grownBy W' (some p)) (hp : 8 ≤ p) : Gl W' := h.at8 ((Below.refl 8 W).grown hg h.lo (fun k e => by cases e; exact hp))
set_option maxRecDepth 100000 in
set_option maxHeartbeats 4000000 in
theorem next_any (r : Rd_) (p : Nat) (w : World) (h : RdO w p r) : Calls Tryd.prog 32 #[.pointer (some ⟨p, 0, none⟩)] w fun e w' => e = .returned (.string (nextR r).1) ∧ RdO w' p (nextR r).2 ∧ w.grownBy w' (some p) := by
  obtain ⟨g, o, c, hr⟩ := h
  obtain ⟨ws, wrong⟩ := r
  have HR := Lib.hid hr
  clear hr
  cases ws with
  | nil =>
    have c0 := HR.out.blk.cell 0
    have c1 := HR.out.blk.cell 1
    have f0 := HR.out.blk.frozen 0
    have f1 := HR.out.blk.frozen 1
    simp only [List.getElem?_toArray, List.getElem?_cons_zero, List.getElem?_cons_succ] at c0 c1
    go_enter Tryd.func32, Tryd.ntmps32
    go_wp2
    go_ret
    refine ⟨rfl, ⟨g, o, c, HR.out.set (r2 := ([], true)) rfl (Nat.zero_le _) (fun i x e => by cases e)⟩, grown_set _ _ _ _⟩
  | cons a l =>
    have c0 := HR.out.blk.cell 0
    have c1 := HR.out.blk.cell 1
    have f0 := HR.out.blk.frozen 0
    have f1 := HR.out.blk.frozen 1
    simp only [List.getElem?_toArray, List.getElem?_cons_zero, List.getElem?_cons_succ] at c0 c1
    have a0 := HR.out.at_ 0 a rfl
    obtain ⟨o2, hsl, ho2⟩ := slice25 g o (l.length + 1) c (by omega) HR.out.le
    have HO2 := Lib.hid ho2
    have HLE : Hid (l.length + 1 ≤ c) := HR.out.le
    have i1 : ∀ W : World, (Instr.indexAt 25 (.slice (some ⟨g, o, none⟩) (l.length + 1) c) (.int .i64 0)).run Tryd.prog W = .ok (.pointer (some ⟨g, o, none⟩)) W := fun W => by
      have h1 : (0 : Int) < ((l.length + 1 : Nat) : Int) := by omega
      go_simp
    have q0 : (((l.length + 1 : Nat) : Int) == 0) = false := by rw [beq_eq_false_iff_ne]; omega
    simp only [Nat.add_zero] at a0
    clear ho2
    show Calls _ _ _ _ fun e w' => e = .returned (.string a) ∧ RdO w' p (l, wrong) ∧ _
    go_enter Tryd.func32, Tryd.ntmps32
    go_wp2
    go_ret
    refine ⟨rfl, ⟨g, o2, c - 1, HR.out.set (r2 := (l, wrong)) ?_ (by have := HLE.out; show l.length ≤ _; omega) (fun i x e => ?_)⟩, grown_set _ _ _ _⟩
    · simp
    · have hi : i < l.length := (List.getElem?_eq_some_iff.1 e).1
      have h := HR.out.at_ (i + 1) x e
      rw [HO2.out (by omega), show o + 1 + i = o + (i + 1) by omega]
      exact h
theorem next_sz {r : Rd_} (h : ∀ x ∈ r.1, x.size ≤ 100000) : (nextR r).1.size ≤ 100000 ∧ ∀ x ∈ (nextR r).2.1, x.size ≤ 100000 := by
  obtain ⟨ws, b⟩ := r
  cases ws with
  | nil => exact ⟨by show (0 : Nat) ≤ _; omega, fun x hx => by cases hx⟩
  | cons a l => exact ⟨h a (List.mem_cons_self ..), fun x hx => h x (List.mem_cons_of_mem _ hx)⟩
set_option maxRecDepth 100000 in
set_option maxHeartbeats 4000000 in
theorem num_any (is : Bool) (r : Rd_) (p : Nat) (w : World) (h : RdO w p r) (hg : Gl w) (hp : 8 ≤ p) (hz : ∀ x ∈ r.1, x.size ≤ 100000) : Calls Tryd.prog 34 #[.pointer (some ⟨p, 0, none⟩), .bool is] w fun e w' => e = .returned (.int .i64 (numR is r).1) ∧ RdO w' p (numR is r).2 ∧ w.grownBy w' (some p) := by
  cases is with
  | false =>
    have HO := Lib.hid h
    clear h hg hz
    go_enter Tryd.func34, Tryd.ntmps34
    go_wp2
    go_ret
    exact ⟨rfl, HO.out, grown_below (Below.refl _ _)⟩
  | true =>
    have HN := Lib.hid (next_any r p w h)
    have HG := Lib.hid hg
    have HZ := Lib.hid (next_sz hz)
    show Calls _ _ _ _ fun e w' => e = .returned (.int .i64 ((numP (nextR r).1).getD 0)) ∧ RdO w' p ((nextR r).2.1, (nextR r).2.2 || !(numP (nextR r).1).isSome) ∧ _
    clear h hg hz
    obtain ⟨x, hx⟩ : ∃ x, nextR r = x := ⟨_, rfl⟩
    rw [hx] at HN HZ ⊢
    clear hx
    obtain ⟨wd, ws, b⟩ := x
    simp only at HN HZ ⊢
    go_enter Tryd.func34, Tryd.ntmps34
    go_wp2_with fail
    refine HN.out.mono ?_
    rintro e w1 ⟨rfl, hr1, hg1⟩
    have HG1 := Lib.hid (HG.out.grown hg1 hp)
    have HR1 := Lib.hid hr1
    have HW1 := Lib.hid hg1
    clear hr1 hg1 HN HG
    go_wp2_with fail
    refine (number_any wd w1 HG1.out (Nat.le_trans HZ.out.1 (by decide))).mono ?_
    rintro e w2 ⟨rfl, hb⟩
    obtain ⟨g, o, c, hr2⟩ := HR1.out.later hb
    have HR := Lib.hid hr2
    have HW2 : Hid (w.grownBy w2 (some p)) := grown_trans HW1.out (grown_below hb)
    clear hb hr2 HR1 HW1 HG1
    obtain ⟨v, hv⟩ : ∃ v, (numP wd).getD 0 = v := ⟨_, rfl⟩
    obtain ⟨rt, hrt⟩ : ∃ v, (numP wd).isSome = v := ⟨_, rfl⟩
    have HV := Lib.hid hv
    have HRT := Lib.hid hrt
    rw [hv, hrt]
    clear hv hrt
    have c0 := HR.out.blk.cell 0
    have c1 := HR.out.blk.cell 1
    have f0 := HR.out.blk.frozen 0
    have f1 := HR.out.blk.frozen 1
    simp only [List.getElem?_toArray, List.getElem?_cons_zero, List.getElem?_cons_succ] at c0 c1
    have HSET : Hid (∀ b2 : Bool, RdO (w2.setCell ⟨p, 1, none⟩ (.bool b2)) p (ws, b2)) := Lib.hid (fun b2 => ⟨g, o, c, HR.out.set (r2 := (ws, b2)) rfl HR.out.le HR.out.at_⟩)
    have HGR : Hid (∀ v : Value, w.grownBy (w2.setCell ⟨p, 1, none⟩ v) (some p)) := Lib.hid (fun v => grown_trans HW2.out (grown_set _ _ _ _))
    cases b <;> cases rt
    all_goals (
      go_wp2
      go_ret
      refine ⟨by rw [HV.out]; rfl, ?_, HGR.out _⟩
      rw [HRT.out]
      exact HSET.out _)
set_option maxRecDepth 100000 in
set_option maxHeartbeats 4000000 in
theorem txt_any (is : Bool) (r : Rd_) (p : Nat) (w : World) (h : RdO w p r) (hg : Gl w) (hp : 8 ≤ p) (hz : ∀ x ∈ r.1, x.size ≤ 100000) : Calls Tryd.prog 35 #[.pointer (some ⟨p, 0, none⟩), .bool is] w fun e w' => e = .returned (.string (txtR is r).1) ∧ RdO w' p (txtR is r).2 ∧ w.grownBy w' (some p) := by
  cases is with
  | false =>
    have HO := Lib.hid h
    clear h hg hz
    go_enter Tryd.func35, Tryd.ntmps35
    go_wp2
    go_ret
    exact ⟨rfl, HO.out, grown_below (Below.refl _ _)⟩
  | true =>
    have HN := Lib.hid (next_any r p w h)
    have HG := Lib.hid hg
    have HZ := Lib.hid (next_sz hz)
    show Calls _ _ _ _ fun e w' => e = .returned (.string ((unhexP (nextR r).1).getD emp)) ∧ RdO w' p ((nextR r).2.1, (nextR r).2.2 || !(unhexP (nextR r).1).isSome) ∧ _
    clear h hg hz
    obtain ⟨x, hx⟩ : ∃ x, nextR r = x := ⟨_, rfl⟩
    rw [hx] at HN HZ ⊢
    clear hx
    obtain ⟨wd, ws, b⟩ := x
    simp only at HN HZ ⊢
    go_enter Tryd.func35, Tryd.ntmps35
    go_wp2_with fail
    refine HN.out.mono ?_
    rintro e w1 ⟨rfl, hr1, hg1⟩
    have HG1 := Lib.hid (HG.out.grown hg1 hp)
    have HR1 := Lib.hid hr1
    have HW1 := Lib.hid hg1
    clear hr1 hg1 HN HG
    go_wp2_with fail
    refine (unhex_any wd w1 HZ.out.1).mono ?_
    rintro e w2 ⟨rfl, hb⟩
    obtain ⟨g, o, c, hr2⟩ := HR1.out.later hb
    have HR := Lib.hid hr2
    have HW2 : Hid (w.grownBy w2 (some p)) := grown_trans HW1.out (grown_below hb)
    clear hb hr2 HR1 HW1 HG1
    obtain ⟨v, hv⟩ : ∃ v, (unhexP wd).getD emp = v := ⟨_, rfl⟩
    obtain ⟨rt, hrt⟩ : ∃ v, (unhexP wd).isSome = v := ⟨_, rfl⟩
    have HV := Lib.hid hv
    have HRT := Lib.hid hrt
    rw [hv, hrt]
    clear hv hrt
    have c0 := HR.out.blk.cell 0
    have c1 := HR.out.blk.cell 1
    have f0 := HR.out.blk.frozen 0
    have f1 := HR.out.blk.frozen 1
    simp only [List.getElem?_toArray, List.getElem?_cons_zero, List.getElem?_cons_succ] at c0 c1
    have HSET : Hid (∀ b2 : Bool, RdO (w2.setCell ⟨p, 1, none⟩ (.bool b2)) p (ws, b2)) := Lib.hid (fun b2 => ⟨g, o, c, HR.out.set (r2 := (ws, b2)) rfl HR.out.le HR.out.at_⟩)
    have HGR : Hid (∀ v : Value, w.grownBy (w2.setCell ⟨p, 1, none⟩ v) (some p)) := Lib.hid (fun v => grown_trans HW2.out (grown_set _ _ _ _))
    cases b <;> cases rt
    all_goals (
      go_wp2
      go_ret
      refine ⟨by rw [HV.out]; rfl, ?_, HGR.out _⟩
      rw [HRT.out]
      exact HSET.out _)
set_option maxRecDepth 100000 in
set_option maxHeartbeats 4000000 in
theorem over_any (r : Rd_) (p : Nat) (w : World) (h : RdO w p r) : Calls Tryd.prog 36 #[.pointer (some ⟨p, 0, none⟩)] w fun e w' => e = .returned (.bool (overR r)) ∧ w' = w := by
  obtain ⟨g, o, c, hr⟩ := h
  obtain ⟨ws, b⟩ := r
  have HR := Lib.hid hr
  clear hr
  have c0 := HR.out.blk.cell 0
  have c1 := HR.out.blk.cell 1
  have f0 := HR.out.blk.frozen 0
  have f1 := HR.out.blk.frozen 1
  simp only [List.getElem?_toArray, List.getElem?_cons_zero, List.getElem?_cons_succ] at c0 c1
  have e : overR (ws, b) = (!b && decide (ws.length = 0)) := rfl
  rw [e]
  obtain ⟨n, hn⟩ : ∃ n, ws.length = n := ⟨_, rfl⟩
  rw [hn] at c0 ⊢
  obtain ⟨q, hq⟩ : ∃ q, decide (n = 0) = q := ⟨_, rfl⟩
  have q0 : ((n : Int) == 0) = q := by rw [← hq, Bool.eq_iff_iff, beq_iff_eq, decide_eq_true_eq]; omega
  have q1 : (n == 0) = q := by rw [← hq, Bool.eq_iff_iff, beq_iff_eq, decide_eq_true_eq]
  rw [hq]
  clear hn hq e
  cases b <;> cases q
  all_goals (
    go_enter Tryd.func36, Tryd.ntmps36
    go_wp2
    go_ret
    exact ⟨rfl, rfl⟩)
end Go.Proofs.YtkgdmdcnhbaidaaDoor
