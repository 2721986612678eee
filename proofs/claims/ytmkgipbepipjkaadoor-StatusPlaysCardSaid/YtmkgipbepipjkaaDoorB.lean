/- What is told of an object that reads only. -/
import Derived.Test.YtmkgipbepipjkaaDoorA
namespace Go.Proofs.YtmkgipbepipjkaaDoor
open Go.ChangeShapes Go.WideShapes Go.ChangeAt Go.RowKit
set_option linter.unusedVariables false
set_option linter.unusedSimpArgs false

section
variable {W : World} {B p : Nat} {v : Value} {L : List Wr} {la : Int} {en : Nat}
theorem WrAt.cells (h : WrAt W B p v L la en) : ∃ A c, v = .slice A L.length c ∧ L.length ≤ c ∧ W.cell? ⟨p, 0, none⟩ = some (.slice A L.length c) ∧ W.cell? ⟨p, 1, none⟩ = some (.int .i64 en) ∧ W.cell? ⟨p, 2, none⟩ = some (.int .i64 la) ∧ W.frozen? ⟨p, 0, none⟩ = false ∧ W.frozen? ⟨p, 1, none⟩ = false ∧ W.frozen? ⟨p, 2, none⟩ = false := by
  obtain ⟨A, c, rfl, hc, _⟩ := h.own.sl
  exact ⟨A, c, rfl, hc, h.blk.cell 0, h.blk.cell 1, h.blk.cell 2, h.blk.frozen 0, h.blk.frozen 1, h.blk.frozen 2⟩
end
theorem windex (g m c k : Nat) (i : Int) (hi : i = (k : Int)) (h : k < m) (W : World) : (Instr.indexAt 45 (.slice (some ⟨g, 0, none⟩) m c) (.int .i64 i)).run Tryd.prog W = .ok (.pointer (some ⟨g, k * 2, none⟩)) W := by
  subst hi
  have h1 : (0 : Int) ≤ (k : Int) ∧ (k : Int) < (m : Int) := by omega
  go_simp
set_option maxRecDepth 100000 in
set_option maxHeartbeats 4000000 in
theorem high_any (B p : Nat) (v : Value) (L : List Wr) (la : Int) (en : Nat) (w : World) (h : WrAt w B p v L la en) (hn : L.length ≤ 1000000) : Calls Tryd.prog 16 #[.pointer (some ⟨p, 0, none⟩)] w fun x w' => x = .returned (.int .i64 ((L.length : Int) + 1)) ∧ w' = w := by
  obtain ⟨A, c, rfl, hc, k0, k1, k2, _⟩ := h.cells
  have w1 : IntKind.i64.wrap ((L.length : Int) + 1) = (L.length : Int) + 1 := IntWalk.i64_in _ (by omega)
  clear h
  go_enter Tryd.func16, Tryd.ntmps16
  go_wp2
  go_ret
  exact ⟨rfl, rfl⟩
set_option maxRecDepth 100000 in
set_option maxHeartbeats 4000000 in
theorem last_any (B p : Nat) (v : Value) (L : List Wr) (la : Int) (en : Nat) (w : World) (h : WrAt w B p v L la en) : Calls Tryd.prog 17 #[.pointer (some ⟨p, 0, none⟩)] w fun x w' => x = .returned (.int .i64 la) ∧ w' = w := by
  obtain ⟨A, c, rfl, hc, k0, k1, k2, _⟩ := h.cells
  clear h
  go_enter Tryd.func17, Tryd.ntmps17
  go_wp2
  go_ret
  exact ⟨rfl, rfl⟩
/-- what is told of a writer -/
def ofL (L : List Wr) (w : Int) : Wr := if 1 ≤ w ∧ w ≤ L.length then L.getD (w - 1).toNat w0r else w0r
theorem of_in {L : List Wr} {k : Nat} (h : k < L.length) : ofL L ((k : Int) + 1) = L.getD k w0r := by
  unfold ofL
  rw [if_pos (by omega), show ((k : Int) + 1 - 1).toNat = k by omega]
theorem of_out {L : List Wr} {w : Int} (h : w < 1 ∨ (L.length : Int) < w) : ofL L w = w0r := by unfold ofL; rw [if_neg (by omega)]
def OfEnd (x : Wr) (w : World) (e : Ending) (w' : World) : Prop := e = .returned (.tuple #[.int .u8 x.1, .int .i64 x.2]) ∧ Below w.heap.size w w'
theorem of_end {x : Wr} {w w' : World} {a b : Int} (h : x = (a, b)) (hb : Below w.heap.size w w') : OfEnd x w (.returned (.tuple #[.int .u8 a, .int .i64 b])) w' := by subst h; exact ⟨rfl, hb⟩
set_option maxRecDepth 100000 in
set_option maxHeartbeats 4000000 in
theorem of_any (B p : Nat) (v : Value) (L : List Wr) (la : Int) (en : Nat) (i : Int) (w : World) (h : WrAt w B p v L la en) (hn : L.length ≤ 1000000) : Calls Tryd.prog 29 #[.pointer (some ⟨p, 0, none⟩), .int .i64 i] w (OfEnd (ofL L i) w) := by
  obtain ⟨A, c, rfl, hc, k0, k1, k2, _⟩ := h.cells
  obtain ⟨A', c', e, _, hat⟩ := h.own.sl
  cases e
  by_cases c1 : i < 1
  · have HR := Lib.hid (of_out (L := L) (w := i) (.inl c1))
    have d1 : decide (i < 1) = true := decide_eq_true c1
    clear h hat
    go_enter Tryd.func29, Tryd.ntmps29
    go_wp2
    go_ret2
    exact of_end HR.out (Below.refl _ _)
  · have d1 : decide (i < 1) = false := decide_eq_false c1
    by_cases c2 : (L.length : Int) < i
    · have HR := Lib.hid (of_out (L := L) (w := i) (.inr c2))
      have d2 : decide ((L.length : Int) < i) = true := decide_eq_true c2
      clear h hat
      go_enter Tryd.func29, Tryd.ntmps29
      go_wp2
      go_ret2
      exact of_end HR.out (Below.refl _ _)
    · have d2 : decide ((L.length : Int) < i) = false := decide_eq_false c2
      obtain ⟨k, rfl⟩ : ∃ k : Nat, i = (k : Int) + 1 := ⟨(i - 1).toNat, by omega⟩
      have hk : k < L.length := by omega
      obtain ⟨g, rfl, _, _, _, x0, x1, _⟩ := hat k hk
      have HR := Lib.hid (of_in hk)
      have i1 := windex g L.length c k (k : Int) rfl hk
      have w1 : IntKind.i64.wrap ((k : Int) + 1 - 1) = (k : Int) := (IntWalk.i64_in _ (by omega)).trans (by omega)
      have w2 : (k : Int) + 1 - 1 = (k : Int) := by omega
      have w3 : wrap64 (k : Int) = (k : Int) := by unfold wrap64; omega
      have w4 : IntKind.i64.wrap (k : Int) = (k : Int) := IntWalk.i64_in _ (by omega)
      generalize L.getD k w0r = x at *
      obtain ⟨xs, xt⟩ := x
      simp only at x0 x1
      clear h hat c1 c2 hk
      go_enter Tryd.func29, Tryd.ntmps29
      go_wp2
      go_big_region
      go_wp2
      go_ret2
      exact of_end HR.out (by first | exact (Below.refl _ _).drew | exact below_drewN (Below.refl _ _) _ | exact Below.refl _ _)
set_option maxRecDepth 100000 in
set_option maxHeartbeats 4000000 in
theorem isbusy_any (s t : Int) (w : World) : Calls Tryd.prog 33 #[.agg #[.int .u8 s, .int .i64 t]] w fun x w' => x = .returned (.bool (busyB (s, t))) ∧ Below w.heap.size w w' := by
  have hb0 : Below w.heap.size w (w.alloc (.cells #[.int .u8 s, .int .i64 t] 49)) := (Below.refl _ _).alloc (Nat.le_refl _) _
  have HB := Lib.hid hb0
  clear hb0
  by_cases c1 : s = 1
  · have HR : Hid (busyB (s, t) = true) := by show _ = _; unfold busyB; rw [decide_eq_true c1]; rfl
    subst c1
    go_enter Tryd.func33, Tryd.ntmps33
    go_wp2
    go_ret
    exact ⟨ret_bool HR.out.symm, HB.out⟩
  · have d1 : (s == 1) = false := by rw [beq_eq_false_iff_ne]; exact c1
    have HR : Hid (busyB (s, t) = (s == 2)) := by show _ = _; unfold busyB; rw [decide_eq_false c1]; rw [Bool.eq_iff_iff]; simp
    go_enter Tryd.func33, Tryd.ntmps33
    go_wp2
    go_ret
    exact ⟨ret_bool HR.out.symm, HB.out⟩
end Go.Proofs.YtmkgipbepipjkaaDoor
