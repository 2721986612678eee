/- Two objects of the same counts; what a step leaves alone; runs of steps. -/
import Derived.Test.YtlnfdcaljmfbjaaT
namespace Go.Proofs.Ytlnfdcaljmfbjaa
open Go.ChangeShapes Go.WideShapes Go.ChangeAt Go.RowKit Go.Maps
set_option linter.unusedVariables false
set_option linter.unusedSimpArgs false

theorem DdAt.other {W W' : World} {B B' p q b b2 : Nat} {C D : List Ct} (h : DdAt W B q b2 C) (o : DdAt W B' p b D) (hg : W.grownBy W' (some b)) (hb : b2 ≠ b) : DdAt W' B q b2 C :=
  ⟨h.hp, h.blk.grown hg (fun e => by
    have e2 : q = b := Option.some.inj e
    obtain ⟨es, clock, hm, _⟩ := o.own.2
    have h2 : W.heap[q]? = some (.cells #[.map (some b2)] 50 (0, 0)) := h.blk
    rw [e2, hm] at h2; cases h2), ⟨h.own.1, h.own.2.kept hg (fun e => hb (Option.some.inj e))⟩, h.ok⟩
/-- the first k steps -/
def runC (S : List Stp) (C : List Ct) : Nat → List Ct
  | 0 => C
  | k + 1 => doC (runC S C k) (S.getD k stp0).1 (S.getD k stp0).2
theorem runC_next {S : List Stp} {C D : List Ct} {k : Nat} {wh n : Int} (h : runC S C k = D) (hx : S.getD k stp0 = (wh, n)) : runC S C (k + 1) = doC D wh n := by
  show doC (runC S C k) (S.getD k stp0).1 (S.getD k stp0).2 = _
  rw [h, hx]
set_option maxRecDepth 100000 in
set_option maxHeartbeats 4000000 in
theorem same_any (B p b B2 q b2 : Nat) (C : List Ct) (w : World) (h : DdAt w B p b C) (h2 : DdAt w B2 q b2 C) : Calls Try.prog 27 #[.pointer (some ⟨p, 0, none⟩), .pointer (some ⟨q, 0, none⟩)] w fun x w' => x = .returned (.bool true) ∧ Below w.heap.size w w' := by
  have hlen := h.len
  have P0 := Lib.hid h
  have Q0 := Lib.hid h2
  clear h h2
  go_enter Try.func27, Try.ntmps27
  go_wp2_with fail
  refine (counts_any B p b C w P0.out).mono ?_
  rintro x w1 ⟨A, c, rfl, hsl, hb⟩
  have P1 := Lib.hid (P0.out.later hb)
  have Q1 := Lib.hid (Q0.out.later hb)
  have SA1 := Lib.hid hsl
  have HB1 := Lib.hid hb
  clear hsl hb P0 Q0
  go_wp2_with fail
  refine (counts_any B2 q b2 C w1 Q1.out).mono ?_
  rintro x w2 ⟨A2, c2, rfl, hsl, hb⟩
  have P2 := Lib.hid (P1.out.later hb)
  have Q2 := Lib.hid (Q1.out.later hb)
  have SA2 := Lib.hid (SA1.out.later hb)
  have SB2 := Lib.hid hsl
  have HB2 := Lib.hid (stepB HB1.out hb)
  clear hsl hb P1 Q1 SA1 HB1
  go_wp2_with fail
  refine (all_any B p b C w2 P2.out).mono ?_
  rintro x w3 ⟨rfl, hb⟩
  have Q3 := Lib.hid (Q2.out.later hb)
  have SA3 := Lib.hid (SA2.out.later hb)
  have SB3 := Lib.hid (SB2.out.later hb)
  have HB3 := Lib.hid (stepB HB2.out hb)
  clear hb P2 Q2 SA2 SB2 HB2
  go_wp2_with fail
  refine (all_any B2 q b2 C w3 Q3.out).mono ?_
  rintro x w4 ⟨rfl, hb⟩
  have SA := Lib.hid (SA3.out.later hb)
  have SB := Lib.hid (SB3.out.later hb)
  have HB := Lib.hid (stepB HB3.out hb)
  clear hb Q3 SA3 SB3 HB3
  go_wp2
  go_loopw [7] (fun i wr => ∃ k : Nat, k ≤ C.length ∧ i = .int .i64 k ∧ ∃ d, wr = w4.drewN d) (fun i _ => C.length - (intOf i).toNat)
  case atStart => exact ⟨0, Nat.zero_le _, rfl, 0, rfl⟩
  case round =>
    obtain ⟨k, hk, rfl, d, rfl⟩ := hrel
    by_cases hlt : k < C.length
    · obtain ⟨g, rfl, _, _, hc1⟩ := SA.out (by omega)
      obtain ⟨g2, rfl, _, _, hc2⟩ := SB.out (by omega)
      obtain ⟨x0, x1, _, _⟩ := hc1 k hlt
      obtain ⟨y0, y1, _, _⟩ := hc2 k hlt
      have i1 := cindex g C.length c k (k : Int) rfl hlt
      have i2 := cindex g2 C.length c2 k (k : Int) rfl hlt
      have d2 : decide ((k : Int) < (C.length : Int)) = true := decide_eq_true (by omega)
      have wk : IntKind.i64.wrap ((k : Int) + 1) = (k : Int) + 1 := IntWalk.i64_in _ (by omega)
      generalize C.getD k c0 = z at *
      obtain ⟨z0, z1⟩ := z
      simp only at x0 x1 y0 y1
      clear hc1 hc2
      go_wp2
      go_quiet (fail)
      clear x0 x1 y0 y1 i1 i2
      go_wp2
      go_roundw
      case rel => exact ⟨k + 1, by omega, by go_num, d + nq, by first | rfl | simp⟩
      case measure => simp [intOf]; omega
    · obtain rfl : k = C.length := by omega
      have d2 : decide ((C.length : Int) < (C.length : Int)) = false := decide_eq_false (by omega)
      go_wp2
      go_ret
      exact ⟨rfl, below_drewN HB.out d⟩
end Go.Proofs.Ytlnfdcaljmfbjaa
