/- An engine in memory: one of its calls. -/
import Derived.Test.YtbncpfkoeahhpaaCD
namespace Go.Proofs.Ytbncpfkoeahhpaa
open Go.ChangeShapes Go.WideShapes Go.ChangeAt Go.RowKit Go.Maps
set_option linter.unusedVariables false
set_option linter.unusedSimpArgs false

set_option maxRecDepth 100000 in
set_option maxHeartbeats 4000000 in
theorem chfree_any (B q : Nat) (cf : Conf) (a m : Nat) (st : AS) (S : Nat → Prop) (w : World) (h : CR w B q cf a m st S) (x : Int) (hx : hR x) : Calls Try.prog 14 #[.pointer (some ⟨q, 0, none⟩), .int .u64 x] w (CEnd B q cf a m (frA x st) S (.int .i64 (frAE x st)) w) := by
  have H := Lib.hid h
  have c8 := h.c8
  have hm := h.m256
  clear h
  go_enter Try.func14, Try.ntmps14
  go_wp2_with fail
  refine (arfree_any B a (27 + m) st S w H.out.ar x hx.1 hx.2 (by omega)).mono ?_
  rintro e w1 ⟨rfl, S', h1, h2, h3⟩
  have HE : Hid (∃ S', CR w1 B q cf a m (frA x st) S' ∧ (∀ k, S' k → S k ∨ w.heap.size ≤ k) ∧ FrS w w1 S) := ⟨S', H.out.step h1 h3, h2, h3⟩
  clear h1 h2 h3 c8
  go_wp2
  go_ret
  exact ⟨rfl, HE.out⟩
end Go.Proofs.Ytbncpfkoeahhpaa
