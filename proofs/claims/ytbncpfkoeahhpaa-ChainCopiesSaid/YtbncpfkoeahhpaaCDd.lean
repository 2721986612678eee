/- An engine in memory: one of its calls. -/
import Derived.Test.YtbncpfkoeahhpaaCD
namespace Go.Proofs.Ytbncpfkoeahhpaa
open Go.ChangeShapes Go.WideShapes Go.ChangeAt Go.RowKit Go.Maps
set_option linter.unusedVariables false
set_option linter.unusedSimpArgs false

set_option maxRecDepth 100000 in
set_option maxHeartbeats 4000000 in
theorem chused_any (B q : Nat) (cf : Conf) (a m : Nat) (st : AS) (S : Nat → Prop) (w : World) (h : CR w B q cf a m st S) : Calls Try.prog 16 #[.pointer (some ⟨q, 0, none⟩)] w fun e w' => e = .returned (.int .i64 (usA st : Nat)) ∧ w = w' := by
  have H := Lib.hid h
  have c8 := h.c8
  clear h
  go_enter Try.func16, Try.ntmps16
  go_wp2_with fail
  refine (arused_any B a (27 + m) st S w H.out.ar).mono ?_
  rintro e w1 ⟨rfl, rfl⟩
  go_wp2
  go_ret
  exact ⟨rfl, rfl⟩
theorem dec_slot {m : Nat} {n : Nd} (h : VN m n) (hm : m ≤ 256) : 27 ≤ (padT (27 + m) (encT n)).size ∧ (padT (27 + m) (encT n)).size ≤ 5000 ∧ 27 + dL (padT (27 + m) (encT n)) ≤ (padT (27 + m) (encT n)).size ∧ dW (padT (27 + m) (encT n)) = n.1.1 ∧ dS (padT (27 + m) (encT n)) = n.1.2.1 ∧ dT (padT (27 + m) (encT n)) = n.1.2.2.1 ∧ decV (padT (27 + m) (encT n)) = n.1.2.2.2 ∧ dN (padT (27 + m) (encT n)) = n.2 := by
  have hs : (encT n).size ≤ 27 + m := by rw [encT_size]; have := h.2.2.1; omega
  have hz := padT_size hs
  obtain ⟨h1, h2, h3, h4, h5⟩ := dec_front (R := strOfNums (List.replicate (27 + m - (encT n).size) 0)) h hm
  have hv := dec_val n (strOfNums (List.replicate (27 + m - (encT n).size) 0))
  have e : padT (27 + m) (encT n) = encT n ++ strOfNums (List.replicate (27 + m - (encT n).size) 0) := rfl
  have hsz := encT_size n
  refine ⟨by omega, by omega, ?_, by rw [e]; exact h1, by rw [e]; exact h2, by rw [e]; exact h5, ?_, by rw [e]; exact h3⟩
  · rw [hz, e, h4]
    omega
  · rw [e]
    unfold decV
    rw [h4]
    exact hv
end Go.Proofs.Ytbncpfkoeahhpaa
