/- Needs, join. -/
import Derived.Test.YtkgdmdcnhbaidaaDoorG
namespace Go.Proofs.YtkgdmdcnhbaidaaDoor
open Go.ChangeShapes Go.WideShapes Go.ChangeAt Go.RowKit
set_option linter.unusedVariables false
set_option linter.unusedSimpArgs false

def joinW (xs : List ByteArray) : ByteArray := ⟨(Lib.join (xs.map (·.data.toList)) [32]).toArray⟩
theorem fld0 (n0 n1 n2 n3 n4 n5 : Bool) (W : World) : (Instr.field 72 (.agg #[.bool n0, .bool n1, .bool n2, .bool n3, .bool n4, .bool n5]) 0).run Tryd.prog W = .ok (.bool n0) W := by
  unfold Instr.field asAgg
  go_simp
set_option maxRecDepth 100000 in
set_option maxHeartbeats 4000000 in
theorem needs_any (k : Nat) (w : World) (hk : k ≤ 255) (hg : Gl w) : Calls Tryd.prog 15 #[.int .u8 (k : Int)] w fun e w' => e = .returned (.bool (nmK k).1) ∧ Below w.heap.size w w' := by
  have HOF := Lib.hid (of_any k w hk hg)
  clear hg
  obtain ⟨n, hn⟩ : ∃ n, nmK k = n := ⟨_, rfl⟩
  rw [hn] at HOF ⊢
  obtain ⟨n0, n1, n2, n3, n4, n5⟩ := n
  unfold nmV at HOF
  simp only at HOF ⊢
  have hfl := fld0 n0 n1 n2 n3 n4 n5
  clear hn
  go_enter Tryd.func15, Tryd.ntmps15
  go_wp2_with fail
  refine HOF.out.mono ?_
  rintro e w1 ⟨rfl, hb⟩
  have HB := Lib.hid hb
  clear hb
  go_wp2
  go_ret
  exact ⟨rfl, HB.out⟩
set_option maxRecDepth 100000 in
set_option maxHeartbeats 4000000 in
theorem join_any (bk o c : Nat) (xs : List ByteArray) (w : World) (hcells : ∀ (j : Nat) x, xs[j]? = some x → w.cell? ⟨bk, o + j, none⟩ = some (.string x)) (hbk : bk < w.heap.size) (hN : xs.length ≤ 140737488355328) (hcap : xs.length ≤ c) (hlen : (joinW xs).size ≤ 140737488355328) :
    Calls Tryd.prog 40 #[.slice (some ⟨bk, o, none⟩) xs.length c] w fun e w' => e = .returned (.string (joinW xs)) ∧ Below w.heap.size w w' := by
  have hj : Calls Tryd.prog 56 #[.slice (some ⟨bk, o, none⟩) xs.length c, .string { data := #[32] }] w fun e w' => e = .returned (.string (joinW xs)) ∧ Below w.heap.size w w' := Tryd.strings_Join bk o c xs { data := #[32] } w hcells hbk hN hcap (by
    have : (joinW xs).size = (Lib.join (xs.map (·.data.toList)) [32]).length := by show (Lib.join _ _).toArray.size = _; simp
    rw [this] at hlen; exact hlen)
  have HJ := Lib.hid hj
  clear hj hcells hbk hlen
  obtain ⟨n, hn⟩ : ∃ n, xs.length = n := ⟨_, rfl⟩
  rw [hn] at HJ ⊢
  generalize joinW xs = J at HJ ⊢
  clear hn hN hcap
  go_enter Tryd.func40, Tryd.ntmps40
  go_wp2_with fail
  refine HJ.out.mono ?_
  rintro e w1 ⟨rfl, hb⟩
  have HB := Lib.hid hb
  clear hb HJ
  go_wp2
  go_ret
  exact ⟨rfl, HB.out⟩
end Go.Proofs.YtkgdmdcnhbaidaaDoor
