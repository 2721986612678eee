import Derived.Test.YthghaagmpneemaaA
import Derived.Lib.Strings
namespace Go.Proofs.Ythghaagmpneemaa
def intsOf (l : List UInt8) : List Int := l.map fun c => (c.toNat : Int)
theorem put_two (p s : Nat) (hp : p ≤ 65535) (hs : s ≤ 65535) : putAt (putAt [0, 0, 0, 0] 0 2 p) 2 2 s = intsOf (two p ++ two s) := by
  have e1 : putAt [0, 0, 0, 0] 0 2 (p : Int) = [(p : Int) / 256 % 256, (p : Int) % 256, 0, 0] := rfl
  have e2 : putAt [(p : Int) / 256 % 256, (p : Int) % 256, 0, 0] 2 2 (s : Int) = [(p : Int) / 256 % 256, (p : Int) % 256, (s : Int) / 256 % 256, (s : Int) % 256] := rfl
  rw [e1, e2]
  show _ = [((UInt8.ofNat (p / 256)).toNat : Int), ((UInt8.ofNat (p % 256)).toNat : Int), ((UInt8.ofNat (s / 256)).toNat : Int), ((UInt8.ofNat (s % 256)).toNat : Int)]
  rw [toNat_ofNat _ (by omega), toNat_ofNat _ (by omega), toNat_ofNat _ (by omega), toNat_ofNat _ (by omega)]
  simp only [List.cons.injEq, and_true]
  omega
open Go.ChangeShapes Go.WideShapes Go.ChangeAt Go.RowKit
theorem conv_back (g : Nat) (l : List UInt8) (n c : Nat) (w : World) (h : RdB w (some ⟨g, 0, none⟩) n (intsOf l)) (hn : 0 < n) (W : World) (hW : ∀ a, W.cell? a = w.cell? a) :
    (convert 23 9 (.slice (some ⟨g, 0, none⟩) n c)).run Try.prog W = .ok (.string ⟨l.toArray⟩) W := by
  have hl : l.length = n := by have := h.1; simpa [intsOf] using this
  obtain ⟨g', off, e, hc⟩ := h.2 hn
  cases e
  subst hl
  refine run_convert_bytes_back W 23 9 5 ⟨g, 0, none⟩ c l Try.underlying23 Try.underlying5 Try.underlying9 fun j hj => ?_
  have := hc j hj
  rw [show (⟨g, 0, none⟩ : Addr).add j = ⟨g, 0 + j, none⟩ from by unfold Addr.add; split <;> simp_all, hW, this]
  simp [intsOf, List.getD_eq_getElem?_getD, hj]
theorem extract_str (b : ByteArray) (p q : Nat) : b.extract p q = ⟨(((bl b).drop p).take (q - p)).toArray⟩ := by
  have h := Lib.extract_data b p q
  unfold bl
  rw [← h]
theorem row_zeros (w : World) (T : TypeId) : Row (w.alloc (.cells #[.int .u8 0, .int .u8 0, .int .u8 0, .int .u8 0] T)) w.heap.size 4 4 [0, 0, 0, 0] :=
  ⟨T, World.ownsRow_lit w #[.int .u8 0, .int .u8 0, .int .u8 0, .int .u8 0] 4 (Nat.zero_le _) (by unfold maxLen; omega) (by simp)⟩
end Go.Proofs.Ythghaagmpneemaa
