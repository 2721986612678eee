/- The functions of package bits and the document's own answers on bytes: what each returns, and what becomes of the bytes. -/
import Derived.Test.YtbncpfkoeahhpaaCA
import Derived.Test.YtbncpfkoeahhpaaGB
import Derived.Test.YtbncpfkoeahhpaaChecked
import Derived.WalkKit
import Derived.ProofKit
import Derived.LoopTactic
import Derived.Below
import Derived.BigQuiet
import Derived.Deep.QuietTactic
import Derived.Laws.OwnMore
import Derived.OwnWalk
import Derived.Lib.Hide
import Derived.Outline
namespace Go.Proofs.Ytbncpfkoeahhpaa
open Go.ChangeShapes Go.WideShapes Go.ChangeAt Go.RowKit

/-- bytes as the memory's cells -/
def u8s (bs : List Int) : List Value := bs.map (Value.int .u8)
theorem u8s_len (bs : List Int) : (u8s bs).length = bs.length := by simp [u8s]
theorem u8s_get (bs : List Int) (i : Nat) (h : i < bs.length) : (u8s bs)[i]? = some (.int .u8 (bs.getD i 0)) := by
  simp [u8s, h]
theorem u8s_set (bs : List Int) (i : Nat) (x : Int) : (u8s bs).set i (.int .u8 x) = u8s (bs.set i x) := by simp [u8s]



theorem ones8 : bits BinOp.xor IntKind.u64 IntKind.u64.max 0 = ones (8 - 0) := by decide
theorem ones4 : bits BinOp.xor IntKind.u32 IntKind.u32.max 0 = ones (4 - 0) := by decide

set_option maxHeartbeats 400000 in
theorem width64 (w : World) : Calls Try.prog 75 #[] w fun e w' => e = .returned (.int .i64 8) ∧ w = w' := by
  go_enter Try.func75, Try.ntmps75
  go_wp2
  go_loop [1, 2] (fun b r => ∃ k : Nat, k ≤ 8 ∧ b = .int .i64 k ∧ r = .int .u64 (ones (8 - k))) (fun b _ => 8 - (intOf b).toNat)
  case atStart => exact ⟨0, by omega, rfl, by rw [ones8]⟩
  case round =>
    obtain ⟨k, hk, rfl, rfl⟩ := hrel
    by_cases hlt : k < 8
    · have hp : 0 < ones (8 - k) := ones_pos _ (by omega)
      have hd : Hid (ones (8 - k) / 256 = ones (8 - (k + 1))) := by
        have := ones_div (8 - (k + 1)); rw [← this]; show _ = _; congr 2; omega
      go_wp2
      go_round
      case rel => exact ⟨k + 1, by omega, by go_num, by rw [hd.out]⟩
      case measure => simp [intOf]; omega
    · obtain rfl : k = 8 := by omega
      have hp : ones (8 - 8) ≤ 0 := by decide
      go_wp2
      go_ret
      exact ⟨rfl, rfl⟩





set_option maxHeartbeats 400000 in
theorem put64_no (A : Option Addr) (n c : Nat) (at_ m : Int) (w : World) (hn : n ≤ 140737488355328) (hi : inB n at_ 8 = false) :
    Calls Try.prog 68 #[.slice A n c, .int .i64 at_, .int .u64 m] w fun e w' => e = .returned (.bool false) ∧ w = w' := by
  go_enter Try.func68, Try.ntmps68
  go_wp2_with (first
    | (go_at_call 75; refine (width64 _).mono ?_; rintro e w' ⟨rfl, rfl⟩)
    | (go_at_call 76; refine (within_any _ _ _ _ _ _ hn (by omega) (by omega)).mono ?_; rintro e w' ⟨rfl, rfl⟩))
  go_ret
  exact ⟨rfl, rfl⟩

set_option maxHeartbeats 400000 in
theorem put64_yes (g n c : Nat) (a : Nat) (m : Int) (w : World) (B : Nat) (bs : List Int) (hown : w.ownsRow B 5 1 (.slice (some ⟨g, 0, none⟩) n c) n (u8s bs))
   (hn : n ≤ 140737488355328) (hi : inB n a 8 = true) (hm : 0 ≤ m) :
    Calls Try.prog 68 #[.slice (some ⟨g, 0, none⟩) n c, .int .i64 a, .int .u64 m] w fun e w' => e = .returned (.bool true) ∧
      w'.ownsRow B 5 1 (.slice (some ⟨g, 0, none⟩) n c) n (u8s (putI bs a 8 m)) ∧ w.grownBy w' (some g) := by
  have ha : a + 8 ≤ n := by have := inB_yes hi; omega
  have hlen : Hid (bs.length = n) := by have := hown.1; rw [u8s_len] at this; show _ = _; omega
  go_enter Try.func68, Try.ntmps68
  go_wp2_with (first
    | (go_at_call 75; refine (width64 _).mono ?_; rintro e w' ⟨rfl, rfl⟩)
    | (go_at_call 76; refine (within_any _ _ _ _ _ _ hn (by omega) (by omega)).mono ?_; rintro e w' ⟨rfl, rfl⟩))
  go_loopw [2, 8] (fun r i wr => ∃ k : Nat, ∃ m' : Int, ∃ bs' : List Int, 0 ≤ m' ∧ k ≤ 8 ∧ i = .int .i64 ((k : Int) - 1) ∧ r = .int .u64 m' ∧ wr.ownsRow B 5 1 (.slice (some ⟨g, 0, none⟩) n c) n (u8s bs') ∧ bs'.length = n ∧ putI bs' a k m' = putI bs a 8 m ∧ w.grownBy wr (some g)) (fun _ i _ => (intOf i + 1).toNat)
  case atStart => exact ⟨8, m, bs, hm, by omega, rfl, rfl, hown, hlen.out, rfl, World.grownBy.refl _ _⟩
  case round =>
    obtain ⟨k, m', bs', hm', hk, rfl, rfl, hown', hlen', hput, hg⟩ := hrel
    have Hlen' := Lib.hid hlen'
    have Hput := Lib.hid hput
    have Hg := Lib.hid hg
    clear hlen' hput hg
    by_cases hlt : 1 ≤ k
    · have hc : wr.cell? ⟨g, a + (k - 1), none⟩ = some (.int .u8 (bs'.getD (a + (k - 1)) 0)) := by
        rw [hown'.cellAt _ (by omega)]; exact u8s_get _ _ (by have := Hlen'.out; omega)
      have hf : wr.frozen? ⟨g, a + (k - 1), none⟩ = false := hown'.frozenAt _
      have hst := hown'.stored (a + (k - 1)) (.int .u8 (m' % 256))
      rw [u8s_set] at hst
      have Hst := Lib.hid hst
      clear hst
      go_wp2
      go_roundw
      case rel =>
        refine ⟨k - 1, m' / 256, bs'.set (a + (k - 1)) (m' % 256), by omega, by omega, ?_, rfl, Hst.out.1, by rw [List.length_set]; exact Hlen'.out, ?_, grown_trans Hg.out Hst.out.2⟩
        · congr 1; omega
        · rw [← Hput.out]; obtain ⟨j, rfl⟩ : ∃ j, k = j + 1 := ⟨k - 1, by omega⟩; rfl
      case measure => simp [intOf]; omega
    · obtain rfl : k = 0 := by omega
      go_wp2
      go_ret
      exact ⟨rfl, by rw [← Hput.out]; exact hown', Hg.out⟩

set_option maxHeartbeats 400000 in
theorem put16_no (A : Option Addr) (n c : Nat) (at_ m : Int) (w : World) (hn : n ≤ 140737488355328) (hi : inB n at_ 2 = false) :
    Calls Try.prog 69 #[.slice A n c, .int .i64 at_, .int .u16 m] w fun e w' => e = .returned (.bool false) ∧ w = w' := by
  go_enter Try.func69, Try.ntmps69
  go_wp2_with (first
    | (go_at_call 77; refine (width16 _).mono ?_; rintro e w' ⟨rfl, rfl⟩)
    | (go_at_call 76; refine (within_any _ _ _ _ _ _ hn (by omega) (by omega)).mono ?_; rintro e w' ⟨rfl, rfl⟩))
  go_ret
  exact ⟨rfl, rfl⟩

set_option maxHeartbeats 400000 in
theorem put16_yes (g n c : Nat) (a : Nat) (m : Int) (w : World) (B : Nat) (bs : List Int) (hown : w.ownsRow B 5 1 (.slice (some ⟨g, 0, none⟩) n c) n (u8s bs))
   (hn : n ≤ 140737488355328) (hi : inB n a 2 = true) (hm : 0 ≤ m) :
    Calls Try.prog 69 #[.slice (some ⟨g, 0, none⟩) n c, .int .i64 a, .int .u16 m] w fun e w' => e = .returned (.bool true) ∧
      w'.ownsRow B 5 1 (.slice (some ⟨g, 0, none⟩) n c) n (u8s (putI bs a 2 m)) ∧ w.grownBy w' (some g) := by
  have ha : a + 2 ≤ n := by have := inB_yes hi; omega
  have hlen : Hid (bs.length = n) := by have := hown.1; rw [u8s_len] at this; show _ = _; omega
  go_enter Try.func69, Try.ntmps69
  go_wp2_with (first
    | (go_at_call 77; refine (width16 _).mono ?_; rintro e w' ⟨rfl, rfl⟩)
    | (go_at_call 76; refine (within_any _ _ _ _ _ _ hn (by omega) (by omega)).mono ?_; rintro e w' ⟨rfl, rfl⟩))
  go_loopw [2, 8] (fun r i wr => ∃ k : Nat, ∃ m' : Int, ∃ bs' : List Int, 0 ≤ m' ∧ k ≤ 2 ∧ i = .int .i64 ((k : Int) - 1) ∧ r = .int .u16 m' ∧ wr.ownsRow B 5 1 (.slice (some ⟨g, 0, none⟩) n c) n (u8s bs') ∧ bs'.length = n ∧ putI bs' a k m' = putI bs a 2 m ∧ w.grownBy wr (some g)) (fun _ i _ => (intOf i + 1).toNat)
  case atStart => exact ⟨2, m, bs, hm, by omega, rfl, rfl, hown, hlen.out, rfl, World.grownBy.refl _ _⟩
  case round =>
    obtain ⟨k, m', bs', hm', hk, rfl, rfl, hown', hlen', hput, hg⟩ := hrel
    have Hlen' := Lib.hid hlen'
    have Hput := Lib.hid hput
    have Hg := Lib.hid hg
    clear hlen' hput hg
    by_cases hlt : 1 ≤ k
    · have hc : wr.cell? ⟨g, a + (k - 1), none⟩ = some (.int .u8 (bs'.getD (a + (k - 1)) 0)) := by
        rw [hown'.cellAt _ (by omega)]; exact u8s_get _ _ (by have := Hlen'.out; omega)
      have hf : wr.frozen? ⟨g, a + (k - 1), none⟩ = false := hown'.frozenAt _
      have hst := hown'.stored (a + (k - 1)) (.int .u8 (m' % 256))
      rw [u8s_set] at hst
      have Hst := Lib.hid hst
      clear hst
      go_wp2
      go_roundw
      case rel =>
        refine ⟨k - 1, m' / 256, bs'.set (a + (k - 1)) (m' % 256), by omega, by omega, ?_, rfl, Hst.out.1, by rw [List.length_set]; exact Hlen'.out, ?_, grown_trans Hg.out Hst.out.2⟩
        · congr 1; omega
        · rw [← Hput.out]; obtain ⟨j, rfl⟩ : ∃ j, k = j + 1 := ⟨k - 1, by omega⟩; rfl
      case measure => simp [intOf]; omega
    · obtain rfl : k = 0 := by omega
      go_wp2
      go_ret
      exact ⟨rfl, by rw [← Hput.out]; exact hown', Hg.out⟩



end Go.Proofs.Ytbncpfkoeahhpaa
