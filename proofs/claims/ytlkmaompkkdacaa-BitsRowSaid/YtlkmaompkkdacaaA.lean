/- The functions of package bits and the document's own answers on bytes: what each returns, and what becomes of the bytes. -/
import Derived.Test.YtlkmaompkkdacaaChecked
import Derived.WalkKit
import Derived.ProofKit
import Derived.LoopTactic
import Derived.Below
import Derived.BigQuiet
import Derived.Deep.QuietTactic
import Derived.Laws.OwnMore
import Derived.OwnWalk
import Derived.Lib.Hide
import Derived.Outline
namespace Go.Proofs.Ytlkmaompkkdacaa
open Go.ChangeShapes Go.WideShapes Go.ChangeAt Go.RowKit

/-- bytes as the memory's cells -/
def u8s (bs : List Int) : List Value := bs.map (Value.int .u8)
theorem u8s_len (bs : List Int) : (u8s bs).length = bs.length := by simp [u8s]
theorem u8s_get (bs : List Int) (i : Nat) (h : i < bs.length) : (u8s bs)[i]? = some (.int .u8 (bs.getD i 0)) := by
  simp [u8s, h]
theorem u8s_set (bs : List Int) (i : Nat) (x : Int) : (u8s bs).set i (.int .u8 x) = u8s (bs.set i x) := by simp [u8s]

/-- a number put into bytes, k bytes from a place on, the last one first -/
def putI (bs : List Int) (a : Nat) : Nat → Int → List Int
  | 0, _ => bs
  | k + 1, m => putI (bs.set (a + k) (m % 256)) a k (m / 256)
theorem putI_succ (bs : List Int) (a k : Nat) (m : Int) : putI bs a (k + 1) m = putI (bs.set (a + k) (m % 256)) a k (m / 256) := rfl
theorem putI_len (a : Nat) : ∀ (k : Nat) (bs : List Int) (m : Int), (putI bs a k m).length = bs.length
  | 0, _, _ => rfl
  | k + 1, bs, m => by rw [putI, putI_len a k]; simp
/-- the number of k bytes from a place on -/
def getI (bs : List Int) (a : Nat) : Nat → Int
  | 0 => 0
  | k + 1 => getI bs a k * 256 + bs.getD (a + k) 0
theorem getI_succ (bs : List Int) (a k : Nat) : getI bs a (k + 1) = getI bs a k * 256 + bs.getD (a + k) 0 := rfl
/-- each is a byte -/
def isBytes (bs : List Int) : Prop := ∀ i, i < bs.length → 0 ≤ bs.getD i 0 ∧ bs.getD i 0 < 256
theorem isBytes.getD {bs : List Int} (h : isBytes bs) (i : Nat) : 0 ≤ bs.getD i 0 ∧ bs.getD i 0 < 256 := by
  by_cases hi : i < bs.length
  · exact h i hi
  · rw [List.getD_eq_getElem?_getD, List.getElem?_eq_none (by omega)]; simp
theorem isBytes.set {bs : List Int} (h : isBytes bs) (i : Nat) (m : Int) : isBytes (bs.set i (m % 256)) := by
  intro j hj
  rw [List.getD_eq_getElem?_getD, List.getElem?_set]
  by_cases e : i = j
  · subst e
    rw [if_pos rfl, if_pos (by simpa using hj)]
    simp only [Option.getD_some]; omega
  · rw [if_neg e, ← List.getD_eq_getElem?_getD]; exact h.getD j
theorem isBytes.putI {a : Nat} : ∀ (k : Nat) (bs : List Int) (m : Int), isBytes bs → isBytes (putI bs a k m)
  | 0, _, _, h => h
  | k + 1, bs, m, h => by rw [putI_succ]; exact isBytes.putI k _ _ (h.set _ _)
theorem getI_bound {bs : List Int} (h : isBytes bs) (a : Nat) : ∀ k, 0 ≤ getI bs a k ∧ getI bs a k < 256 ^ k
  | 0 => by simp [getI]
  | k + 1 => by
    have ih := getI_bound h a k
    have hb := h.getD (a + k)
    have hp : (256 : Int) ^ (k + 1) = 256 ^ k * 256 := Int.pow_succ 256 k
    rw [getI_succ]; omega

theorem grown_trans {a b c : World} {g : Nat} (h : a.grownBy b (some g)) (k : b.grownBy c (some g)) : a.grownBy c (some g) :=
  ⟨k.os.trans h.os, k.tape.trans h.tape, k.output.trans h.output, Nat.le_trans h.size k.size, fun i hi hg => (k.block i (Nat.lt_of_lt_of_le hi h.size) hg).trans (h.block i hi hg)⟩

/-- what is left of a number of k bytes' ones -/
def ones (k : Nat) : Int := 256 ^ k - 1
theorem ones_div (k : Nat) : ones (k + 1) / 256 = ones k := by
  unfold ones
  have h : (256 : Int) ^ (k + 1) = 256 ^ k * 256 := Int.pow_succ 256 k
  omega
theorem ones_pos (k : Nat) (h : 0 < k) : 0 < ones k := by
  obtain ⟨j, rfl⟩ : ∃ j, k = j + 1 := ⟨k - 1, by omega⟩
  unfold ones
  have h : (256 : Int) ^ (j + 1) = 256 ^ j * 256 := Int.pow_succ 256 j
  have h2 : (0 : Int) < 256 ^ j := Int.pow_pos (by omega)
  omega
theorem ones8 : bits BinOp.xor IntKind.u64 IntKind.u64.max 0 = ones (8 - 0) := by decide
theorem ones4 : bits BinOp.xor IntKind.u32 IntKind.u32.max 0 = ones (4 - 0) := by decide
theorem ones2 : bits BinOp.xor IntKind.u16 IntKind.u16.max 0 = ones (2 - 0) := by decide

set_option maxHeartbeats 400000 in
theorem width64 (w : World) : Calls Try.prog 32 #[] w fun e w' => e = .returned (.int .i64 8) ∧ w = w' := by
  go_enter Try.func32, Try.ntmps32
  go_wp2
  go_loop [1, 2] (fun b r => ∃ k : Nat, k ≤ 8 ∧ b = .int .i64 k ∧ r = .int .u64 (ones (8 - k))) (fun b _ => 8 - (intOf b).toNat)
  case atStart => exact ⟨0, by omega, rfl, by rw [ones8]⟩
  case round =>
    obtain ⟨k, hk, rfl, rfl⟩ := hrel
    by_cases hlt : k < 8
    · have hp : 0 < ones (8 - k) := ones_pos _ (by omega)
      have hd : Hid (ones (8 - k) / 256 = ones (8 - (k + 1))) := by
        have := ones_div (8 - (k + 1)); rw [← this]; show _ = _; congr 2; omega
      go_wp2
      go_round
      case rel => exact ⟨k + 1, by omega, by go_num, by rw [hd.out]⟩
      case measure => simp [intOf]; omega
    · obtain rfl : k = 8 := by omega
      have hp : ones (8 - 8) ≤ 0 := by decide
      go_wp2
      go_ret
      exact ⟨rfl, rfl⟩

set_option maxHeartbeats 400000 in
theorem width16 (w : World) : Calls Try.prog 34 #[] w fun e w' => e = .returned (.int .i64 2) ∧ w = w' := by
  go_enter Try.func34, Try.ntmps34
  go_wp2
  go_loop [1, 2] (fun b r => ∃ k : Nat, k ≤ 2 ∧ b = .int .i64 k ∧ r = .int .u16 (ones (2 - k))) (fun b _ => 2 - (intOf b).toNat)
  case atStart => exact ⟨0, by omega, rfl, by rw [ones2]⟩
  case round =>
    obtain ⟨k, hk, rfl, rfl⟩ := hrel
    by_cases hlt : k < 2
    · have hp : 0 < ones (2 - k) := ones_pos _ (by omega)
      have hd : Hid (ones (2 - k) / 256 = ones (2 - (k + 1))) := by
        have := ones_div (2 - (k + 1)); rw [← this]; show _ = _; congr 2; omega
      go_wp2
      go_round
      case rel => exact ⟨k + 1, by omega, by go_num, by rw [hd.out]⟩
      case measure => simp [intOf]; omega
    · obtain rfl : k = 2 := by omega
      have hp : ones (2 - 2) ≤ 0 := by decide
      go_wp2
      go_ret
      exact ⟨rfl, rfl⟩

set_option maxHeartbeats 400000 in
theorem width32 (w : World) : Calls Try.prog 35 #[] w fun e w' => e = .returned (.int .i64 4) ∧ w = w' := by
  go_enter Try.func35, Try.ntmps35
  go_wp2
  go_loop [1, 2] (fun b r => ∃ k : Nat, k ≤ 4 ∧ b = .int .i64 k ∧ r = .int .u32 (ones (4 - k))) (fun b _ => 4 - (intOf b).toNat)
  case atStart => exact ⟨0, by omega, rfl, by rw [ones4]⟩
  case round =>
    obtain ⟨k, hk, rfl, rfl⟩ := hrel
    by_cases hlt : k < 4
    · have hp : 0 < ones (4 - k) := ones_pos _ (by omega)
      have hd : Hid (ones (4 - k) / 256 = ones (4 - (k + 1))) := by
        have := ones_div (4 - (k + 1)); rw [← this]; show _ = _; congr 2; omega
      go_wp2
      go_round
      case rel => exact ⟨k + 1, by omega, by go_num, by rw [hd.out]⟩
      case measure => simp [intOf]; omega
    · obtain rfl : k = 4 := by omega
      have hp : ones (4 - 4) ≤ 0 := by decide
      go_wp2
      go_ret
      exact ⟨rfl, rfl⟩

/-- is a place of k bytes within n bytes? -/
def inB (n : Nat) (at_ k : Int) : Bool := decide (0 ≤ at_ ∧ at_ ≤ n - k)
theorem inB_yes {n : Nat} {at_ k : Int} (h : inB n at_ k = true) : 0 ≤ at_ ∧ at_ ≤ n - k := by simpa [inB] using h
theorem inB_no {n : Nat} {at_ k : Int} (h : inB n at_ k = false) : ¬ (0 ≤ at_ ∧ at_ ≤ n - k) := by
  unfold inB at h; exact of_decide_eq_false h

set_option maxHeartbeats 400000 in
theorem within_any (A : Option Addr) (n c : Nat) (at_ k : Int) (w : World) (hn : n ≤ 140737488355328) (h1 : 0 ≤ k) (h2 : k ≤ 8) :
    Calls Try.prog 33 #[.slice A n c, .int .i64 at_, .int .i64 k] w fun e w' => e = .returned (.bool (inB n at_ k)) ∧ w = w' := by
  have hv : ∀ b : Bool, b = inB n at_ k → Ending.returned (.bool b) = .returned (.bool (inB n at_ k)) := fun b h => by rw [h]
  go_enter Try.func33, Try.ntmps33
  go_wp2
  all_goals go_ret
  · refine ⟨hv _ ?_, rfl⟩
    unfold inB; rw [decide_eq_decide]; omega
  · refine ⟨hv _ ?_, rfl⟩
    unfold inB; rw [eq_comm, decide_eq_false_iff_not]; omega

set_option maxHeartbeats 400000 in
theorem put64_no (A : Option Addr) (n c : Nat) (at_ m : Int) (w : World) (hn : n ≤ 140737488355328) (hi : inB n at_ 8 = false) :
    Calls Try.prog 27 #[.slice A n c, .int .i64 at_, .int .u64 m] w fun e w' => e = .returned (.bool false) ∧ w = w' := by
  go_enter Try.func27, Try.ntmps27
  go_wp2_with (first
    | (go_at_call 32; refine (width64 _).mono ?_; rintro e w' ⟨rfl, rfl⟩)
    | (go_at_call 33; refine (within_any _ _ _ _ _ _ hn (by omega) (by omega)).mono ?_; rintro e w' ⟨rfl, rfl⟩))
  go_ret
  exact ⟨rfl, rfl⟩

set_option maxHeartbeats 400000 in
theorem put64_yes (g n c : Nat) (a : Nat) (m : Int) (w : World) (B : Nat) (bs : List Int) (hown : w.ownsRow B 5 1 (.slice (some ⟨g, 0, none⟩) n c) n (u8s bs))
   (hn : n ≤ 140737488355328) (hi : inB n a 8 = true) (hm : 0 ≤ m) :
    Calls Try.prog 27 #[.slice (some ⟨g, 0, none⟩) n c, .int .i64 a, .int .u64 m] w fun e w' => e = .returned (.bool true) ∧
      w'.ownsRow B 5 1 (.slice (some ⟨g, 0, none⟩) n c) n (u8s (putI bs a 8 m)) ∧ w.grownBy w' (some g) := by
  have ha : a + 8 ≤ n := by have := inB_yes hi; omega
  have hlen : Hid (bs.length = n) := by have := hown.1; rw [u8s_len] at this; show _ = _; omega
  go_enter Try.func27, Try.ntmps27
  go_wp2_with (first
    | (go_at_call 32; refine (width64 _).mono ?_; rintro e w' ⟨rfl, rfl⟩)
    | (go_at_call 33; refine (within_any _ _ _ _ _ _ hn (by omega) (by omega)).mono ?_; rintro e w' ⟨rfl, rfl⟩))
  go_loopw [2, 8] (fun r i wr => ∃ k : Nat, ∃ m' : Int, ∃ bs' : List Int, 0 ≤ m' ∧ k ≤ 8 ∧ i = .int .i64 ((k : Int) - 1) ∧ r = .int .u64 m' ∧ wr.ownsRow B 5 1 (.slice (some ⟨g, 0, none⟩) n c) n (u8s bs') ∧ bs'.length = n ∧ putI bs' a k m' = putI bs a 8 m ∧ w.grownBy wr (some g)) (fun _ i _ => (intOf i + 1).toNat)
  case atStart => exact ⟨8, m, bs, hm, by omega, rfl, rfl, hown, hlen.out, rfl, World.grownBy.refl _ _⟩
  case round =>
    obtain ⟨k, m', bs', hm', hk, rfl, rfl, hown', hlen', hput, hg⟩ := hrel
    have Hlen' := Lib.hid hlen'
    have Hput := Lib.hid hput
    have Hg := Lib.hid hg
    clear hlen' hput hg
    by_cases hlt : 1 ≤ k
    · have hc : wr.cell? ⟨g, a + (k - 1), none⟩ = some (.int .u8 (bs'.getD (a + (k - 1)) 0)) := by
        rw [hown'.cellAt _ (by omega)]; exact u8s_get _ _ (by have := Hlen'.out; omega)
      have hf : wr.frozen? ⟨g, a + (k - 1), none⟩ = false := hown'.frozenAt _
      have hst := hown'.stored (a + (k - 1)) (.int .u8 (m' % 256))
      rw [u8s_set] at hst
      have Hst := Lib.hid hst
      clear hst
      go_wp2
      go_roundw
      case rel =>
        refine ⟨k - 1, m' / 256, bs'.set (a + (k - 1)) (m' % 256), by omega, by omega, ?_, rfl, Hst.out.1, by rw [List.length_set]; exact Hlen'.out, ?_, grown_trans Hg.out Hst.out.2⟩
        · congr 1; omega
        · rw [← Hput.out]; obtain ⟨j, rfl⟩ : ∃ j, k = j + 1 := ⟨k - 1, by omega⟩; rfl
      case measure => simp [intOf]; omega
    · obtain rfl : k = 0 := by omega
      go_wp2
      go_ret
      exact ⟨rfl, by rw [← Hput.out]; exact hown', Hg.out⟩

set_option maxHeartbeats 400000 in
theorem put16_no (A : Option Addr) (n c : Nat) (at_ m : Int) (w : World) (hn : n ≤ 140737488355328) (hi : inB n at_ 2 = false) :
    Calls Try.prog 30 #[.slice A n c, .int .i64 at_, .int .u16 m] w fun e w' => e = .returned (.bool false) ∧ w = w' := by
  go_enter Try.func30, Try.ntmps30
  go_wp2_with (first
    | (go_at_call 34; refine (width16 _).mono ?_; rintro e w' ⟨rfl, rfl⟩)
    | (go_at_call 33; refine (within_any _ _ _ _ _ _ hn (by omega) (by omega)).mono ?_; rintro e w' ⟨rfl, rfl⟩))
  go_ret
  exact ⟨rfl, rfl⟩

set_option maxHeartbeats 400000 in
theorem put16_yes (g n c : Nat) (a : Nat) (m : Int) (w : World) (B : Nat) (bs : List Int) (hown : w.ownsRow B 5 1 (.slice (some ⟨g, 0, none⟩) n c) n (u8s bs))
   (hn : n ≤ 140737488355328) (hi : inB n a 2 = true) (hm : 0 ≤ m) :
    Calls Try.prog 30 #[.slice (some ⟨g, 0, none⟩) n c, .int .i64 a, .int .u16 m] w fun e w' => e = .returned (.bool true) ∧
      w'.ownsRow B 5 1 (.slice (some ⟨g, 0, none⟩) n c) n (u8s (putI bs a 2 m)) ∧ w.grownBy w' (some g) := by
  have ha : a + 2 ≤ n := by have := inB_yes hi; omega
  have hlen : Hid (bs.length = n) := by have := hown.1; rw [u8s_len] at this; show _ = _; omega
  go_enter Try.func30, Try.ntmps30
  go_wp2_with (first
    | (go_at_call 34; refine (width16 _).mono ?_; rintro e w' ⟨rfl, rfl⟩)
    | (go_at_call 33; refine (within_any _ _ _ _ _ _ hn (by omega) (by omega)).mono ?_; rintro e w' ⟨rfl, rfl⟩))
  go_loopw [2, 8] (fun r i wr => ∃ k : Nat, ∃ m' : Int, ∃ bs' : List Int, 0 ≤ m' ∧ k ≤ 2 ∧ i = .int .i64 ((k : Int) - 1) ∧ r = .int .u16 m' ∧ wr.ownsRow B 5 1 (.slice (some ⟨g, 0, none⟩) n c) n (u8s bs') ∧ bs'.length = n ∧ putI bs' a k m' = putI bs a 2 m ∧ w.grownBy wr (some g)) (fun _ i _ => (intOf i + 1).toNat)
  case atStart => exact ⟨2, m, bs, hm, by omega, rfl, rfl, hown, hlen.out, rfl, World.grownBy.refl _ _⟩
  case round =>
    obtain ⟨k, m', bs', hm', hk, rfl, rfl, hown', hlen', hput, hg⟩ := hrel
    have Hlen' := Lib.hid hlen'
    have Hput := Lib.hid hput
    have Hg := Lib.hid hg
    clear hlen' hput hg
    by_cases hlt : 1 ≤ k
    · have hc : wr.cell? ⟨g, a + (k - 1), none⟩ = some (.int .u8 (bs'.getD (a + (k - 1)) 0)) := by
        rw [hown'.cellAt _ (by omega)]; exact u8s_get _ _ (by have := Hlen'.out; omega)
      have hf : wr.frozen? ⟨g, a + (k - 1), none⟩ = false := hown'.frozenAt _
      have hst := hown'.stored (a + (k - 1)) (.int .u8 (m' % 256))
      rw [u8s_set] at hst
      have Hst := Lib.hid hst
      clear hst
      go_wp2
      go_roundw
      case rel =>
        refine ⟨k - 1, m' / 256, bs'.set (a + (k - 1)) (m' % 256), by omega, by omega, ?_, rfl, Hst.out.1, by rw [List.length_set]; exact Hlen'.out, ?_, grown_trans Hg.out Hst.out.2⟩
        · congr 1; omega
        · rw [← Hput.out]; obtain ⟨j, rfl⟩ : ∃ j, k = j + 1 := ⟨k - 1, by omega⟩; rfl
      case measure => simp [intOf]; omega
    · obtain rfl : k = 0 := by omega
      go_wp2
      go_ret
      exact ⟨rfl, by rw [← Hput.out]; exact hown', Hg.out⟩

set_option maxHeartbeats 400000 in
theorem put32_no (A : Option Addr) (n c : Nat) (at_ m : Int) (w : World) (hn : n ≤ 140737488355328) (hi : inB n at_ 4 = false) :
    Calls Try.prog 31 #[.slice A n c, .int .i64 at_, .int .u32 m] w fun e w' => e = .returned (.bool false) ∧ w = w' := by
  go_enter Try.func31, Try.ntmps31
  go_wp2_with (first
    | (go_at_call 35; refine (width32 _).mono ?_; rintro e w' ⟨rfl, rfl⟩)
    | (go_at_call 33; refine (within_any _ _ _ _ _ _ hn (by omega) (by omega)).mono ?_; rintro e w' ⟨rfl, rfl⟩))
  go_ret
  exact ⟨rfl, rfl⟩

set_option maxHeartbeats 400000 in
theorem put32_yes (g n c : Nat) (a : Nat) (m : Int) (w : World) (B : Nat) (bs : List Int) (hown : w.ownsRow B 5 1 (.slice (some ⟨g, 0, none⟩) n c) n (u8s bs))
   (hn : n ≤ 140737488355328) (hi : inB n a 4 = true) (hm : 0 ≤ m) :
    Calls Try.prog 31 #[.slice (some ⟨g, 0, none⟩) n c, .int .i64 a, .int .u32 m] w fun e w' => e = .returned (.bool true) ∧
      w'.ownsRow B 5 1 (.slice (some ⟨g, 0, none⟩) n c) n (u8s (putI bs a 4 m)) ∧ w.grownBy w' (some g) := by
  have ha : a + 4 ≤ n := by have := inB_yes hi; omega
  have hlen : Hid (bs.length = n) := by have := hown.1; rw [u8s_len] at this; show _ = _; omega
  go_enter Try.func31, Try.ntmps31
  go_wp2_with (first
    | (go_at_call 35; refine (width32 _).mono ?_; rintro e w' ⟨rfl, rfl⟩)
    | (go_at_call 33; refine (within_any _ _ _ _ _ _ hn (by omega) (by omega)).mono ?_; rintro e w' ⟨rfl, rfl⟩))
  go_loopw [2, 8] (fun r i wr => ∃ k : Nat, ∃ m' : Int, ∃ bs' : List Int, 0 ≤ m' ∧ k ≤ 4 ∧ i = .int .i64 ((k : Int) - 1) ∧ r = .int .u32 m' ∧ wr.ownsRow B 5 1 (.slice (some ⟨g, 0, none⟩) n c) n (u8s bs') ∧ bs'.length = n ∧ putI bs' a k m' = putI bs a 4 m ∧ w.grownBy wr (some g)) (fun _ i _ => (intOf i + 1).toNat)
  case atStart => exact ⟨4, m, bs, hm, by omega, rfl, rfl, hown, hlen.out, rfl, World.grownBy.refl _ _⟩
  case round =>
    obtain ⟨k, m', bs', hm', hk, rfl, rfl, hown', hlen', hput, hg⟩ := hrel
    have Hlen' := Lib.hid hlen'
    have Hput := Lib.hid hput
    have Hg := Lib.hid hg
    clear hlen' hput hg
    by_cases hlt : 1 ≤ k
    · have hc : wr.cell? ⟨g, a + (k - 1), none⟩ = some (.int .u8 (bs'.getD (a + (k - 1)) 0)) := by
        rw [hown'.cellAt _ (by omega)]; exact u8s_get _ _ (by have := Hlen'.out; omega)
      have hf : wr.frozen? ⟨g, a + (k - 1), none⟩ = false := hown'.frozenAt _
      have hst := hown'.stored (a + (k - 1)) (.int .u8 (m' % 256))
      rw [u8s_set] at hst
      have Hst := Lib.hid hst
      clear hst
      go_wp2
      go_roundw
      case rel =>
        refine ⟨k - 1, m' / 256, bs'.set (a + (k - 1)) (m' % 256), by omega, by omega, ?_, rfl, Hst.out.1, by rw [List.length_set]; exact Hlen'.out, ?_, grown_trans Hg.out Hst.out.2⟩
        · congr 1; omega
        · rw [← Hput.out]; obtain ⟨j, rfl⟩ : ∃ j, k = j + 1 := ⟨k - 1, by omega⟩; rfl
      case measure => simp [intOf]; omega
    · obtain rfl : k = 0 := by omega
      go_wp2
      go_ret
      exact ⟨rfl, by rw [← Hput.out]; exact hown', Hg.out⟩

end Go.Proofs.Ytlkmaompkkdacaa
