/- Reading numbers, handles, the document's own answers on bytes, and comparing bytes: what each returns. -/
import Derived.Test.YtbncpfkoeahhpaaBA
import Derived.Laws.BitsAllLaws
namespace Go.Proofs.Ytbncpfkoeahhpaa
open Go.ChangeShapes Go.WideShapes Go.ChangeAt Go.RowKit

theorem or_u64 (k P : Nat) (a b PI : Int) (hPI : PI = (P : Int)) (hP : P = 2 ^ k) (ha : 0 ≤ a) (hb : 0 ≤ b) (hb' : b < PI) (hs : a * PI + b < 18446744073709551616) : bits BinOp.or IntKind.u64 (a * PI) b = a * PI + b := by
  subst hPI
  obtain ⟨a, rfl⟩ := Int.eq_ofNat_of_zero_le ha
  obtain ⟨b, rfl⟩ := Int.eq_ofNat_of_zero_le hb
  have h3 : (a : Int) * (P : Int) = ((a * P : Nat) : Int) := by push_cast; rfl
  rw [h3] at hs ⊢
  have h1 : b < 2 ^ k := by rw [← hP]; omega
  have h4 : (a * P) ||| b = a * P + b := by subst hP; exact or_add k a b h1
  rw [u64_or_nat _ _ (by omega) (by omega), h4]; push_cast; rfl
theorem or_u32 (k P : Nat) (a b PI : Int) (hPI : PI = (P : Int)) (hP : P = 2 ^ k) (ha : 0 ≤ a) (hb : 0 ≤ b) (hb' : b < PI) (hs : a * PI + b < 4294967296) : bits BinOp.or IntKind.u32 (a * PI) b = a * PI + b := by
  subst hPI
  obtain ⟨a, rfl⟩ := Int.eq_ofNat_of_zero_le ha
  obtain ⟨b, rfl⟩ := Int.eq_ofNat_of_zero_le hb
  have h3 : (a : Int) * (P : Int) = ((a * P : Nat) : Int) := by push_cast; rfl
  rw [h3] at hs ⊢
  have h1 : b < 2 ^ k := by rw [← hP]; omega
  have h4 : (a * P) ||| b = a * P + b := by subst hP; exact or_add k a b h1
  rw [u32_or_nat _ _ (by omega) (by omega), h4]; push_cast; rfl


/-- a slice that reads as bytes, nil let in -/
def RdB (w : World) (A : Option Addr) (n : Nat) (bs : List Int) : Prop :=
  bs.length = n ∧ (0 < n → ∃ g off, A = some ⟨g, off, none⟩ ∧ ∀ j, j < n → w.cell? ⟨g, off + j, none⟩ = some (.int .u8 (bs.getD j 0)))
theorem RdB.of_own {w : World} {B g n c : Nat} {bs : List Int} (h : w.ownsRow B 5 1 (.slice (some ⟨g, 0, none⟩) n c) n (u8s bs)) : RdB w (some ⟨g, 0, none⟩) n bs := by
  have hl : bs.length = n := by have := h.1; rw [u8s_len] at this; omega
  exact ⟨hl, fun _ => ⟨g, 0, rfl, fun j hj => by rw [Nat.zero_add, h.cellAt j (by omega)]; exact u8s_get bs j (by omega)⟩⟩
theorem RdB.keep {w w' : World} {A : Option Addr} {n : Nat} {bs : List Int} (h : RdB w A n bs) (hk : ∀ p : Addr, (∀ ad, A = some ad → p.block = ad.block) → w'.cell? p = w.cell? p) : RdB w' A n bs :=
  ⟨h.1, fun hn => by
    obtain ⟨g, off, hA, hc⟩ := h.2 hn
    exact ⟨g, off, hA, fun j hj => by rw [hk _ (fun ad e => by rw [hA] at e; cases e; rfl)]; exact hc j hj⟩⟩
theorem RdB.drewN {w : World} {A : Option Addr} {n : Nat} {bs : List Int} (h : RdB w A n bs) (k : Nat) : RdB (w.drewN k) A n bs := h
theorem RdB.at_ {w : World} {A : Option Addr} {n : Nat} {bs : List Int} (h : RdB w A n bs) (hn : 0 < n) : ∃ g off, A = some ⟨g, off, none⟩ ∧ ∀ j, j < n → w.cell? ⟨g, off + j, none⟩ = some (.int .u8 (bs.getD j 0)) := h.2 hn

set_option maxHeartbeats 400000 in
theorem get64_no (A : Option Addr) (n c : Nat) (at_ : Int) (w : World) (hn : n ≤ 140737488355328) (hi : inB n at_ 8 = false) :
    Calls Try.prog 70 #[.slice A n c, .int .i64 at_] w fun e w' => e = .returned (.tuple #[.int .u64 0, .bool false]) ∧ w = w' := by
  go_enter Try.func70, Try.ntmps70
  go_wp2_with (first
    | (go_at_call 75; refine (width64 _).mono ?_; rintro e w' ⟨rfl, rfl⟩)
    | (go_at_call 76; refine (within_any _ _ _ _ _ _ hn (by omega) (by omega)).mono ?_; rintro e w' ⟨rfl, rfl⟩))
  go_ret2
  exact ⟨rfl, rfl⟩

theorem get64_step (bs : List Int) (hb : isBytes bs) (a k : Nat) (hk : k < 8) : bits BinOp.or IntKind.u64 (IntKind.u64.wrap (getI bs a k * 256)) (bs.getD (a + k) 0) = getI bs a (k + 1) := by
  have h1 := getI_bound hb a k
  have h2 := hb.getD (a + k)
  have h3 : ∀ k : Nat, k < 8 → (256 : Int) ^ k ≤ 72057594037927936 := by decide
  have h4 := h3 k hk
  rw [IntKind.wrap_u64, Int.emod_eq_of_lt (by omega) (by omega), or_u64 8 256 _ _ 256 rfl (by decide) h1.1 h2.1 h2.2 (by omega), getI_succ]

set_option maxHeartbeats 400000 in
theorem get64_yes (A : Option Addr) (n c : Nat) (a : Nat) (w : World) (bs : List Int) (hr : RdB w A n bs) (hb : isBytes bs)
   (hn : n ≤ 140737488355328) (hi : inB n a 8 = true) :
    Calls Try.prog 70 #[.slice A n c, .int .i64 a] w fun e w' => e = .returned (.tuple #[.int .u64 (getI bs a 8), .bool true]) ∧ w = w' := by
  have ha : a + 8 ≤ n := by have := inB_yes hi; omega
  obtain ⟨g, off, rfl, hcell⟩ := hr.at_ (by omega)
  have Hcell := Lib.hid hcell
  clear hr hcell
  go_enter Try.func70, Try.ntmps70
  go_wp2_with (first
    | (go_at_call 75; refine (width64 _).mono ?_; rintro e w' ⟨rfl, rfl⟩)
    | (go_at_call 76; refine (within_any _ _ _ _ _ _ hn (by omega) (by omega)).mono ?_; rintro e w' ⟨rfl, rfl⟩))
  go_loop [7, 16] (fun r i => ∃ k : Nat, k ≤ 8 ∧ i = .int .i64 k ∧ r = .int .u64 (getI bs a k)) (fun _ i => 8 - (intOf i).toNat)
  case atStart => exact ⟨0, by omega, rfl, rfl⟩
  case round =>
    obtain ⟨k, hk, rfl, rfl⟩ := hrel
    by_cases hlt : k < 8
    · have hc : w.cell? ⟨g, off + (a + k), none⟩ = some (.int .u8 (bs.getD (a + k) 0)) := Hcell.out (a + k) (by omega)
      have hst := Lib.hid (get64_step bs hb a k hlt)
      have hbb := hb.getD (a + k)
      have hg := getI_bound hb a k
      generalize hx : bs.getD (a + k) 0 = x at *
      have Hx := Lib.hid hx
      clear hx
      go_wp2
      go_round
      case rel => exact ⟨k + 1, by omega, by go_num, by rw [← hst.out]⟩
      case measure => simp [intOf]; omega
    · obtain rfl : k = 8 := by omega
      go_wp2
      go_ret2
      exact ⟨rfl, rfl⟩

set_option maxHeartbeats 400000 in
theorem get16_no (A : Option Addr) (n c : Nat) (at_ : Int) (w : World) (hn : n ≤ 140737488355328) (hi : inB n at_ 2 = false) :
    Calls Try.prog 71 #[.slice A n c, .int .i64 at_] w fun e w' => e = .returned (.tuple #[.int .u16 0, .bool false]) ∧ w = w' := by
  go_enter Try.func71, Try.ntmps71
  go_wp2_with (first
    | (go_at_call 77; refine (width16 _).mono ?_; rintro e w' ⟨rfl, rfl⟩)
    | (go_at_call 76; refine (within_any _ _ _ _ _ _ hn (by omega) (by omega)).mono ?_; rintro e w' ⟨rfl, rfl⟩))
  go_ret2
  exact ⟨rfl, rfl⟩


set_option maxHeartbeats 400000 in
theorem get16_yes (A : Option Addr) (n c : Nat) (a : Nat) (w : World) (bs : List Int) (hr : RdB w A n bs) (hb : isBytes bs)
   (hn : n ≤ 140737488355328) (hi : inB n a 2 = true) :
    Calls Try.prog 71 #[.slice A n c, .int .i64 a] w fun e w' => e = .returned (.tuple #[.int .u16 (getI bs a 2), .bool true]) ∧ w = w' := by
  have ha : a + 2 ≤ n := by have := inB_yes hi; omega
  obtain ⟨g, off, rfl, hcell⟩ := hr.at_ (by omega)
  have Hcell := Lib.hid hcell
  clear hr hcell
  go_enter Try.func71, Try.ntmps71
  go_wp2_with (first
    | (go_at_call 77; refine (width16 _).mono ?_; rintro e w' ⟨rfl, rfl⟩)
    | (go_at_call 76; refine (within_any _ _ _ _ _ _ hn (by omega) (by omega)).mono ?_; rintro e w' ⟨rfl, rfl⟩))
  go_loop [7, 16] (fun r i => ∃ k : Nat, k ≤ 2 ∧ i = .int .i64 k ∧ r = .int .u16 (getI bs a k)) (fun _ i => 2 - (intOf i).toNat)
  case atStart => exact ⟨0, by omega, rfl, rfl⟩
  case round =>
    obtain ⟨k, hk, rfl, rfl⟩ := hrel
    by_cases hlt : k < 2
    · have hc : w.cell? ⟨g, off + (a + k), none⟩ = some (.int .u8 (bs.getD (a + k) 0)) := Hcell.out (a + k) (by omega)
      have hst := Lib.hid (get16_step bs hb a k hlt)
      have hbb := hb.getD (a + k)
      have hg := getI_bound hb a k
      generalize hx : bs.getD (a + k) 0 = x at *
      have Hx := Lib.hid hx
      clear hx
      go_wp2
      go_round
      case rel => exact ⟨k + 1, by omega, by go_num, by rw [← hst.out]⟩
      case measure => simp [intOf]; omega
    · obtain rfl : k = 2 := by omega
      go_wp2
      go_ret2
      exact ⟨rfl, rfl⟩


theorem get32_step (bs : List Int) (hb : isBytes bs) (a k : Nat) (hk : k < 4) : bits BinOp.or IntKind.u32 (getI bs a k * 256 % 4294967296) (bs.getD (a + k) 0) = getI bs a (k + 1) := by
  have h1 := getI_bound hb a k
  have h2 := hb.getD (a + k)
  have h3 : ∀ k : Nat, k < 4 → (256 : Int) ^ k ≤ 16777216 := by decide
  have h4 := h3 k hk
  rw [Int.emod_eq_of_lt (by omega) (by omega), or_u32 8 256 _ _ 256 rfl (by decide) h1.1 h2.1 h2.2 (by omega), getI_succ]






end Go.Proofs.Ytbncpfkoeahhpaa
