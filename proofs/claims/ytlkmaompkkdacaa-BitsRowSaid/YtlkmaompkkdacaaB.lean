/- Reading numbers, handles, the document's own answers on bytes, and comparing bytes: what each returns. -/
import Derived.Test.YtlkmaompkkdacaaA
import Derived.Laws.BitsAllLaws
namespace Go.Proofs.Ytlkmaompkkdacaa
open Go.ChangeShapes Go.WideShapes Go.ChangeAt Go.RowKit

theorem or_add (k a b : Nat) (h : b < 2 ^ k) : (a * 2 ^ k) ||| b = a * 2 ^ k + b := by
  rw [Nat.mul_comm, Nat.two_pow_add_eq_or_of_lt h]
theorem or_u64 (k P : Nat) (a b PI : Int) (hPI : PI = (P : Int)) (hP : P = 2 ^ k) (ha : 0 ≤ a) (hb : 0 ≤ b) (hb' : b < PI) (hs : a * PI + b < 18446744073709551616) : bits BinOp.or IntKind.u64 (a * PI) b = a * PI + b := by
  subst hPI
  obtain ⟨a, rfl⟩ := Int.eq_ofNat_of_zero_le ha
  obtain ⟨b, rfl⟩ := Int.eq_ofNat_of_zero_le hb
  have h3 : (a : Int) * (P : Int) = ((a * P : Nat) : Int) := by push_cast; rfl
  rw [h3] at hs ⊢
  have h1 : b < 2 ^ k := by rw [← hP]; omega
  have h4 : (a * P) ||| b = a * P + b := by subst hP; exact or_add k a b h1
  rw [u64_or_nat _ _ (by omega) (by omega), h4]; push_cast; rfl
theorem or_u32 (k P : Nat) (a b PI : Int) (hPI : PI = (P : Int)) (hP : P = 2 ^ k) (ha : 0 ≤ a) (hb : 0 ≤ b) (hb' : b < PI) (hs : a * PI + b < 4294967296) : bits BinOp.or IntKind.u32 (a * PI) b = a * PI + b := by
  subst hPI
  obtain ⟨a, rfl⟩ := Int.eq_ofNat_of_zero_le ha
  obtain ⟨b, rfl⟩ := Int.eq_ofNat_of_zero_le hb
  have h3 : (a : Int) * (P : Int) = ((a * P : Nat) : Int) := by push_cast; rfl
  rw [h3] at hs ⊢
  have h1 : b < 2 ^ k := by rw [← hP]; omega
  have h4 : (a * P) ||| b = a * P + b := by subst hP; exact or_add k a b h1
  rw [u32_or_nat _ _ (by omega) (by omega), h4]; push_cast; rfl
theorem or_u16 (k P : Nat) (a b PI : Int) (hPI : PI = (P : Int)) (hP : P = 2 ^ k) (ha : 0 ≤ a) (hb : 0 ≤ b) (hb' : b < PI) (hs : a * PI + b < 65536) : bits BinOp.or IntKind.u16 (a * PI) b = a * PI + b := by
  subst hPI
  obtain ⟨a, rfl⟩ := Int.eq_ofNat_of_zero_le ha
  obtain ⟨b, rfl⟩ := Int.eq_ofNat_of_zero_le hb
  have h3 : (a : Int) * (P : Int) = ((a * P : Nat) : Int) := by push_cast; rfl
  rw [h3] at hs ⊢
  have h1 : b < 2 ^ k := by rw [← hP]; omega
  have h4 : (a * P) ||| b = a * P + b := by subst hP; exact or_add k a b h1
  rw [u16_or_nat _ _ (by omega) (by omega), h4]; push_cast; rfl
theorem ret_any {v v' : Value} (h : v = v') : Ending.returned v = .returned v' := by rw [h]

theorem parts_x (h : Int) (w : World) (h0 : 0 ≤ h) (h1 : h ≤ 18446744073709551615) : Calls Try.prog 17 #[.int .u64 h] w fun e w' => e = .returned (.tuple #[.int .u16 (h / 281474976710656), .int .u16 (h / 4294967296 % 65536), .int .u32 (h % 4294967296)]) ∧ w = w' := by
  go_enter Try.func17, Try.ntmps17
  go_wp2
  go_ret3
  exact ⟨ret_any (by simp [IntKind.wrap_u16]), rfl⟩
theorem handle_x (p o g : Int) (w : World) (h0 : 0 ≤ p) (h1 : p ≤ 65535)  (h2 : 0 ≤ o) (h3 : o ≤ 65535) (h4 : 0 ≤ g) (h5 : g ≤ 4294967295) : Calls Try.prog 19 #[.int .u16 p, .int .u16 o, .int .u32 g] w fun e w' => e = .returned (.int .u64 ((p * 65536 + o) * 4294967296 + g)) ∧ w = w' := by
  have e1 : Hid (bits BinOp.or IntKind.u64 (bits BinOp.or IntKind.u64 (p * 281474976710656) (o * 4294967296)) g = (p * 65536 + o) * 4294967296 + g) := by
    show _ = _
    rw [or_u64 48 281474976710656 p (o * 4294967296) 281474976710656 rfl (by decide) h0 (by omega) (by omega) (by omega)]
    rw [show p * 281474976710656 + o * 4294967296 = (p * 65536 + o) * 4294967296 from by omega]
    rw [or_u64 32 4294967296 (p * 65536 + o) g 4294967296 rfl (by decide) (by omega) (by omega) (by omega) (by omega)]
  go_enter Try.func19, Try.ntmps19
  go_wp2
  go_ret
  exact ⟨ret_any (congrArg (Value.int .u64) e1.out), rfl⟩
theorem rparts_x (h : Int) (w : World) (h0 : 0 ≤ h) (h1 : h ≤ 18446744073709551615) : Calls Try.prog 24 #[.int .u64 h] w fun e w' => e = .returned (.tuple #[.int .u16 (h / 281474976710656), .int .u16 (h / 4294967296 % 65536), .int .u32 (h % 4294967296)]) ∧ w = w' := by
  have e1 : Hid (h / 4294967296 / 65536 = h / 281474976710656) := by show _ = _; omega
  go_enter Try.func24, Try.ntmps24
  go_wp2
  go_ret3
  refine ⟨ret_any ?_, rfl⟩
  rw [← e1.out]; rfl
theorem rhandle_x (p o g : Int) (w : World) (h0 : 0 ≤ p) (h1 : p ≤ 65535)  (h2 : 0 ≤ o) (h3 : o ≤ 65535) (h4 : 0 ≤ g) (h5 : g ≤ 4294967295) : Calls Try.prog 25 #[.int .u16 p, .int .u16 o, .int .u32 g] w fun e w' => e = .returned (.int .u64 ((p * 65536 + o) * 4294967296 + g)) ∧ w = w' := by
  go_enter Try.func25, Try.ntmps25
  go_wp2
  go_ret
  exact ⟨rfl, rfl⟩

/-- a slice that reads as bytes, nil let in -/
def RdB (w : World) (A : Option Addr) (n : Nat) (bs : List Int) : Prop :=
  bs.length = n ∧ (0 < n → ∃ g off, A = some ⟨g, off, none⟩ ∧ ∀ j, j < n → w.cell? ⟨g, off + j, none⟩ = some (.int .u8 (bs.getD j 0)))
theorem RdB.of_own {w : World} {B g n c : Nat} {bs : List Int} (h : w.ownsRow B 5 1 (.slice (some ⟨g, 0, none⟩) n c) n (u8s bs)) : RdB w (some ⟨g, 0, none⟩) n bs := by
  have hl : bs.length = n := by have := h.1; rw [u8s_len] at this; omega
  exact ⟨hl, fun _ => ⟨g, 0, rfl, fun j hj => by rw [Nat.zero_add, h.cellAt j (by omega)]; exact u8s_get bs j (by omega)⟩⟩
theorem RdB.keep {w w' : World} {A : Option Addr} {n : Nat} {bs : List Int} (h : RdB w A n bs) (hk : ∀ p : Addr, (∀ ad, A = some ad → p.block = ad.block) → w'.cell? p = w.cell? p) : RdB w' A n bs :=
  ⟨h.1, fun hn => by
    obtain ⟨g, off, hA, hc⟩ := h.2 hn
    exact ⟨g, off, hA, fun j hj => by rw [hk _ (fun ad e => by rw [hA] at e; cases e; rfl)]; exact hc j hj⟩⟩
theorem RdB.drewN {w : World} {A : Option Addr} {n : Nat} {bs : List Int} (h : RdB w A n bs) (k : Nat) : RdB (w.drewN k) A n bs := h
theorem RdB.at_ {w : World} {A : Option Addr} {n : Nat} {bs : List Int} (h : RdB w A n bs) (hn : 0 < n) : ∃ g off, A = some ⟨g, off, none⟩ ∧ ∀ j, j < n → w.cell? ⟨g, off + j, none⟩ = some (.int .u8 (bs.getD j 0)) := h.2 hn

set_option maxHeartbeats 400000 in
theorem get64_no (A : Option Addr) (n c : Nat) (at_ : Int) (w : World) (hn : n ≤ 140737488355328) (hi : inB n at_ 8 = false) :
    Calls Try.prog 26 #[.slice A n c, .int .i64 at_] w fun e w' => e = .returned (.tuple #[.int .u64 0, .bool false]) ∧ w = w' := by
  go_enter Try.func26, Try.ntmps26
  go_wp2_with (first
    | (go_at_call 32; refine (width64 _).mono ?_; rintro e w' ⟨rfl, rfl⟩)
    | (go_at_call 33; refine (within_any _ _ _ _ _ _ hn (by omega) (by omega)).mono ?_; rintro e w' ⟨rfl, rfl⟩))
  go_ret2
  exact ⟨rfl, rfl⟩

theorem get64_step (bs : List Int) (hb : isBytes bs) (a k : Nat) (hk : k < 8) : bits BinOp.or IntKind.u64 (IntKind.u64.wrap (getI bs a k * 256)) (bs.getD (a + k) 0) = getI bs a (k + 1) := by
  have h1 := getI_bound hb a k
  have h2 := hb.getD (a + k)
  have h3 : ∀ k : Nat, k < 8 → (256 : Int) ^ k ≤ 72057594037927936 := by decide
  have h4 := h3 k hk
  rw [IntKind.wrap_u64, Int.emod_eq_of_lt (by omega) (by omega), or_u64 8 256 _ _ 256 rfl (by decide) h1.1 h2.1 h2.2 (by omega), getI_succ]

set_option maxHeartbeats 400000 in
theorem get64_yes (A : Option Addr) (n c : Nat) (a : Nat) (w : World) (bs : List Int) (hr : RdB w A n bs) (hb : isBytes bs)
   (hn : n ≤ 140737488355328) (hi : inB n a 8 = true) :
    Calls Try.prog 26 #[.slice A n c, .int .i64 a] w fun e w' => e = .returned (.tuple #[.int .u64 (getI bs a 8), .bool true]) ∧ w = w' := by
  have ha : a + 8 ≤ n := by have := inB_yes hi; omega
  obtain ⟨g, off, rfl, hcell⟩ := hr.at_ (by omega)
  have Hcell := Lib.hid hcell
  clear hr hcell
  go_enter Try.func26, Try.ntmps26
  go_wp2_with (first
    | (go_at_call 32; refine (width64 _).mono ?_; rintro e w' ⟨rfl, rfl⟩)
    | (go_at_call 33; refine (within_any _ _ _ _ _ _ hn (by omega) (by omega)).mono ?_; rintro e w' ⟨rfl, rfl⟩))
  go_loop [7, 16] (fun r i => ∃ k : Nat, k ≤ 8 ∧ i = .int .i64 k ∧ r = .int .u64 (getI bs a k)) (fun _ i => 8 - (intOf i).toNat)
  case atStart => exact ⟨0, by omega, rfl, rfl⟩
  case round =>
    obtain ⟨k, hk, rfl, rfl⟩ := hrel
    by_cases hlt : k < 8
    · have hc : w.cell? ⟨g, off + (a + k), none⟩ = some (.int .u8 (bs.getD (a + k) 0)) := Hcell.out (a + k) (by omega)
      have hst := Lib.hid (get64_step bs hb a k hlt)
      have hbb := hb.getD (a + k)
      have hg := getI_bound hb a k
      generalize hx : bs.getD (a + k) 0 = x at *
      have Hx := Lib.hid hx
      clear hx
      go_wp2
      go_round
      case rel => exact ⟨k + 1, by omega, by go_num, by rw [← hst.out]⟩
      case measure => simp [intOf]; omega
    · obtain rfl : k = 8 := by omega
      go_wp2
      go_ret2
      exact ⟨rfl, rfl⟩

set_option maxHeartbeats 400000 in
theorem get16_no (A : Option Addr) (n c : Nat) (at_ : Int) (w : World) (hn : n ≤ 140737488355328) (hi : inB n at_ 2 = false) :
    Calls Try.prog 28 #[.slice A n c, .int .i64 at_] w fun e w' => e = .returned (.tuple #[.int .u16 0, .bool false]) ∧ w = w' := by
  go_enter Try.func28, Try.ntmps28
  go_wp2_with (first
    | (go_at_call 34; refine (width16 _).mono ?_; rintro e w' ⟨rfl, rfl⟩)
    | (go_at_call 33; refine (within_any _ _ _ _ _ _ hn (by omega) (by omega)).mono ?_; rintro e w' ⟨rfl, rfl⟩))
  go_ret2
  exact ⟨rfl, rfl⟩

theorem get16_step (bs : List Int) (hb : isBytes bs) (a k : Nat) (hk : k < 2) : bits BinOp.or IntKind.u16 (IntKind.u16.wrap (getI bs a k * 256)) (bs.getD (a + k) 0) = getI bs a (k + 1) := by
  have h1 := getI_bound hb a k
  have h2 := hb.getD (a + k)
  have h3 : ∀ k : Nat, k < 2 → (256 : Int) ^ k ≤ 256 := by decide
  have h4 := h3 k hk
  rw [IntKind.wrap_u16, Int.emod_eq_of_lt (by omega) (by omega), or_u16 8 256 _ _ 256 rfl (by decide) h1.1 h2.1 h2.2 (by omega), getI_succ]

set_option maxHeartbeats 400000 in
theorem get16_yes (A : Option Addr) (n c : Nat) (a : Nat) (w : World) (bs : List Int) (hr : RdB w A n bs) (hb : isBytes bs)
   (hn : n ≤ 140737488355328) (hi : inB n a 2 = true) :
    Calls Try.prog 28 #[.slice A n c, .int .i64 a] w fun e w' => e = .returned (.tuple #[.int .u16 (getI bs a 2), .bool true]) ∧ w = w' := by
  have ha : a + 2 ≤ n := by have := inB_yes hi; omega
  obtain ⟨g, off, rfl, hcell⟩ := hr.at_ (by omega)
  have Hcell := Lib.hid hcell
  clear hr hcell
  go_enter Try.func28, Try.ntmps28
  go_wp2_with (first
    | (go_at_call 34; refine (width16 _).mono ?_; rintro e w' ⟨rfl, rfl⟩)
    | (go_at_call 33; refine (within_any _ _ _ _ _ _ hn (by omega) (by omega)).mono ?_; rintro e w' ⟨rfl, rfl⟩))
  go_loop [7, 16] (fun r i => ∃ k : Nat, k ≤ 2 ∧ i = .int .i64 k ∧ r = .int .u16 (getI bs a k)) (fun _ i => 2 - (intOf i).toNat)
  case atStart => exact ⟨0, by omega, rfl, rfl⟩
  case round =>
    obtain ⟨k, hk, rfl, rfl⟩ := hrel
    by_cases hlt : k < 2
    · have hc : w.cell? ⟨g, off + (a + k), none⟩ = some (.int .u8 (bs.getD (a + k) 0)) := Hcell.out (a + k) (by omega)
      have hst := Lib.hid (get16_step bs hb a k hlt)
      have hbb := hb.getD (a + k)
      have hg := getI_bound hb a k
      generalize hx : bs.getD (a + k) 0 = x at *
      have Hx := Lib.hid hx
      clear hx
      go_wp2
      go_round
      case rel => exact ⟨k + 1, by omega, by go_num, by rw [← hst.out]⟩
      case measure => simp [intOf]; omega
    · obtain rfl : k = 2 := by omega
      go_wp2
      go_ret2
      exact ⟨rfl, rfl⟩

set_option maxHeartbeats 400000 in
theorem get32_no (A : Option Addr) (n c : Nat) (at_ : Int) (w : World) (hn : n ≤ 140737488355328) (hi : inB n at_ 4 = false) :
    Calls Try.prog 29 #[.slice A n c, .int .i64 at_] w fun e w' => e = .returned (.tuple #[.int .u32 0, .bool false]) ∧ w = w' := by
  go_enter Try.func29, Try.ntmps29
  go_wp2_with (first
    | (go_at_call 35; refine (width32 _).mono ?_; rintro e w' ⟨rfl, rfl⟩)
    | (go_at_call 33; refine (within_any _ _ _ _ _ _ hn (by omega) (by omega)).mono ?_; rintro e w' ⟨rfl, rfl⟩))
  go_ret2
  exact ⟨rfl, rfl⟩

theorem get32_step (bs : List Int) (hb : isBytes bs) (a k : Nat) (hk : k < 4) : bits BinOp.or IntKind.u32 (getI bs a k * 256 % 4294967296) (bs.getD (a + k) 0) = getI bs a (k + 1) := by
  have h1 := getI_bound hb a k
  have h2 := hb.getD (a + k)
  have h3 : ∀ k : Nat, k < 4 → (256 : Int) ^ k ≤ 16777216 := by decide
  have h4 := h3 k hk
  rw [Int.emod_eq_of_lt (by omega) (by omega), or_u32 8 256 _ _ 256 rfl (by decide) h1.1 h2.1 h2.2 (by omega), getI_succ]

set_option maxHeartbeats 400000 in
theorem get32_yes (A : Option Addr) (n c : Nat) (a : Nat) (w : World) (bs : List Int) (hr : RdB w A n bs) (hb : isBytes bs)
   (hn : n ≤ 140737488355328) (hi : inB n a 4 = true) :
    Calls Try.prog 29 #[.slice A n c, .int .i64 a] w fun e w' => e = .returned (.tuple #[.int .u32 (getI bs a 4), .bool true]) ∧ w = w' := by
  have ha : a + 4 ≤ n := by have := inB_yes hi; omega
  obtain ⟨g, off, rfl, hcell⟩ := hr.at_ (by omega)
  have Hcell := Lib.hid hcell
  clear hr hcell
  go_enter Try.func29, Try.ntmps29
  go_wp2_with (first
    | (go_at_call 35; refine (width32 _).mono ?_; rintro e w' ⟨rfl, rfl⟩)
    | (go_at_call 33; refine (within_any _ _ _ _ _ _ hn (by omega) (by omega)).mono ?_; rintro e w' ⟨rfl, rfl⟩))
  go_loop [7, 16] (fun r i => ∃ k : Nat, k ≤ 4 ∧ i = .int .i64 k ∧ r = .int .u32 (getI bs a k)) (fun _ i => 4 - (intOf i).toNat)
  case atStart => exact ⟨0, by omega, rfl, rfl⟩
  case round =>
    obtain ⟨k, hk, rfl, rfl⟩ := hrel
    by_cases hlt : k < 4
    · have hc : w.cell? ⟨g, off + (a + k), none⟩ = some (.int .u8 (bs.getD (a + k) 0)) := Hcell.out (a + k) (by omega)
      have hst := Lib.hid (get32_step bs hb a k hlt)
      have hbb := hb.getD (a + k)
      have hg := getI_bound hb a k
      generalize hx : bs.getD (a + k) 0 = x at *
      have Hx := Lib.hid hx
      clear hx
      go_wp2
      go_round
      case rel => exact ⟨k + 1, by omega, by go_num, by rw [← hst.out]⟩
      case measure => simp [intOf]; omega
    · obtain rfl : k = 4 := by omega
      go_wp2
      go_ret2
      exact ⟨rfl, rfl⟩

set_option maxHeartbeats 400000 in
theorem rput_no (A : Option Addr) (n c : Nat) (at_ wd m : Int) (w : World) (hn : n ≤ 140737488355328) (h1 : 0 ≤ wd) (h2 : wd ≤ 8) (hi : inB n at_ wd = false) :
    Calls Try.prog 21 #[.slice A n c, .int .i64 at_, .int .i64 wd, .int .u64 m] w fun e w' => e = .returned (.bool false) ∧ w = w' := by
  have hi' := inB_no hi
  clear hi
  by_cases c1 : at_ < 0
  · go_enter Try.func21, Try.ntmps21
    go_wp2
    go_ret
    exact ⟨rfl, rfl⟩
  · by_cases c2 : (n : Int) < wd
    · go_enter Try.func21, Try.ntmps21
      go_wp2
      go_ret
      exact ⟨rfl, rfl⟩
    · have c3 : (n : Int) - wd < at_ := by omega
      clear hi'
      go_enter Try.func21, Try.ntmps21
      go_wp2
      go_ret
      exact ⟨rfl, rfl⟩

set_option maxHeartbeats 400000 in
theorem rput_yes (g n c : Nat) (a wd : Nat) (m : Int) (w : World) (B : Nat) (bs : List Int) (hown : w.ownsRow B 5 1 (.slice (some ⟨g, 0, none⟩) n c) n (u8s bs))
   (hn : n ≤ 140737488355328) (hw : wd ≤ 8) (hi : inB n a wd = true) (hm : 0 ≤ m) (hm2 : m ≤ 18446744073709551615) :
    Calls Try.prog 21 #[.slice (some ⟨g, 0, none⟩) n c, .int .i64 a, .int .i64 wd, .int .u64 m] w fun e w' => e = .returned (.bool true) ∧
      w'.ownsRow B 5 1 (.slice (some ⟨g, 0, none⟩) n c) n (u8s (putI bs a wd m)) ∧ w.grownBy w' (some g) := by
  have ha : a + wd ≤ n := by have := inB_yes hi; omega
  have c1 : ¬ (n : Int) < wd := by omega
  have c2 : ¬ (n : Int) - wd < a := by omega
  have hlen : Hid (bs.length = n) := by have := hown.1; rw [u8s_len] at this; show _ = _; omega
  go_enter Try.func21, Try.ntmps21
  go_wp2
  go_loopw [3, 9] (fun r i wr => ∃ k : Nat, ∃ m' : Int, ∃ bs' : List Int, 0 ≤ m' ∧ m' ≤ 18446744073709551615 ∧ k ≤ wd ∧ i = .int .i64 ((k : Int) - 1) ∧ r = .int .u64 m' ∧ wr.ownsRow B 5 1 (.slice (some ⟨g, 0, none⟩) n c) n (u8s bs') ∧ bs'.length = n ∧ putI bs' a k m' = putI bs a wd m ∧ w.grownBy wr (some g)) (fun _ i _ => (intOf i + 1).toNat)
  case atStart => exact ⟨wd, m, bs, hm, hm2, by omega, rfl, rfl, hown, hlen.out, rfl, World.grownBy.refl _ _⟩
  case round =>
    obtain ⟨k, m', bs', hm', hm3, hk, rfl, rfl, hown', hlen', hput, hg⟩ := hrel
    have Hlen' := Lib.hid hlen'
    have Hput := Lib.hid hput
    have Hg := Lib.hid hg
    clear hlen' hput hg
    by_cases hlt : 1 ≤ k
    · have hc : wr.cell? ⟨g, a + (k - 1), none⟩ = some (.int .u8 (bs'.getD (a + (k - 1)) 0)) := by
        rw [hown'.cellAt _ (by omega)]; exact u8s_get _ _ (by have := Hlen'.out; omega)
      have hf : wr.frozen? ⟨g, a + (k - 1), none⟩ = false := hown'.frozenAt _
      have hst := hown'.stored (a + (k - 1)) (.int .u8 (m' % 256))
      rw [u8s_set] at hst
      have Hst := Lib.hid hst
      clear hst
      go_wp2
      go_roundw
      case rel =>
        refine ⟨k - 1, m' / 256, bs'.set (a + (k - 1)) (m' % 256), by omega, by omega, by omega, ?_, rfl, Hst.out.1, by rw [List.length_set]; exact Hlen'.out, ?_, grown_trans Hg.out Hst.out.2⟩
        · congr 1; omega
        · rw [← Hput.out]; obtain ⟨j, rfl⟩ : ∃ j, k = j + 1 := ⟨k - 1, by omega⟩; rfl
      case measure => simp [intOf]; omega
    · obtain rfl : k = 0 := by omega
      go_wp2
      go_ret
      exact ⟨rfl, by rw [← Hput.out]; exact hown', Hg.out⟩

set_option maxHeartbeats 400000 in
theorem rget_no (A : Option Addr) (n c : Nat) (at_ wd : Int) (w : World) (hn : n ≤ 140737488355328) (h1 : 0 ≤ wd) (h2 : wd ≤ 8) (hi : inB n at_ wd = false) :
    Calls Try.prog 23 #[.slice A n c, .int .i64 at_, .int .i64 wd] w fun e w' => e = .returned (.tuple #[.int .u64 0, .bool false]) ∧ w = w' := by
  have hi' := inB_no hi
  clear hi
  by_cases c1 : at_ < 0
  · go_enter Try.func23, Try.ntmps23
    go_wp2
    go_ret2
    exact ⟨rfl, rfl⟩
  · by_cases c2 : (n : Int) < wd
    · go_enter Try.func23, Try.ntmps23
      go_wp2
      go_ret2
      exact ⟨rfl, rfl⟩
    · have c3 : (n : Int) - wd < at_ := by omega
      clear hi'
      go_enter Try.func23, Try.ntmps23
      go_wp2
      go_ret2
      exact ⟨rfl, rfl⟩

set_option maxHeartbeats 400000 in
theorem rget_yes (A : Option Addr) (n c : Nat) (a wd : Nat) (w : World) (bs : List Int) (hr : RdB w A n bs) (hb : isBytes bs)
   (hn : n ≤ 140737488355328) (h0 : 0 < wd) (hw : wd ≤ 8) (hi : inB n a wd = true) :
    Calls Try.prog 23 #[.slice A n c, .int .i64 a, .int .i64 wd] w fun e w' => e = .returned (.tuple #[.int .u64 (getI bs a wd), .bool true]) ∧ w = w' := by
  have ha : a + wd ≤ n := by have := inB_yes hi; omega
  have c1 : ¬ (n : Int) < wd := by omega
  have c2 : ¬ (n : Int) - wd < a := by omega
  obtain ⟨g, off, rfl, hcell⟩ := hr.at_ (by omega)
  have Hcell := Lib.hid hcell
  clear hr hcell
  go_enter Try.func23, Try.ntmps23
  go_wp2
  go_loop [8, 9] (fun r i => ∃ k : Nat, k ≤ wd ∧ i = .int .i64 k ∧ r = .int .u64 (getI bs a k)) (fun _ i => wd - (intOf i).toNat)
  case atStart => exact ⟨0, by omega, rfl, rfl⟩
  case round =>
    obtain ⟨k, hk, rfl, rfl⟩ := hrel
    by_cases hlt : k < wd
    · have hc : w.cell? ⟨g, off + (a + k), none⟩ = some (.int .u8 (bs.getD (a + k) 0)) := Hcell.out (a + k) (by omega)
      have hst := Lib.hid (getI_succ bs a k)
      have hbb := hb.getD (a + k)
      have hg := getI_bound hb a k
      have h3 : ∀ k : Nat, k < 8 → (256 : Int) ^ k ≤ 72057594037927936 := by decide
      have h4 : getI bs a k < 72057594037927936 := by have := h3 k (by omega); omega
      have h5 := hg.1
      clear h3 hg
      generalize hx : bs.getD (a + k) 0 = x at *
      have Hx := Lib.hid hx
      clear hx
      generalize hy : getI bs a k = y at *
      have Hy := Lib.hid hy
      clear hy
      go_wp2
      go_round
      case rel => exact ⟨k + 1, by omega, by go_num, by rw [hst.out]⟩
      case measure => simp [intOf]; omega
    · obtain rfl : k = wd := by omega
      go_wp2
      go_ret2
      exact ⟨rfl, rfl⟩

end Go.Proofs.Ytlkmaompkkdacaa
