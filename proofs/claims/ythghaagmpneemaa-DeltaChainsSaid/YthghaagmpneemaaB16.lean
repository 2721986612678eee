/- The functions of package bits on numbers of two bytes: what each returns, and what becomes of the bytes. -/
import Derived.Test.YthghaagmpneemaaChecked
import Derived.WalkKit
import Derived.ProofKit
import Derived.LoopTactic
import Derived.Below
import Derived.BigQuiet
import Derived.Deep.QuietTactic
import Derived.Laws.OwnMore
import Derived.Laws.BitsAllLaws
import Derived.OwnWalk
import Derived.Lib.Hide
import Derived.Outline
namespace Go.Proofs.Ythghaagmpneemaa
open Go.ChangeShapes Go.WideShapes Go.ChangeAt Go.RowKit

/-- bytes as the memory's cells -/
def u8s (bs : List Int) : List Value := bs.map (Value.int .u8)
theorem u8s_len (bs : List Int) : (u8s bs).length = bs.length := by simp [u8s]
theorem u8s_get (bs : List Int) (i : Nat) (h : i < bs.length) : (u8s bs)[i]? = some (.int .u8 (bs.getD i 0)) := by
  simp [u8s, h]
theorem u8s_set (bs : List Int) (i : Nat) (x : Int) : (u8s bs).set i (.int .u8 x) = u8s (bs.set i x) := by simp [u8s]

/-- a number put into bytes, k bytes from a place on, the last one first -/
def putI (bs : List Int) (a : Nat) : Nat → Int → List Int
  | 0, _ => bs
  | k + 1, m => putI (bs.set (a + k) (m % 256)) a k (m / 256)
theorem putI_succ (bs : List Int) (a k : Nat) (m : Int) : putI bs a (k + 1) m = putI (bs.set (a + k) (m % 256)) a k (m / 256) := rfl
theorem putI_len (a : Nat) : ∀ (k : Nat) (bs : List Int) (m : Int), (putI bs a k m).length = bs.length
  | 0, _, _ => rfl
  | k + 1, bs, m => by rw [putI, putI_len a k]; simp
/-- the number of k bytes from a place on -/
def getI (bs : List Int) (a : Nat) : Nat → Int
  | 0 => 0
  | k + 1 => getI bs a k * 256 + bs.getD (a + k) 0
theorem getI_succ (bs : List Int) (a k : Nat) : getI bs a (k + 1) = getI bs a k * 256 + bs.getD (a + k) 0 := rfl
/-- each is a byte -/
def isBytes (bs : List Int) : Prop := ∀ i, i < bs.length → 0 ≤ bs.getD i 0 ∧ bs.getD i 0 < 256
theorem isBytes.getD {bs : List Int} (h : isBytes bs) (i : Nat) : 0 ≤ bs.getD i 0 ∧ bs.getD i 0 < 256 := by
  by_cases hi : i < bs.length
  · exact h i hi
  · rw [List.getD_eq_getElem?_getD, List.getElem?_eq_none (by omega)]; simp
theorem isBytes.set {bs : List Int} (h : isBytes bs) (i : Nat) (m : Int) : isBytes (bs.set i (m % 256)) := by
  intro j hj
  rw [List.getD_eq_getElem?_getD, List.getElem?_set]
  by_cases e : i = j
  · subst e
    rw [if_pos rfl, if_pos (by simpa using hj)]
    simp only [Option.getD_some]; omega
  · rw [if_neg e, ← List.getD_eq_getElem?_getD]; exact h.getD j
theorem isBytes.putI {a : Nat} : ∀ (k : Nat) (bs : List Int) (m : Int), isBytes bs → isBytes (putI bs a k m)
  | 0, _, _, h => h
  | k + 1, bs, m, h => by rw [putI_succ]; exact isBytes.putI k _ _ (h.set _ _)
theorem getI_bound {bs : List Int} (h : isBytes bs) (a : Nat) : ∀ k, 0 ≤ getI bs a k ∧ getI bs a k < 256 ^ k
  | 0 => by simp [getI]
  | k + 1 => by
    have ih := getI_bound h a k
    have hb := h.getD (a + k)
    have hp : (256 : Int) ^ (k + 1) = 256 ^ k * 256 := Int.pow_succ 256 k
    rw [getI_succ]; omega

theorem grown_trans {a b c : World} {g : Nat} (h : a.grownBy b (some g)) (k : b.grownBy c (some g)) : a.grownBy c (some g) :=
  ⟨k.os.trans h.os, k.tape.trans h.tape, k.output.trans h.output, Nat.le_trans h.size k.size, fun i hi hg => (k.block i (Nat.lt_of_lt_of_le hi h.size) hg).trans (h.block i hi hg)⟩

/-- what is left of a number of k bytes' ones -/
def ones (k : Nat) : Int := 256 ^ k - 1
theorem ones_div (k : Nat) : ones (k + 1) / 256 = ones k := by
  unfold ones
  have h : (256 : Int) ^ (k + 1) = 256 ^ k * 256 := Int.pow_succ 256 k
  omega
theorem ones_pos (k : Nat) (h : 0 < k) : 0 < ones k := by
  obtain ⟨j, rfl⟩ : ∃ j, k = j + 1 := ⟨k - 1, by omega⟩
  unfold ones
  have h : (256 : Int) ^ (j + 1) = 256 ^ j * 256 := Int.pow_succ 256 j
  have h2 : (0 : Int) < 256 ^ j := Int.pow_pos (by omega)
  omega
theorem ones2 : bits BinOp.xor IntKind.u16 IntKind.u16.max 0 = ones (2 - 0) := by decide
set_option maxHeartbeats 400000 in
theorem width16 (w : World) : Calls Try.prog 27 #[] w fun e w' => e = .returned (.int .i64 2) ∧ w = w' := by
  go_enter Try.func27, Try.ntmps27
  go_wp2
  go_loop [1, 2] (fun b r => ∃ k : Nat, k ≤ 2 ∧ b = .int .i64 k ∧ r = .int .u16 (ones (2 - k))) (fun b _ => 2 - (intOf b).toNat)
  case atStart => exact ⟨0, by omega, rfl, by rw [ones2]⟩
  case round =>
    obtain ⟨k, hk, rfl, rfl⟩ := hrel
    by_cases hlt : k < 2
    · have hp : 0 < ones (2 - k) := ones_pos _ (by omega)
      have hd : Hid (ones (2 - k) / 256 = ones (2 - (k + 1))) := by
        have := ones_div (2 - (k + 1)); rw [← this]; show _ = _; congr 2; omega
      go_wp2
      go_round
      case rel => exact ⟨k + 1, by omega, by go_num, by rw [hd.out]⟩
      case measure => simp [intOf]; omega
    · obtain rfl : k = 2 := by omega
      have hp : ones (2 - 2) ≤ 0 := by decide
      go_wp2
      go_ret
      exact ⟨rfl, rfl⟩
/-- is a place of k bytes within n bytes? -/
def inB (n : Nat) (at_ k : Int) : Bool := decide (0 ≤ at_ ∧ at_ ≤ n - k)
theorem inB_yes {n : Nat} {at_ k : Int} (h : inB n at_ k = true) : 0 ≤ at_ ∧ at_ ≤ n - k := by simpa [inB] using h
theorem inB_no {n : Nat} {at_ k : Int} (h : inB n at_ k = false) : ¬ (0 ≤ at_ ∧ at_ ≤ n - k) := by
  unfold inB at h; exact of_decide_eq_false h
set_option maxHeartbeats 400000 in
theorem within_any (A : Option Addr) (n c : Nat) (at_ k : Int) (w : World) (hn : n ≤ 140737488355328) (h1 : 0 ≤ k) (h2 : k ≤ 8) :
    Calls Try.prog 28 #[.slice A n c, .int .i64 at_, .int .i64 k] w fun e w' => e = .returned (.bool (inB n at_ k)) ∧ w = w' := by
  have hv : ∀ b : Bool, b = inB n at_ k → Ending.returned (.bool b) = .returned (.bool (inB n at_ k)) := fun b h => by rw [h]
  go_enter Try.func28, Try.ntmps28
  go_wp2
  all_goals go_ret
  · refine ⟨hv _ ?_, rfl⟩
    unfold inB; rw [decide_eq_decide]; omega
  · refine ⟨hv _ ?_, rfl⟩
    unfold inB; rw [eq_comm, decide_eq_false_iff_not]; omega
set_option maxHeartbeats 400000 in
theorem put16_no (A : Option Addr) (n c : Nat) (at_ m : Int) (w : World) (hn : n ≤ 140737488355328) (hi : inB n at_ 2 = false) :
    Calls Try.prog 26 #[.slice A n c, .int .i64 at_, .int .u16 m] w fun e w' => e = .returned (.bool false) ∧ w = w' := by
  go_enter Try.func26, Try.ntmps26
  go_wp2_with (first
    | (go_at_call 27; refine (width16 _).mono ?_; rintro e w' ⟨rfl, rfl⟩)
    | (go_at_call 28; refine (within_any _ _ _ _ _ _ hn (by omega) (by omega)).mono ?_; rintro e w' ⟨rfl, rfl⟩))
  go_ret
  exact ⟨rfl, rfl⟩
set_option maxHeartbeats 400000 in
theorem put16_yes {E : TypeId} (g n c : Nat) (a : Nat) (m : Int) (w : World) (B : Nat) (bs : List Int) (hown : w.ownsRow B E 1 (.slice (some ⟨g, 0, none⟩) n c) n (u8s bs))
   (hn : n ≤ 140737488355328) (hi : inB n a 2 = true) (hm : 0 ≤ m) :
    Calls Try.prog 26 #[.slice (some ⟨g, 0, none⟩) n c, .int .i64 a, .int .u16 m] w fun e w' => e = .returned (.bool true) ∧
      w'.ownsRow B E 1 (.slice (some ⟨g, 0, none⟩) n c) n (u8s (putI bs a 2 m)) ∧ w.grownBy w' (some g) := by
  have ha : a + 2 ≤ n := by have := inB_yes hi; omega
  have hlen : Hid (bs.length = n) := by have := hown.1; rw [u8s_len] at this; show _ = _; omega
  go_enter Try.func26, Try.ntmps26
  go_wp2_with (first
    | (go_at_call 27; refine (width16 _).mono ?_; rintro e w' ⟨rfl, rfl⟩)
    | (go_at_call 28; refine (within_any _ _ _ _ _ _ hn (by omega) (by omega)).mono ?_; rintro e w' ⟨rfl, rfl⟩))
  go_loopw [2, 8] (fun r i wr => ∃ k : Nat, ∃ m' : Int, ∃ bs' : List Int, 0 ≤ m' ∧ k ≤ 2 ∧ i = .int .i64 ((k : Int) - 1) ∧ r = .int .u16 m' ∧ wr.ownsRow B E 1 (.slice (some ⟨g, 0, none⟩) n c) n (u8s bs') ∧ bs'.length = n ∧ putI bs' a k m' = putI bs a 2 m ∧ w.grownBy wr (some g)) (fun _ i _ => (intOf i + 1).toNat)
  case atStart => exact ⟨2, m, bs, hm, by omega, rfl, rfl, hown, hlen.out, rfl, World.grownBy.refl _ _⟩
  case round =>
    obtain ⟨k, m', bs', hm', hk, rfl, rfl, hown', hlen', hput, hg⟩ := hrel
    have Hlen' := Lib.hid hlen'
    have Hput := Lib.hid hput
    have Hg := Lib.hid hg
    clear hlen' hput hg
    by_cases hlt : 1 ≤ k
    · have hc : wr.cell? ⟨g, a + (k - 1), none⟩ = some (.int .u8 (bs'.getD (a + (k - 1)) 0)) := by
        rw [hown'.cellAt _ (by omega)]; exact u8s_get _ _ (by have := Hlen'.out; omega)
      have hf : wr.frozen? ⟨g, a + (k - 1), none⟩ = false := hown'.frozenAt _
      have hst := hown'.stored (a + (k - 1)) (.int .u8 (m' % 256))
      rw [u8s_set] at hst
      have Hst := Lib.hid hst
      clear hst
      go_wp2
      go_roundw
      case rel =>
        refine ⟨k - 1, m' / 256, bs'.set (a + (k - 1)) (m' % 256), by omega, by omega, ?_, rfl, Hst.out.1, by rw [List.length_set]; exact Hlen'.out, ?_, grown_trans Hg.out Hst.out.2⟩
        · congr 1; omega
        · rw [← Hput.out]; obtain ⟨j, rfl⟩ : ∃ j, k = j + 1 := ⟨k - 1, by omega⟩; rfl
      case measure => simp [intOf]; omega
    · obtain rfl : k = 0 := by omega
      go_wp2
      go_ret
      exact ⟨rfl, by rw [← Hput.out]; exact hown', Hg.out⟩
theorem or_add (k a b : Nat) (h : b < 2 ^ k) : (a * 2 ^ k) ||| b = a * 2 ^ k + b := by
  rw [Nat.mul_comm, Nat.two_pow_add_eq_or_of_lt h]
theorem or_u16 (k P : Nat) (a b PI : Int) (hPI : PI = (P : Int)) (hP : P = 2 ^ k) (ha : 0 ≤ a) (hb : 0 ≤ b) (hb' : b < PI) (hs : a * PI + b < 65536) : bits BinOp.or IntKind.u16 (a * PI) b = a * PI + b := by
  subst hPI
  obtain ⟨a, rfl⟩ := Int.eq_ofNat_of_zero_le ha
  obtain ⟨b, rfl⟩ := Int.eq_ofNat_of_zero_le hb
  have h3 : (a : Int) * (P : Int) = ((a * P : Nat) : Int) := by push_cast; rfl
  rw [h3] at hs ⊢
  have h1 : b < 2 ^ k := by rw [← hP]; omega
  have h4 : (a * P) ||| b = a * P + b := by subst hP; exact or_add k a b h1
  rw [u16_or_nat _ _ (by omega) (by omega), h4]; push_cast; rfl
theorem ret_any {v v' : Value} (h : v = v') : Ending.returned v = .returned v' := by rw [h]
/-- a slice that reads as bytes, nil let in -/
def RdB (w : World) (A : Option Addr) (n : Nat) (bs : List Int) : Prop :=
  bs.length = n ∧ (0 < n → ∃ g off, A = some ⟨g, off, none⟩ ∧ ∀ j, j < n → w.cell? ⟨g, off + j, none⟩ = some (.int .u8 (bs.getD j 0)))
theorem RdB.of_own {w : World} {E B g n c : Nat} {bs : List Int} (h : w.ownsRow B E 1 (.slice (some ⟨g, 0, none⟩) n c) n (u8s bs)) : RdB w (some ⟨g, 0, none⟩) n bs := by
  have hl : bs.length = n := by have := h.1; rw [u8s_len] at this; omega
  exact ⟨hl, fun _ => ⟨g, 0, rfl, fun j hj => by rw [Nat.zero_add, h.cellAt j (by omega)]; exact u8s_get bs j (by omega)⟩⟩
theorem RdB.keep {w w' : World} {A : Option Addr} {n : Nat} {bs : List Int} (h : RdB w A n bs) (hk : ∀ p : Addr, (∀ ad, A = some ad → p.block = ad.block) → w'.cell? p = w.cell? p) : RdB w' A n bs :=
  ⟨h.1, fun hn => by
    obtain ⟨g, off, hA, hc⟩ := h.2 hn
    exact ⟨g, off, hA, fun j hj => by rw [hk _ (fun ad e => by rw [hA] at e; cases e; rfl)]; exact hc j hj⟩⟩
theorem RdB.drewN {w : World} {A : Option Addr} {n : Nat} {bs : List Int} (h : RdB w A n bs) (k : Nat) : RdB (w.drewN k) A n bs := h
theorem RdB.at_ {w : World} {A : Option Addr} {n : Nat} {bs : List Int} (h : RdB w A n bs) (hn : 0 < n) : ∃ g off, A = some ⟨g, off, none⟩ ∧ ∀ j, j < n → w.cell? ⟨g, off + j, none⟩ = some (.int .u8 (bs.getD j 0)) := h.2 hn
set_option maxHeartbeats 400000 in
theorem get16_no (A : Option Addr) (n c : Nat) (at_ : Int) (w : World) (hn : n ≤ 140737488355328) (hi : inB n at_ 2 = false) :
    Calls Try.prog 24 #[.slice A n c, .int .i64 at_] w fun e w' => e = .returned (.tuple #[.int .u16 0, .bool false]) ∧ w = w' := by
  go_enter Try.func24, Try.ntmps24
  go_wp2_with (first
    | (go_at_call 27; refine (width16 _).mono ?_; rintro e w' ⟨rfl, rfl⟩)
    | (go_at_call 28; refine (within_any _ _ _ _ _ _ hn (by omega) (by omega)).mono ?_; rintro e w' ⟨rfl, rfl⟩))
  go_ret2
  exact ⟨rfl, rfl⟩
theorem get16_step (bs : List Int) (hb : isBytes bs) (a k : Nat) (hk : k < 2) : bits BinOp.or IntKind.u16 (IntKind.u16.wrap (getI bs a k * 256)) (bs.getD (a + k) 0) = getI bs a (k + 1) := by
  have h1 := getI_bound hb a k
  have h2 := hb.getD (a + k)
  have h3 : ∀ k : Nat, k < 2 → (256 : Int) ^ k ≤ 256 := by decide
  have h4 := h3 k hk
  rw [IntKind.wrap_u16, Int.emod_eq_of_lt (by omega) (by omega), or_u16 8 256 _ _ 256 rfl (by decide) h1.1 h2.1 h2.2 (by omega), getI_succ]
set_option maxHeartbeats 400000 in
theorem get16_yes (A : Option Addr) (n c : Nat) (a : Nat) (w : World) (bs : List Int) (hr : RdB w A n bs) (hb : isBytes bs)
   (hn : n ≤ 140737488355328) (hi : inB n a 2 = true) :
    Calls Try.prog 24 #[.slice A n c, .int .i64 a] w fun e w' => e = .returned (.tuple #[.int .u16 (getI bs a 2), .bool true]) ∧ w = w' := by
  have ha : a + 2 ≤ n := by have := inB_yes hi; omega
  obtain ⟨g, off, rfl, hcell⟩ := hr.at_ (by omega)
  have Hcell := Lib.hid hcell
  clear hr hcell
  go_enter Try.func24, Try.ntmps24
  go_wp2_with (first
    | (go_at_call 27; refine (width16 _).mono ?_; rintro e w' ⟨rfl, rfl⟩)
    | (go_at_call 28; refine (within_any _ _ _ _ _ _ hn (by omega) (by omega)).mono ?_; rintro e w' ⟨rfl, rfl⟩))
  go_loop [7, 16] (fun r i => ∃ k : Nat, k ≤ 2 ∧ i = .int .i64 k ∧ r = .int .u16 (getI bs a k)) (fun _ i => 2 - (intOf i).toNat)
  case atStart => exact ⟨0, by omega, rfl, rfl⟩
  case round =>
    obtain ⟨k, hk, rfl, rfl⟩ := hrel
    by_cases hlt : k < 2
    · have hc : w.cell? ⟨g, off + (a + k), none⟩ = some (.int .u8 (bs.getD (a + k) 0)) := Hcell.out (a + k) (by omega)
      have hst := Lib.hid (get16_step bs hb a k hlt)
      have hbb := hb.getD (a + k)
      have hg := getI_bound hb a k
      generalize hx : bs.getD (a + k) 0 = x at *
      have Hx := Lib.hid hx
      clear hx
      go_wp2
      go_round
      case rel => exact ⟨k + 1, by omega, by go_num, by rw [← hst.out]⟩
      case measure => simp [intOf]; omega
    · obtain rfl : k = 2 := by omega
      go_wp2
      go_ret2
      exact ⟨rfl, rfl⟩
/-- a bool's ending, its value named -/
theorem ret_bool {a b : Bool} (h : a = b) : Ending.returned (.bool a) = .returned (.bool b) := by rw [h]
theorem owns_base {w : World} {B B' : Nat} {e : TypeId} {s : Nat} {v : Value} {n : Nat} {xs : List Value} (h : w.ownsRow B e s v n xs) (hB : B' ≤ B) : w.ownsRow B' e s v n xs :=
  ⟨h.1, h.2.imp id fun ⟨g, cap, cur, a, b, r⟩ => ⟨g, cap, cur, a, by omega, r⟩⟩
/-- what a number's writing leaves, at any place -/
def putAt (bs : List Int) (at_ : Int) (wd : Nat) (m : Int) : List Int := if inB bs.length at_ wd = true then putI bs at_.toNat wd m else bs
/-- the number at any place -/
def getAt (bs : List Int) (at_ : Int) (wd : Nat) : Int := if inB bs.length at_ wd = true then getI bs at_.toNat wd else 0
theorem putAt_len (bs : List Int) (at_ : Int) (wd : Nat) (m : Int) : (putAt bs at_ wd m).length = bs.length := by
  unfold putAt; split
  · exact putI_len _ _ _ _
  · rfl
theorem isBytes.putAt {bs : List Int} (h : isBytes bs) (at_ : Int) (wd : Nat) (m : Int) : isBytes (putAt bs at_ wd m) := by
  unfold Ythghaagmpneemaa.putAt; split
  · exact isBytes.putI _ _ _ h
  · exact h
/-- a row of bytes at the head of block g -/
def Row (w : World) (g n c : Nat) (bs : List Int) : Prop := ∃ E : TypeId, w.ownsRow 0 E 1 (.slice (some ⟨g, 0, none⟩) n c) n (u8s bs)
theorem Row.len {w : World} {g n c : Nat} {bs : List Int} (h : Row w g n c bs) : bs.length = n := by obtain ⟨E, h⟩ := h; have := h.1; rw [u8s_len] at this; omega
theorem Row.reads {w : World} {g n c : Nat} {bs : List Int} (h : Row w g n c bs) : RdB w (some ⟨g, 0, none⟩) n bs := by obtain ⟨E, h⟩ := h; exact RdB.of_own h
theorem Row.lt {w : World} {g n c : Nat} {bs : List Int} (h : Row w g n c bs) : g < w.heap.size := by obtain ⟨E, h⟩ := h; exact (World.ownsRow.lt h g rfl).2
theorem Row.kept {w w' : World} {g n c g' : Nat} {bs : List Int} (h : Row w g n c bs) (hg : w.grownBy w' (some g')) (hne : g ≠ g') : Row w' g n c bs := by
  obtain ⟨E, h⟩ := h
  exact ⟨E, h.kept hg (.inr (fun e => hne (by cases e; rfl)))⟩
theorem Row.drewN {w : World} {g n c : Nat} {bs : List Int} (h : Row w g n c bs) (k : Nat) : Row (w.drewN k) g n c bs := h
theorem below_grown {B : Nat} {a w w' : World} {g : Nat} (h : Below B a w) (hg : w.grownBy w' (some g)) (hB : B ≤ w.heap.size) (hr : B ≤ g) : Below B a w' :=
  h.grown hg hB (fun k hk => by cases hk; exact hr)
set_option maxHeartbeats 400000 in
theorem Put16_any (g n c : Nat) (at_ m : Int) (w : World) (bs : List Int) (hown : Row w g n c bs) (hn : n ≤ 140737488355328) (hm : 0 ≤ m) :
    Calls Try.prog 23 #[.slice (some ⟨g, 0, none⟩) n c, .int .i64 at_, .int .u16 m] w fun e w' => e = .returned (.bool (inB n at_ 2)) ∧ Row w' g n c (putAt bs at_ 2 m) ∧ w.grownBy w' (some g) := by
  have hl := hown.len
  obtain ⟨E, hown⟩ := hown
  by_cases hi : inB n at_ 2 = true
  · obtain ⟨a, rfl⟩ := Int.eq_ofNat_of_zero_le (inB_yes hi).1
    have e1 : Hid (putAt bs a 2 m = putI bs a 2 m) := by show _ = _; unfold putAt; rw [hl]; exact (if_pos hi).trans (by simp)
    have Hl := Lib.hid hl
    clear hl
    have Hi := Lib.hid hi
    clear hi
    go_enter Try.func23, Try.ntmps23
    go_wp2_with (go_at_call 26; refine (put16_yes _ _ _ _ _ _ 0 bs hown hn Hi.out hm).mono ?_; rintro e w' ⟨rfl, h1, h2⟩)
    go_ret
    refine ⟨ret_bool Hi.out.symm, ?_, h2⟩
    rw [e1.out]; exact ⟨E, h1⟩
  · have hi' : inB n at_ 2 = false := by simpa using hi
    have e1 : Hid (putAt bs at_ 2 m = bs) := by show _ = _; unfold putAt; rw [hl]; exact if_neg hi
    have Hi := Lib.hid hi'
    clear hi hi' hl
    go_enter Try.func23, Try.ntmps23
    go_wp2_with (go_at_call 26; refine (put16_no _ _ _ _ _ _ hn Hi.out).mono ?_; rintro e w' ⟨rfl, rfl⟩)
    go_ret
    refine ⟨ret_bool Hi.out.symm, ?_, World.grownBy.refl _ _⟩
    rw [e1.out]; exact ⟨E, hown⟩
set_option maxHeartbeats 400000 in
theorem Put16_nil (at_ m : Int) (w : World) :
    Calls Try.prog 23 #[.slice none 0 0, .int .i64 at_, .int .u16 m] w fun e w' => e = .returned (.bool false) ∧ w = w' := by
  have hi : inB 0 at_ 2 = false := by
    unfold inB; exact decide_eq_false (by omega)
  have Hi := Lib.hid hi
  clear hi
  go_enter Try.func23, Try.ntmps23
  go_wp2_with (go_at_call 26; refine (put16_no _ _ _ _ _ _ (by omega) Hi.out).mono ?_; rintro e w' ⟨rfl, rfl⟩)
  go_ret
  exact ⟨rfl, rfl⟩
theorem getAt_yes16 {bs : List Int} {n : Nat} {at_ : Int} (hl : bs.length = n) (hi : inB n at_ 2 = true) : getAt bs at_ 2 = getI bs at_.toNat 2 := by unfold getAt; rw [hl]; exact if_pos hi
theorem getAt_no16 {bs : List Int} {n : Nat} {at_ : Int} (hl : bs.length = n) (hi : inB n at_ 2 = false) : getAt bs at_ 2 = 0 := by unfold getAt; rw [hl]; exact if_neg (by have h := hi; intro h2; rw [show inB n at_ 2 = true from h2] at h; cases h)
set_option maxHeartbeats 400000 in
theorem Get16_any (A : Option Addr) (n c : Nat) (at_ : Int) (w : World) (bs : List Int) (hr : RdB w A n bs) (hb : isBytes bs) (hn : n ≤ 140737488355328) :
    Calls Try.prog 17 #[.slice A n c, .int .i64 at_] w fun e w' => e = .returned (.tuple #[.int .u16 (getAt bs at_ 2), .bool (inB n at_ 2)]) ∧ w = w' := by
  have hl := hr.1
  by_cases hi : inB n at_ 2 = true
  · obtain ⟨a, rfl⟩ := Int.eq_ofNat_of_zero_le (inB_yes hi).1
    have e1 := Lib.hid (getAt_yes16 hl hi)
    have Hi := Lib.hid hi
    clear hi hl
    go_enter Try.func17, Try.ntmps17
    go_wp2_with (go_at_call 24; refine (get16_yes _ _ _ _ _ bs hr hb hn Hi.out).mono ?_; rintro e w' ⟨rfl, rfl⟩)
    go_ret2
    exact ⟨ret_any (by rw [e1.out, Hi.out]; rfl), rfl⟩
  · have hi' : inB n at_ 2 = false := by simpa using hi
    have e1 := Lib.hid (getAt_no16 hl hi')
    have Hi := Lib.hid hi'
    clear hi hi' hl
    go_enter Try.func17, Try.ntmps17
    go_wp2_with (go_at_call 24; refine (get16_no _ _ _ _ _ hn Hi.out).mono ?_; rintro e w' ⟨rfl, rfl⟩)
    go_ret2
    exact ⟨ret_any (by rw [e1.out, Hi.out]; rfl), rfl⟩
end Go.Proofs.Ythghaagmpneemaa
