/- Get16 and Put16 on a slot of a page. -/
import Derived.Test.YtbnbhhmgfogjeaaJC
import Derived.Laws.BitsAllLaws
import Derived.LoopTactic
namespace Go.Proofs.Ytbnbhhmgfogjeaa
open Go.ChangeShapes Go.WideShapes Go.ChangeAt Go.RowKit Go.Maps
set_option linter.unusedVariables false
set_option linter.unusedSimpArgs false

/-- a number put into bytes, k bytes from a place on, the last one first -/
def putI (bs : List Int) (a : Nat) : Nat → Int → List Int
  | 0, _ => bs
  | k + 1, m => putI (bs.set (a + k) (m % 256)) a k (m / 256)
theorem putI_succ (bs : List Int) (a k : Nat) (m : Int) : putI bs a (k + 1) m = putI (bs.set (a + k) (m % 256)) a k (m / 256) := rfl
theorem putI_len (a : Nat) : ∀ (k : Nat) (bs : List Int) (m : Int), (putI bs a k m).length = bs.length
  | 0, _, _ => rfl
  | k + 1, bs, m => by rw [putI, putI_len a k]; simp
/-- the number of k bytes from a place on -/
def getI (bs : List Int) (a : Nat) : Nat → Int
  | 0 => 0
  | k + 1 => getI bs a k * 256 + bs.getD (a + k) 0
theorem getI_succ (bs : List Int) (a k : Nat) : getI bs a (k + 1) = getI bs a k * 256 + bs.getD (a + k) 0 := rfl
/-- each is a byte -/
def isBytes (bs : List Int) : Prop := ∀ i, i < bs.length → 0 ≤ bs.getD i 0 ∧ bs.getD i 0 < 256
theorem isBytes.getD {bs : List Int} (h : isBytes bs) (i : Nat) : 0 ≤ bs.getD i 0 ∧ bs.getD i 0 < 256 := by
  by_cases hi : i < bs.length
  · exact h i hi
  · rw [List.getD_eq_getElem?_getD, List.getElem?_eq_none (by omega)]; simp
theorem isBytes.set {bs : List Int} (h : isBytes bs) (i : Nat) (m : Int) : isBytes (bs.set i (m % 256)) := by
  intro j hj
  rw [List.getD_eq_getElem?_getD, List.getElem?_set]
  by_cases e : i = j
  · subst e
    rw [if_pos rfl, if_pos (by simpa using hj)]
    simp only [Option.getD_some]; omega
  · rw [if_neg e, ← List.getD_eq_getElem?_getD]; exact h.getD j
theorem isBytes.putI {a : Nat} : ∀ (k : Nat) (bs : List Int) (m : Int), isBytes bs → isBytes (putI bs a k m)
  | 0, _, _, h => h
  | k + 1, bs, m, h => by rw [putI_succ]; exact isBytes.putI k _ _ (h.set _ _)
theorem getI_bound {bs : List Int} (h : isBytes bs) (a : Nat) : ∀ k, 0 ≤ getI bs a k ∧ getI bs a k < 256 ^ k
  | 0 => by simp [getI]
  | k + 1 => by
    have ih := getI_bound h a k
    have hb := h.getD (a + k)
    have hp : (256 : Int) ^ (k + 1) = 256 ^ k * 256 := Int.pow_succ 256 k
    rw [getI_succ]; omega

/-- what is left of a number of k bytes' ones -/
def ones (k : Nat) : Int := 256 ^ k - 1
theorem ones_div (k : Nat) : ones (k + 1) / 256 = ones k := by
  unfold ones
  have h : (256 : Int) ^ (k + 1) = 256 ^ k * 256 := Int.pow_succ 256 k
  omega
theorem ones_pos (k : Nat) (h : 0 < k) : 0 < ones k := by
  obtain ⟨j, rfl⟩ : ∃ j, k = j + 1 := ⟨k - 1, by omega⟩
  unfold ones
  have h : (256 : Int) ^ (j + 1) = 256 ^ j * 256 := Int.pow_succ 256 j
  have h2 : (0 : Int) < 256 ^ j := Int.pow_pos (by omega)
  omega
theorem ones2 : bits BinOp.xor IntKind.u16 IntKind.u16.max 0 = ones (2 - 0) := by decide

theorem or_add (k a b : Nat) (h : b < 2 ^ k) : (a * 2 ^ k) ||| b = a * 2 ^ k + b := by
  rw [Nat.mul_comm, Nat.two_pow_add_eq_or_of_lt h]
theorem or_u16 (k P : Nat) (a b PI : Int) (hPI : PI = (P : Int)) (hP : P = 2 ^ k) (ha : 0 ≤ a) (hb : 0 ≤ b) (hb' : b < PI) (hs : a * PI + b < 65536) : bits BinOp.or IntKind.u16 (a * PI) b = a * PI + b := by
  subst hPI
  obtain ⟨a, rfl⟩ := Int.eq_ofNat_of_zero_le ha
  obtain ⟨b, rfl⟩ := Int.eq_ofNat_of_zero_le hb
  have h3 : (a : Int) * (P : Int) = ((a * P : Nat) : Int) := by push_cast; rfl
  rw [h3] at hs ⊢
  have h1 : b < 2 ^ k := by rw [← hP]; omega
  have h4 : (a * P) ||| b = a * P + b := by subst hP; exact or_add k a b h1
  rw [u16_or_nat _ _ (by omega) (by omega), h4]; push_cast; rfl
theorem get16_step (bs : List Int) (hb : isBytes bs) (a k : Nat) (hk : k < 2) : bits BinOp.or IntKind.u16 (IntKind.u16.wrap (getI bs a k * 256)) (bs.getD (a + k) 0) = getI bs a (k + 1) := by
  have h1 := getI_bound hb a k
  have h2 := hb.getD (a + k)
  have h3 : ∀ k : Nat, k < 2 → (256 : Int) ^ k ≤ 256 := by decide
  have h4 := h3 k hk
  rw [IntKind.wrap_u16, Int.emod_eq_of_lt (by omega) (by omega), or_u16 8 256 _ _ 256 rfl (by decide) h1.1 h2.1 h2.2 (by omega), getI_succ]

set_option maxRecDepth 100000 in
set_option maxHeartbeats 4000000 in
theorem width16 (w : World) : Calls Try.prog 69 #[] w fun e w' => e = .returned (.int .i64 2) ∧ w = w' := by
  go_enter Try.func69, Try.ntmps69
  go_wp2
  go_loop [1, 2] (fun b r => ∃ k : Nat, k ≤ 2 ∧ b = .int .i64 k ∧ r = .int .u16 (ones (2 - k))) (fun b _ => 2 - (intOf b).toNat)
  case atStart => exact ⟨0, by omega, rfl, by rw [ones2]⟩
  case round =>
    obtain ⟨k, hk, rfl, rfl⟩ := hrel
    by_cases hlt : k < 2
    · have hp : 0 < ones (2 - k) := ones_pos _ (by omega)
      have hd : Hid (ones (2 - k) / 256 = ones (2 - (k + 1))) := by
        have := ones_div (2 - (k + 1)); rw [← this]; show _ = _; congr 2; omega
      go_wp2
      go_round
      case rel => exact ⟨k + 1, by omega, by go_num, by rw [hd.out]⟩
      case measure => simp [intOf]; omega
    · obtain rfl : k = 2 := by omega
      have hp : ones (2 - 2) ≤ 0 := by decide
      go_wp2
      go_ret
      exact ⟨rfl, rfl⟩

/-- is a place of k bytes within n bytes? -/
def inB (n : Nat) (at_ k : Int) : Bool := decide (0 ≤ at_ ∧ at_ ≤ n - k)
theorem inB_yes {n : Nat} {at_ k : Int} (h : inB n at_ k = true) : 0 ≤ at_ ∧ at_ ≤ n - k := by simpa [inB] using h
theorem inB_no {n : Nat} {at_ k : Int} (h : inB n at_ k = false) : ¬ (0 ≤ at_ ∧ at_ ≤ n - k) := by
  unfold inB at h; exact of_decide_eq_false h

set_option maxRecDepth 100000 in
set_option maxHeartbeats 4000000 in
theorem within_any (A : Option Addr) (n c : Nat) (at_ k : Int) (w : World) (hn : n ≤ 140737488355328) (h1 : 0 ≤ k) (h2 : k ≤ 8) :
    Calls Try.prog 70 #[.slice A n c, .int .i64 at_, .int .i64 k] w fun e w' => e = .returned (.bool (inB n at_ k)) ∧ w = w' := by
  have hv : ∀ b : Bool, b = inB n at_ k → Ending.returned (.bool b) = .returned (.bool (inB n at_ k)) := fun b h => by rw [h]
  go_enter Try.func70, Try.ntmps70
  go_wp2
  all_goals go_ret
  · refine ⟨hv _ ?_, rfl⟩
    unfold inB; rw [decide_eq_decide]; omega
  · refine ⟨hv _ ?_, rfl⟩
    unfold inB; rw [eq_comm, decide_eq_false_iff_not]; omega

theorem pg_set (slot fresh last : Int) (b : Nat) (bs : List Int) (j : Nat) (x : Int) : (pgv slot fresh last b bs).toArray.setIfInBounds (4 + j) (.int .u8 x) = (pgv slot fresh last b (bs.set j x)).toArray := by
  rw [show 4 + j = j + 4 from by omega]
  unfold pgv
  simp [List.set_cons_succ, by8, List.map_set]
theorem PgAt.setb {W : World} {B p b : Nat} {slot fresh last : Int} {C bs : List Int} (h : PgAt W B p b slot fresh last C bs) (j : Nat) (x : Int) : PgAt (W.setCell ⟨p, 4 + j, none⟩ (.int .u8 x)) B p b slot fresh last C (bs.set j x) :=
  ⟨h.hp, by rw [← pg_set]; exact h.blk.set (j := 4 + j) _, ⟨h.own.1, h.own.2.kept (grown_set W p (4 + j) _) (fun e => h.ne (Option.some.inj e).symm)⟩, h.ok, by rw [List.length_set]; exact h.len⟩
set_option maxRecDepth 100000 in
set_option maxHeartbeats 4000000 in
theorem get_any (B p b : Nat) (s o : Nat) (slot fresh last : Int) (C bs : List Int) (w : World) (h : PgAt w B p b slot fresh last C bs) (hb : isBytes bs) (hs : 2 ≤ s) (ho : o + s ≤ 4096) : Calls Try.prog 68 #[.slice (some ⟨p, 4 + o, none⟩) s (4096 - o), .int .i64 0] w fun e w' => e = .returned (.tuple #[.int .u16 (getI bs o 2), .bool true]) ∧ w = w' := by
  have hi : inB s 0 2 = true := by unfold inB; rw [decide_eq_true_eq]; omega
  have HC : Hid (∀ k, k < 2 → w.cell? ⟨p, 4 + o + k, none⟩ = some (.int .u8 (bs.getD (o + k) 0))) := fun k hk => by
    have := h.cb (j := o + k) (by have := h.len; omega)
    rwa [show 4 + (o + k) = 4 + o + k from by omega] at this
  have HI := Lib.hid hi
  clear h hi
  go_enter Try.func68, Try.ntmps68
  go_wp2_with (first
    | (go_at_call 69; refine (width16 _).mono ?_; rintro e w' ⟨rfl, rfl⟩)
    | (go_at_call 70; refine (within_any _ _ _ _ _ _ (by omega) (by omega) (by omega)).mono ?_; rintro e w' ⟨rfl, rfl⟩; rw [HI.out]))
  go_loop [7, 16] (fun r i => ∃ k : Nat, k ≤ 2 ∧ i = .int .i64 k ∧ r = .int .u16 (getI bs o k)) (fun _ i => 2 - (intOf i).toNat)
  case atStart => exact ⟨0, by omega, rfl, rfl⟩
  case round =>
    obtain ⟨k, hk, rfl, rfl⟩ := hrel
    by_cases hlt : k < 2
    · have hc := HC.out k hlt
      have hst := Lib.hid (get16_step bs hb o k hlt)
      have hbb := hb.getD (o + k)
      have hg := getI_bound hb o k
      generalize hx : bs.getD (o + k) 0 = x at *
      have Hx := Lib.hid hx
      clear hx
      go_wp2
      go_round
      case rel => exact ⟨k + 1, by omega, by go_num, by rw [← hst.out]⟩
      case measure => simp [intOf]; omega
    · obtain rfl : k = 2 := by omega
      go_wp2
      go_ret2
      exact ⟨rfl, rfl⟩
end Go.Proofs.Ytbnbhhmgfogjeaa
