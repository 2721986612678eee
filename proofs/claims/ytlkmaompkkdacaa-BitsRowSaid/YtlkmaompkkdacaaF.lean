/- Bytes of the call's own, and that a number cut to its width is put as the number itself. -/
import Derived.Test.YtlkmaompkkdacaaE
namespace Go.Proofs.Ytlkmaompkkdacaa
open Go.ChangeShapes Go.WideShapes Go.ChangeAt Go.RowKit

theorem own_row (A : Option Addr) (n c : Nat) (bs : List Int) (w : World) (hr : RdB w A n bs) (hn : n ≤ 1048576) (hA : A = none → c = 0) :
    Calls Try.prog 20 #[.slice A n c] w fun e w' => ∃ g c', e = .returned (.slice (some ⟨g, 0, none⟩) n c') ∧ w.heap.size ≤ g ∧ Row w' g n c' bs ∧ Below w.heap.size w w' := by
  refine (own_any A n c bs w hr hn hA (fun ad e hn => ?_)).mono ?_
  · obtain ⟨g, off, hA', hc⟩ := hr.at_ hn
    rw [e] at hA'
    cases hA'
    exact block_lt_of_cell (hc 0 hn)
  · rintro e w' ⟨v, rfl, ⟨g, c', rfl, h1, h2, h3⟩, hb⟩
    exact ⟨g, c', rfl, h1, h3, hb⟩

theorem putI_mod (a : Nat) : ∀ (k : Nat) (bs : List Int) (m : Int), putI bs a k (m % 256 ^ k) = putI bs a k m
  | 0, _, _ => rfl
  | k + 1, bs, m => by
    have hp : (256 : Int) ^ (k + 1) = 256 ^ k * 256 := Int.pow_succ 256 k
    have h1 : m % 256 ^ (k + 1) % 256 = m % 256 := by rw [hp]; exact Int.emod_emod_of_dvd m (Int.dvd_mul_left _ _)
    have h2 : m % 256 ^ (k + 1) / 256 = m / 256 % 256 ^ k := by
      have hP : (0 : Int) < 256 ^ k := Int.pow_pos (by omega)
      rw [hp, Int.mul_comm, Int.emod_def, Int.emod_def, ← Int.ediv_ediv_of_nonneg (by omega : (0 : Int) ≤ 256)]
      rw [show m - 256 * 256 ^ k * (m / 256 / 256 ^ k) = m + 256 * (-(256 ^ k * (m / 256 / 256 ^ k))) from by rw [Int.mul_assoc, Int.mul_neg]; omega]
      rw [Int.add_mul_ediv_left _ _ (by omega)]; omega
    rw [putI_succ, putI_succ, h1, h2, putI_mod a k]
theorem putAt_mod2 (bs : List Int) (at_ m : Int) : putAt bs at_ 2 (m % 65536) = putAt bs at_ 2 m := by
  unfold putAt; rw [show (65536 : Int) = 256 ^ 2 from by decide, putI_mod]
theorem putAt_wrap2 (bs : List Int) (at_ m : Int) : putAt bs at_ 2 (IntKind.u16.wrap m) = putAt bs at_ 2 m := by rw [IntKind.wrap_u16, putAt_mod2]
theorem wrap16_nn (m : Int) : 0 ≤ IntKind.u16.wrap m := by rw [IntKind.wrap_u16]; omega
theorem putAt_mod4 (bs : List Int) (at_ m : Int) : putAt bs at_ 4 (m % 4294967296) = putAt bs at_ 4 m := by
  unfold putAt; rw [show (4294967296 : Int) = 256 ^ 4 from by decide, putI_mod]

theorem rPut2 (g n c : Nat) (at_ m : Int) (w : World) (bs : List Int) (hown : Row w g n c bs) (hn : n ≤ 140737488355328) (hm : 0 ≤ m) (hm2 : m ≤ 18446744073709551615) :
    Calls Try.prog 21 #[.slice (some ⟨g, 0, none⟩) n c, .int .i64 at_, .int .i64 2, .int .u64 m] w fun e w' => e = .returned (.bool (inB n at_ 2)) ∧ Row w' g n c (putAt bs at_ 2 m) ∧ w.grownBy w' (some g) :=
  rPut_any g n c 2 at_ m w bs hown hn (by omega) hm hm2
theorem rGet2 (A : Option Addr) (n c : Nat) (at_ : Int) (w : World) (bs : List Int) (hr : RdB w A n bs) (hb : isBytes bs) (hn : n ≤ 140737488355328) :
    Calls Try.prog 23 #[.slice A n c, .int .i64 at_, .int .i64 2] w fun e w' => e = .returned (.tuple #[.int .u64 (getAt bs at_ 2), .bool (inB n at_ 2)]) ∧ w = w' :=
  rGet_any A n c 2 at_ w bs hr hb hn (by omega) (by omega)

theorem rPut4 (g n c : Nat) (at_ m : Int) (w : World) (bs : List Int) (hown : Row w g n c bs) (hn : n ≤ 140737488355328) (hm : 0 ≤ m) (hm2 : m ≤ 18446744073709551615) :
    Calls Try.prog 21 #[.slice (some ⟨g, 0, none⟩) n c, .int .i64 at_, .int .i64 4, .int .u64 m] w fun e w' => e = .returned (.bool (inB n at_ 4)) ∧ Row w' g n c (putAt bs at_ 4 m) ∧ w.grownBy w' (some g) :=
  rPut_any g n c 4 at_ m w bs hown hn (by omega) hm hm2
theorem rGet4 (A : Option Addr) (n c : Nat) (at_ : Int) (w : World) (bs : List Int) (hr : RdB w A n bs) (hb : isBytes bs) (hn : n ≤ 140737488355328) :
    Calls Try.prog 23 #[.slice A n c, .int .i64 at_, .int .i64 4] w fun e w' => e = .returned (.tuple #[.int .u64 (getAt bs at_ 4), .bool (inB n at_ 4)]) ∧ w = w' :=
  rGet_any A n c 4 at_ w bs hr hb hn (by omega) (by omega)

theorem rPut8 (g n c : Nat) (at_ m : Int) (w : World) (bs : List Int) (hown : Row w g n c bs) (hn : n ≤ 140737488355328) (hm : 0 ≤ m) (hm2 : m ≤ 18446744073709551615) :
    Calls Try.prog 21 #[.slice (some ⟨g, 0, none⟩) n c, .int .i64 at_, .int .i64 8, .int .u64 m] w fun e w' => e = .returned (.bool (inB n at_ 8)) ∧ Row w' g n c (putAt bs at_ 8 m) ∧ w.grownBy w' (some g) :=
  rPut_any g n c 8 at_ m w bs hown hn (by omega) hm hm2
theorem rGet8 (A : Option Addr) (n c : Nat) (at_ : Int) (w : World) (bs : List Int) (hr : RdB w A n bs) (hb : isBytes bs) (hn : n ≤ 140737488355328) :
    Calls Try.prog 23 #[.slice A n c, .int .i64 at_, .int .i64 8] w fun e w' => e = .returned (.tuple #[.int .u64 (getAt bs at_ 8), .bool (inB n at_ 8)]) ∧ w = w' :=
  rGet_any A n c 8 at_ w bs hr hb hn (by omega) (by omega)

theorem getAt_bound (bs : List Int) (ib : isBytes bs) (at_ : Int) (wd : Nat) : 0 ≤ getAt bs at_ wd ∧ getAt bs at_ wd < 256 ^ wd := by
  unfold getAt
  split
  · exact getI_bound ib _ _
  · exact ⟨Int.le_refl _, Int.pow_pos (by omega)⟩
/-- a world of the same memory -/
structure SameW (w w' : World) : Prop where
  heap : w'.heap = w.heap
  os : w'.os = w.os
  tape : w'.tape = w.tape
  output : w'.output = w.output
theorem SameW.row {w w' : World} {g n c : Nat} {bs : List Int} (h : SameW w w') (r : Row w g n c bs) : Row w' g n c bs := by
  unfold Row World.ownsRow at *
  rw [h.heap]; exact r
theorem SameW.below {w w' a : World} {B : Nat} (h : SameW w w') (b : Below B a w) : Below B a w' :=
  b.trans ⟨h.os, h.tape, h.output, by rw [h.heap]; exact Nat.le_refl _, fun k _ => by rw [h.heap]⟩
theorem bytes_eq (A A' : Option Addr) (n m c c' : Nat) (xs ys : List Int) (w : World) (hx : RdB w A n xs) (hy : RdB w A' m ys) (hn : n ≤ 140737488355328) (hm : m ≤ 140737488355328) (b : Bool) (hb : eqB xs ys = b) :
    Calls Try.prog 14 #[.slice A n c, .slice A' m c'] w fun e w' => e = .returned (.bool b) ∧ SameW w w' := by
  refine (bytes_any A A' n m c c' xs ys w hx hy hn hm).mono ?_
  rintro e w' ⟨rfl, d, rfl⟩
  exact ⟨by rw [hb], rfl, rfl, rfl, rfl⟩
theorem drew_below {B : Nat} {a w : World} (h : Below B a w) (d : Nat) : Below B a (w.drewN d) := h.trans ⟨rfl, rfl, rfl, Nat.le_refl _, fun _ _ => rfl⟩
end Go.Proofs.Ytlkmaompkkdacaa
