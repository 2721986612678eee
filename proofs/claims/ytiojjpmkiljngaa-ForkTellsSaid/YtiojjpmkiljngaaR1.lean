/-
ForkTells holds for every two nodes, key, kid, fan, mode, whether the root.
-/
import Derived.Test.YtiojjpmkiljngaaP
import Derived.Test.YtiojjpmkiljngaaL
import Derived.Test.YtiojjpmkiljngaaM
import Derived.Test.YtiojjpmkiljngaaG
import Derived.Test.YtiojjpmkiljngaaN
namespace Go.Proofs.Ytiojjpmkiljngaa.forkTells
open Go.ChangeShapes Go.WideShapes Go.ChangeAt Go.RowKit Go.ChangeMaps
set_option linter.unusedVariables false
set_option linter.unusedSimpArgs false

theorem own : ownKnob Try.prog.godebug = none := by kernel_rfl
theorem laidOut : laidOutB Try.prog = true := by kernel_rfl

def pT (i : Nat) : Nat := 1
def qT (i : Nat) : Nat := 3
def rT (i : Nat) : Nat := 4
def lTq : List Nat := [0, 2]
def lT (i j k : Nat) : Array Bool := (Array.range 7).map fun o => lTq.contains o || (o == 1 && decide (1 ≤ i)) || (o == 3 && decide (1 ≤ j)) || (o == 4 && decide (1 ≤ k))
/-- the four variables, and the three nodes -/
structure StT (lf : Bool) (A B C : Option Addr) (n c m d k e : Nat) (xs : List ByteArray) (ks rs : List Int) (lf' : Bool) (A' B' C' : Option Addr) (n' c' m' d' k' e' : Nat) (ys : List ByteArray) (js ss : List Int) (A9 B9 C9 : Option Addr) (c9 d9 e9 g h : Nat) (w W : World) : Prop where
  b : Below w.heap.size w W
  c0 : C4 W w.heap.size (.bool lf) (.slice A n c) (.slice B m d) (.slice C k e)
  c1 : C4 W (w.heap.size + 1) (.bool lf') (.slice A' n' c') (.slice B' m' d') (.slice C' k' e')
  c2 : C4 W g (.bool lf) (.slice A9 n c9) (.slice B9 m d9) (.slice C9 k e9)
  c3 : C4 W h (.bool lf) (.slice A n c) (.slice B m d) (.slice C k e)
  n_ : Nd W A B C n c m d k e xs ks rs
  o_ : Nd W A' B' C' n' c' m' d' k' e' ys js ss
  in_ : Nd W A9 B9 C9 n c9 m d9 k e9 xs ks rs
theorem StT.later {lf : Bool} {A B C : Option Addr} {n c m d k e : Nat} {xs : List ByteArray} {ks rs : List Int} {lf' : Bool} {A' B' C' : Option Addr} {n' c' m' d' k' e' : Nat} {ys : List ByteArray} {js ss : List Int} {A9 B9 C9 : Option Addr} {c9 d9 e9 g h : Nat} {w W W' : World} (s : (StT lf A B C n c m d k e xs ks rs lf' A' B' C' n' c' m' d' k' e' ys js ss A9 B9 C9 c9 d9 e9 g h w) W) (hb : Below W.heap.size W W') : (StT lf A B C n c m d k e xs ks rs lf' A' B' C' n' c' m' d' k' e' ys js ss A9 B9 C9 c9 d9 e9 g h w) W' :=
  ⟨stepB s.b hb, s.c0.later hb, s.c1.later hb, s.c2.later hb, s.c3.later hb, s.n_.later hb, s.o_.later hb, s.in_.later hb⟩
theorem StT.cells {lf : Bool} {A B C : Option Addr} {n c m d k e : Nat} {xs : List ByteArray} {ks rs : List Int} {lf' : Bool} {A' B' C' : Option Addr} {n' c' m' d' k' e' : Nat} {ys : List ByteArray} {js ss : List Int} {A9 B9 C9 : Option Addr} {c9 d9 e9 g h : Nat} {w W : World} (s : (StT lf A B C n c m d k e xs ks rs lf' A' B' C' n' c' m' d' k' e' ys js ss A9 B9 C9 c9 d9 e9 g h w) W) : C4 W w.heap.size (.bool lf) (.slice A n c) (.slice B m d) (.slice C k e) ∧ C4 W (w.heap.size + 1) (.bool lf') (.slice A' n' c') (.slice B' m' d') (.slice C' k' e') ∧ C4 W g (.bool lf) (.slice A9 n c9) (.slice B9 m d9) (.slice C9 k e9) ∧ C4 W h (.bool lf) (.slice A n c) (.slice B m d) (.slice C k e) := ⟨s.c0, s.c1, s.c2, s.c3⟩
abbrev SxT (lf : Bool) (A B C : Option Addr) (n c m d k e : Nat) (xs : List ByteArray) (ks rs : List Int) (lf' : Bool) (A' B' C' : Option Addr) (n' c' m' d' k' e' : Nat) (ys : List ByteArray) (js ss : List Int) (A9 B9 C9 : Option Addr) (c9 d9 e9 g h : Nat) (w W : World) : Prop := (StT lf A B C n c m d k e xs ks rs lf' A' B' C' n' c' m' d' k' e' ys js ss A9 B9 C9 c9 d9 e9 g h w) W ∧ C4 W w.heap.size (.bool lf) (.slice A n c) (.slice B m d) (.slice C k e) ∧ C4 W (w.heap.size + 1) (.bool lf') (.slice A' n' c') (.slice B' m' d') (.slice C' k' e') ∧ C4 W g (.bool lf) (.slice A9 n c9) (.slice B9 m d9) (.slice C9 k e9) ∧ C4 W h (.bool lf) (.slice A n c) (.slice B m d) (.slice C k e)
section
variable {lf : Bool} {A B C : Option Addr} {n c m d k e : Nat} {xs : List ByteArray} {ks rs : List Int} {lf' : Bool} {A' B' C' : Option Addr} {n' c' m' d' k' e' : Nat} {ys : List ByteArray} {js ss : List Int} {A9 B9 C9 : Option Addr} {c9 d9 e9 g h : Nat} {w W W' : World}
theorem StT.sx (s : (StT lf A B C n c m d k e xs ks rs lf' A' B' C' n' c' m' d' k' e' ys js ss A9 B9 C9 c9 d9 e9 g h w) W) : (SxT lf A B C n c m d k e xs ks rs lf' A' B' C' n' c' m' d' k' e' ys js ss A9 B9 C9 c9 d9 e9 g h w) W := ⟨s, s.c0, s.c1, s.c2, s.c3⟩
theorem SxT.later (s : (SxT lf A B C n c m d k e xs ks rs lf' A' B' C' n' c' m' d' k' e' ys js ss A9 B9 C9 c9 d9 e9 g h w) W) (hb : Below W.heap.size W W') : (SxT lf A B C n c m d k e xs ks rs lf' A' B' C' n' c' m' d' k' e' ys js ss A9 B9 C9 c9 d9 e9 g h w) W' := (s.1.later hb).sx
theorem SxT.drew (s : (SxT lf A B C n c m d k e xs ks rs lf' A' B' C' n' c' m' d' k' e' ys js ss A9 B9 C9 c9 d9 e9 g h w) W) : (SxT lf A B C n c m d k e xs ks rs lf' A' B' C' n' c' m' d' k' e' ys js ss A9 B9 C9 c9 d9 e9 g h w) W.drew := s.later ((Below.refl _ _).drew)
theorem SxT.drewN {j : Nat} (s : (SxT lf A B C n c m d k e xs ks rs lf' A' B' C' n' c' m' d' k' e' ys js ss A9 B9 C9 c9 d9 e9 g h w) W) : (SxT lf A B C n c m d k e xs ks rs lf' A' B' C' n' c' m' d' k' e' ys js ss A9 B9 C9 c9 d9 e9 g h w) (W.drewN j) := s.later (below_drewN (Below.refl _ _) j)
end
/-- a copy that was told, and the world ahead of it -/
def CopAt (lf : Bool) (xs : List ByteArray) (ks rs : List Int) (v : Value) (W : World) (S : World → Prop) : Prop := ∃ W0, S W0 ∧ NdO W W0.heap.size v lf xs ks rs ∧ Below W0.heap.size W0 W
set_option maxRecDepth 100000 in
set_option maxHeartbeats 4000000 in
theorem w_large1 (lf : Bool) (A B C : Option Addr) (n c m d k e : Nat) (xs : List ByteArray) (ks rs : List Int) (lf' : Bool) (A' B' C' : Option Addr) (n' c' m' d' k' e' : Nat) (ys : List ByteArray) (js ss : List Int) (key : ByteArray) (kid fan mode : Int) (root : Bool) (w : World) (hI : NdIn w A B C n c m d k e xs ks rs) (hJ : NdIn w A' B' C' n' c' m' d' k' e' ys js ss) (hL : largeB xs m k = true) : Calls Try.prog 4 #[.agg #[.bool lf, .slice A n c, .slice B m d, .slice C k e], .agg #[.bool lf', .slice A' n' c', .slice B' m' d', .slice C' k' e'], .string key, .int .i64 kid, .int .i64 fan, .int .u8 mode, .bool root] w (fun e w' => e = .returned (.bool true) ∧ Below w.heap.size w w') := by
  have hb0 : Below w.heap.size w ((w.alloc (.cells #[.bool lf, .slice A n c, .slice B m d, .slice C k e] 28)).alloc (.cells #[.bool lf', .slice A' n' c', .slice B' m' d', .slice C' k' e'] 28)) := ((Below.refl _ _).alloc (Nat.le_refl _) _).alloc (by simp) _
  have b0 := Lib.hid ((Blk.new w #[.bool lf, .slice A n c, .slice B m d, .slice C k e] 28).alloc (.cells #[.bool lf', .slice A' n' c', .slice B' m' d', .slice C' k' e'] 28))
  have b1 := Lib.hid (Blk.new2 (w.alloc (.cells #[.bool lf, .slice A n c, .slice B m d, .slice C k e] 28)) #[.bool lf', .slice A' n' c', .slice B' m' d', .slice C' k' e'] 28 (B := w.heap.size + 1) (by simp))
  have HB := Lib.hid hb0
  have HI := Lib.hid hI
  have HJ := Lib.hid hJ
  clear hb0 hI hJ
  have HL := Lib.hid hL
  clear hL
  go_enter Try.func4, Try.ntmps4
  go_wp2_with fail
  generalize (w.alloc (.cells #[.bool lf, .slice A n c, .slice B m d, .slice C k e] 28)).alloc (.cells #[.bool lf', .slice A' n' c', .slice B' m' d', .slice C' k' e'] 28) = w0 at *
  have c0 := b0.out.c4
  have c1 := b1.out.c4
  refine (large_any lf A B C n c m d k e xs _ (HI.out.K.rd.later HB.out) (by have := HI.out.hn; omega) (by have := HI.out.hm; omega) (by have := HI.out.hk; omega) (fun s hs => by have := HI.out.hs s hs; omega)).mono ?_
  rintro x w1 ⟨rfl, hb⟩
  rw [HL.out]
  have HBn := Lib.hid (stepB HB.out hb)
  have b0n := Lib.hid (b0.out.later hb)
  have b1n := Lib.hid (b1.out.later hb)
  clear hb HB b0 b1 c0 c1
  have HB := HBn
  have b0 := b0n
  have b1 := b1n
  have c0 := b0.out.c4
  have c1 := b1.out.c4
  clear HBn b0n b1n
  go_wp2_with fail
  refine (awake_any _).mono ?_
  rintro x wA ⟨rfl, hb⟩
  have HBn := Lib.hid (stepB HB.out hb)
  have b0n := Lib.hid (b0.out.later hb)
  have b1n := Lib.hid (b1.out.later hb)
  clear hb HB b0 b1 c0 c1
  have HB := HBn
  have b0 := b0n
  have b1 := b1n
  have c0 := b0.out.c4
  have c1 := b1.out.c4
  clear HBn b0n b1n
  go_wp2
  go_ret
  exact ⟨rfl, HB.out⟩
set_option maxRecDepth 100000 in
set_option maxHeartbeats 4000000 in
theorem w_large2 (lf : Bool) (A B C : Option Addr) (n c m d k e : Nat) (xs : List ByteArray) (ks rs : List Int) (lf' : Bool) (A' B' C' : Option Addr) (n' c' m' d' k' e' : Nat) (ys : List ByteArray) (js ss : List Int) (key : ByteArray) (kid fan mode : Int) (root : Bool) (w : World) (hI : NdIn w A B C n c m d k e xs ks rs) (hJ : NdIn w A' B' C' n' c' m' d' k' e' ys js ss) (hL : largeB xs m k = false) (hM : largeB ys m' k' = true) : Calls Try.prog 4 #[.agg #[.bool lf, .slice A n c, .slice B m d, .slice C k e], .agg #[.bool lf', .slice A' n' c', .slice B' m' d', .slice C' k' e'], .string key, .int .i64 kid, .int .i64 fan, .int .u8 mode, .bool root] w (fun e w' => e = .returned (.bool true) ∧ Below w.heap.size w w') := by
  have hb0 : Below w.heap.size w ((w.alloc (.cells #[.bool lf, .slice A n c, .slice B m d, .slice C k e] 28)).alloc (.cells #[.bool lf', .slice A' n' c', .slice B' m' d', .slice C' k' e'] 28)) := ((Below.refl _ _).alloc (Nat.le_refl _) _).alloc (by simp) _
  have b0 := Lib.hid ((Blk.new w #[.bool lf, .slice A n c, .slice B m d, .slice C k e] 28).alloc (.cells #[.bool lf', .slice A' n' c', .slice B' m' d', .slice C' k' e'] 28))
  have b1 := Lib.hid (Blk.new2 (w.alloc (.cells #[.bool lf, .slice A n c, .slice B m d, .slice C k e] 28)) #[.bool lf', .slice A' n' c', .slice B' m' d', .slice C' k' e'] 28 (B := w.heap.size + 1) (by simp))
  have HB := Lib.hid hb0
  have HI := Lib.hid hI
  have HJ := Lib.hid hJ
  clear hb0 hI hJ
  have HL := Lib.hid hL
  have HM := Lib.hid hM
  clear hL hM
  go_enter Try.func4, Try.ntmps4
  go_wp2_with fail
  generalize (w.alloc (.cells #[.bool lf, .slice A n c, .slice B m d, .slice C k e] 28)).alloc (.cells #[.bool lf', .slice A' n' c', .slice B' m' d', .slice C' k' e'] 28) = w0 at *
  have c0 := b0.out.c4
  have c1 := b1.out.c4
  refine (large_any lf A B C n c m d k e xs _ (HI.out.K.rd.later HB.out) (by have := HI.out.hn; omega) (by have := HI.out.hm; omega) (by have := HI.out.hk; omega) (fun s hs => by have := HI.out.hs s hs; omega)).mono ?_
  rintro x w1 ⟨rfl, hb⟩
  rw [HL.out]
  have HBn := Lib.hid (stepB HB.out hb)
  have b0n := Lib.hid (b0.out.later hb)
  have b1n := Lib.hid (b1.out.later hb)
  clear hb HB b0 b1 c0 c1
  have HB := HBn
  have b0 := b0n
  have b1 := b1n
  have c0 := b0.out.c4
  have c1 := b1.out.c4
  clear HBn b0n b1n
  go_wp2_with fail
  refine (large_any lf' A' B' C' n' c' m' d' k' e' ys _ (HJ.out.K.rd.later HB.out) (by have := HJ.out.hn; omega) (by have := HJ.out.hm; omega) (by have := HJ.out.hk; omega) (fun s hs => by have := HJ.out.hs s hs; omega)).mono ?_
  rintro x w2 ⟨rfl, hb⟩
  rw [HM.out]
  have HBn := Lib.hid (stepB HB.out hb)
  have b0n := Lib.hid (b0.out.later hb)
  have b1n := Lib.hid (b1.out.later hb)
  clear hb HB b0 b1 c0 c1
  have HB := HBn
  have b0 := b0n
  have b1 := b1n
  have c0 := b0.out.c4
  have c1 := b1.out.c4
  clear HBn b0n b1n
  go_wp2_with fail
  refine (awake_any _).mono ?_
  rintro x wA ⟨rfl, hb⟩
  have HBn := Lib.hid (stepB HB.out hb)
  have b0n := Lib.hid (b0.out.later hb)
  have b1n := Lib.hid (b1.out.later hb)
  clear hb HB b0 b1 c0 c1
  have HB := HBn
  have b0 := b0n
  have b1 := b1n
  have c0 := b0.out.c4
  have c1 := b1.out.c4
  clear HBn b0n b1n
  go_wp2
  go_ret
  exact ⟨rfl, HB.out⟩
set_option maxRecDepth 100000 in
set_option maxHeartbeats 4000000 in
theorem w_long (lf : Bool) (A B C : Option Addr) (n c m d k e : Nat) (xs : List ByteArray) (ks rs : List Int) (lf' : Bool) (A' B' C' : Option Addr) (n' c' m' d' k' e' : Nat) (ys : List ByteArray) (js ss : List Int) (key : ByteArray) (kid fan mode : Int) (root : Bool) (w : World) (hI : NdIn w A B C n c m d k e xs ks rs) (hJ : NdIn w A' B' C' n' c' m' d' k' e' ys js ss) (hL : largeB xs m k = false) (hM : largeB ys m' k' = false) (hk : 3000 < key.size) : Calls Try.prog 4 #[.agg #[.bool lf, .slice A n c, .slice B m d, .slice C k e], .agg #[.bool lf', .slice A' n' c', .slice B' m' d', .slice C' k' e'], .string key, .int .i64 kid, .int .i64 fan, .int .u8 mode, .bool root] w (fun e w' => e = .returned (.bool true) ∧ Below w.heap.size w w') := by
  have hb0 : Below w.heap.size w ((w.alloc (.cells #[.bool lf, .slice A n c, .slice B m d, .slice C k e] 28)).alloc (.cells #[.bool lf', .slice A' n' c', .slice B' m' d', .slice C' k' e'] 28)) := ((Below.refl _ _).alloc (Nat.le_refl _) _).alloc (by simp) _
  have b0 := Lib.hid ((Blk.new w #[.bool lf, .slice A n c, .slice B m d, .slice C k e] 28).alloc (.cells #[.bool lf', .slice A' n' c', .slice B' m' d', .slice C' k' e'] 28))
  have b1 := Lib.hid (Blk.new2 (w.alloc (.cells #[.bool lf, .slice A n c, .slice B m d, .slice C k e] 28)) #[.bool lf', .slice A' n' c', .slice B' m' d', .slice C' k' e'] 28 (B := w.heap.size + 1) (by simp))
  have HB := Lib.hid hb0
  have HI := Lib.hid hI
  have HJ := Lib.hid hJ
  clear hb0 hI hJ
  have HL := Lib.hid hL
  have HM := Lib.hid hM
  have d1 : decide ((3000 : Int) < (key.size : Int)) = true := decide_eq_true (by omega)
  clear hL hM hk
  go_enter Try.func4, Try.ntmps4
  go_wp2_with fail
  generalize (w.alloc (.cells #[.bool lf, .slice A n c, .slice B m d, .slice C k e] 28)).alloc (.cells #[.bool lf', .slice A' n' c', .slice B' m' d', .slice C' k' e'] 28) = w0 at *
  have c0 := b0.out.c4
  have c1 := b1.out.c4
  refine (large_any lf A B C n c m d k e xs _ (HI.out.K.rd.later HB.out) (by have := HI.out.hn; omega) (by have := HI.out.hm; omega) (by have := HI.out.hk; omega) (fun s hs => by have := HI.out.hs s hs; omega)).mono ?_
  rintro x w1 ⟨rfl, hb⟩
  rw [HL.out]
  have HBn := Lib.hid (stepB HB.out hb)
  have b0n := Lib.hid (b0.out.later hb)
  have b1n := Lib.hid (b1.out.later hb)
  clear hb HB b0 b1 c0 c1
  have HB := HBn
  have b0 := b0n
  have b1 := b1n
  have c0 := b0.out.c4
  have c1 := b1.out.c4
  clear HBn b0n b1n
  go_wp2_with fail
  refine (large_any lf' A' B' C' n' c' m' d' k' e' ys _ (HJ.out.K.rd.later HB.out) (by have := HJ.out.hn; omega) (by have := HJ.out.hm; omega) (by have := HJ.out.hk; omega) (fun s hs => by have := HJ.out.hs s hs; omega)).mono ?_
  rintro x w2 ⟨rfl, hb⟩
  rw [HM.out]
  have HBn := Lib.hid (stepB HB.out hb)
  have b0n := Lib.hid (b0.out.later hb)
  have b1n := Lib.hid (b1.out.later hb)
  clear hb HB b0 b1 c0 c1
  have HB := HBn
  have b0 := b0n
  have b1 := b1n
  have c0 := b0.out.c4
  have c1 := b1.out.c4
  clear HBn b0n b1n
  go_wp2_with fail
  refine (awake_any _).mono ?_
  rintro x wA ⟨rfl, hb⟩
  have HBn := Lib.hid (stepB HB.out hb)
  have b0n := Lib.hid (b0.out.later hb)
  have b1n := Lib.hid (b1.out.later hb)
  clear hb HB b0 b1 c0 c1
  have HB := HBn
  have b0 := b0n
  have b1 := b1n
  have c0 := b0.out.c4
  have c1 := b1.out.c4
  clear HBn b0n b1n
  go_wp2
  go_ret
  exact ⟨rfl, HB.out⟩
set_option maxRecDepth 100000 in
set_option maxHeartbeats 4000000 in
theorem w_main (lf : Bool) (A B C : Option Addr) (n c m d k e : Nat) (xs : List ByteArray) (ks rs : List Int) (lf' : Bool) (A' B' C' : Option Addr) (n' c' m' d' k' e' : Nat) (ys : List ByteArray) (js ss : List Int) (key : ByteArray) (kid fan mode : Int) (root : Bool) (w : World) (hI : NdIn w A B C n c m d k e xs ks rs) (hJ : NdIn w A' B' C' n' c' m' d' k' e' ys js ss) (hL : largeB xs m k = false) (hM : largeB ys m' k' = false) (hk : ¬ 3000 < key.size) : Calls Try.prog 4 #[.agg #[.bool lf, .slice A n c, .slice B m d, .slice C k e], .agg #[.bool lf', .slice A' n' c', .slice B' m' d', .slice C' k' e'], .string key, .int .i64 kid, .int .i64 fan, .int .u8 mode, .bool root] w (fun e w' => e = .returned (.bool true) ∧ Below w.heap.size w w') := by
  have hb0 : Below w.heap.size w ((w.alloc (.cells #[.bool lf, .slice A n c, .slice B m d, .slice C k e] 28)).alloc (.cells #[.bool lf', .slice A' n' c', .slice B' m' d', .slice C' k' e'] 28)) := ((Below.refl _ _).alloc (Nat.le_refl _) _).alloc (by simp) _
  have b0 := Lib.hid ((Blk.new w #[.bool lf, .slice A n c, .slice B m d, .slice C k e] 28).alloc (.cells #[.bool lf', .slice A' n' c', .slice B' m' d', .slice C' k' e'] 28))
  have b1 := Lib.hid (Blk.new2 (w.alloc (.cells #[.bool lf, .slice A n c, .slice B m d, .slice C k e] 28)) #[.bool lf', .slice A' n' c', .slice B' m' d', .slice C' k' e'] 28 (B := w.heap.size + 1) (by simp))
  have HB := Lib.hid hb0
  have HI := Lib.hid hI
  have HJ := Lib.hid hJ
  clear hb0 hI hJ
  have HN : Hid (Nd w A B C n c m d k e xs ks rs) := ⟨HI.out.K, HI.out.D, HI.out.R, by have h1 := large_no hL; have h2 := wide_len xs; have h3 := HI.out.K.len; omega⟩
  have HO : Hid (Nd w A' B' C' n' c' m' d' k' e' ys js ss) := ⟨HJ.out.K, HJ.out.D, HJ.out.R, by have h1 := large_no hM; have h2 := wide_len ys; have h3 := HJ.out.K.len; omega⟩
  have HL := Lib.hid hL
  have HM := Lib.hid hM
  have d1 : decide ((3000 : Int) < (key.size : Int)) = false := decide_eq_false (by omega)
  clear hL hM hk
  go_enter Try.func4, Try.ntmps4
  go_wp2_with fail
  generalize (w.alloc (.cells #[.bool lf, .slice A n c, .slice B m d, .slice C k e] 28)).alloc (.cells #[.bool lf', .slice A' n' c', .slice B' m' d', .slice C' k' e'] 28) = w0 at *
  have c0 := b0.out.c4
  have c1 := b1.out.c4
  refine (large_any lf A B C n c m d k e xs _ (HI.out.K.rd.later HB.out) (by have := HI.out.hn; omega) (by have := HI.out.hm; omega) (by have := HI.out.hk; omega) (fun s hs => by have := HI.out.hs s hs; omega)).mono ?_
  rintro x w1 ⟨rfl, hb⟩
  rw [HL.out]
  have HBn := Lib.hid (stepB HB.out hb)
  have b0n := Lib.hid (b0.out.later hb)
  have b1n := Lib.hid (b1.out.later hb)
  clear hb HB b0 b1 c0 c1
  have HB := HBn
  have b0 := b0n
  have b1 := b1n
  have c0 := b0.out.c4
  have c1 := b1.out.c4
  clear HBn b0n b1n
  go_wp2_with fail
  refine (large_any lf' A' B' C' n' c' m' d' k' e' ys _ (HJ.out.K.rd.later HB.out) (by have := HJ.out.hn; omega) (by have := HJ.out.hm; omega) (by have := HJ.out.hk; omega) (fun s hs => by have := HJ.out.hs s hs; omega)).mono ?_
  rintro x w2 ⟨rfl, hb⟩
  rw [HM.out]
  have HBn := Lib.hid (stepB HB.out hb)
  have b0n := Lib.hid (b0.out.later hb)
  have b1n := Lib.hid (b1.out.later hb)
  clear hb HB b0 b1 c0 c1
  have HB := HBn
  have b0 := b0n
  have b1 := b1n
  have c0 := b0.out.c4
  have c1 := b1.out.c4
  clear HBn b0n b1n
  clear HL HM HI HJ
  go_wp2_with fail
  generalize hw3 : w2 = w3 at *
  clear hw3
  refine wp_region_noPanic ?_
  have HC0 := Lib.hid c0
  clear c0 c1 d1
  refine wp_region_held_drew (S := Aft w3) (by kernel_rfl) (Aft.drew0 w3) (fun hHeld => ?_)
  refine wpAnyH_take (i := 0) (oi := { dst := some 37, op := Op.load 28 (Operand.tmp 7), type := 28, pos := "law.go:45", after := #[], guard := none }) (v := ?_) rfl (by kernel_rfl) (by kernel_rfl) (by kernel_rfl) (fun _ _ _ h => h) (Or.inl ⟨by rfl, ?_⟩) (by assumption) ?_
  rotate_left
  · intro W hSw
    obtain ⟨k0, k1, k2, k3⟩ := HC0.out.later hSw
    go_simp
    try with_reducible rfl
  simp only [Act.put, List.setIfInBounds_toArray, List.set_cons_zero, List.set_cons_succ]
  refine wpAnyH_take (i := 2) (oi := { dst := some 39, op := Op.load 28 (Operand.tmp 7), type := 28, pos := "law.go:45", after := #[{ on := 5, ground := Ground.gcOnly Departure.lateStores }], guard := none }) (v := ?_) rfl (by kernel_rfl) (by kernel_rfl) (by kernel_rfl) (fun _ _ _ h => h) (Or.inl ⟨by rfl, ?_⟩) (by assumption) ?_
  rotate_left
  · intro W hSw
    obtain ⟨k0, k1, k2, k3⟩ := HC0.out.later hSw
    go_simp
    try with_reducible rfl
  simp only [Act.put, List.setIfInBounds_toArray, List.set_cons_zero, List.set_cons_succ]
  refine wpAnyH_cast (f := 5) (l := lT 0 0 0) (by kernel_rfl) (by kernel_rfl) ?_
  refine chains3 1 1 1 2 pT qT rT lT (fun i j kk x W => ∃ v38 v15 v16 : Value, x = ({ tmps := #[.agg #[.bool lf, .slice A n c, .slice B m d, .slice C k e], .agg #[.bool lf', .slice A' n' c', .slice B' m' d', .slice C' k' e'], .string key, .int .i64 kid, .int .i64 fan, .int .u8 mode, .bool root, .pointer (some ⟨w.heap.size, 0, none⟩), .pointer (some ⟨w.heap.size + 1, 0, none⟩), undef, undef, undef, undef, undef, .bool false, v15, v16, undef, undef, undef, undef, undef, undef, undef, undef, .agg #[.bool lf, .slice A n c, .slice B m d, .slice C k e], .bool false, .bool false, .agg #[.bool lf', .slice A' n' c', .slice B' m' d', .slice C' k' e'], .bool false, .bool false, .bool false, .string key, .int .i64 key.size, .bool false, .bool false, undef, .agg #[.bool lf, .slice A n c, .slice B m d, .slice C k e], v38, .agg #[.bool lf, .slice A n c, .slice B m d, .slice C k e], undef, undef, undef, undef, undef, undef, undef, undef, undef, undef, undef, undef, undef, undef, undef, undef, undef, undef, undef, undef, undef, undef, undef, undef, undef, undef, undef, undef, undef, undef, undef, undef, undef, undef, undef, undef, undef, undef, undef, undef, undef, undef, undef, undef, undef, undef, undef, undef, undef, undef, undef, undef, undef, undef, undef, undef, undef, undef, undef, undef, undef, undef, undef, undef, undef, undef, undef, undef, undef, undef, undef, undef, undef, undef, undef, undef, undef, undef, undef, undef, undef, undef, undef, undef, undef, undef, undef, undef, undef, undef, undef, undef, undef, undef, undef, undef], defers := [] } : Act) ∧ ChN lf xs ks rs n m k i v38 W ∧ ChB w3 28 j v15 W ∧ ChB w3 47 kk v16 W) (by decide +kernel) (by decide +kernel) (by decide +kernel) (by decide +kernel) ?s1 ?s2 ?s3 ?fin 3 0 0 0 _ _ (by omega) (by omega) (by omega) rfl ⟨undef, undef, undef, rfl, rfl, rfl, rfl⟩ hHeld
  case s1 =>
    intro i j kk x W hi hI hS
    obtain ⟨v38, v15, v16, rfl, c1, c2, c3⟩ := hI
    obtain rfl : i = 0 := by omega
    obtain rfl := c1
    show wpOp _ _ _ 1 _ _ _
    refine wpOp_step (o := { dst := some 38, op := Op.call { callee := Callee.value (Operand.func 21), args := #[Operand.tmp 37], argTypes := #[28] }, type := 28, pos := "law.go:45", after := #[{ on := 0, ground := Ground.data }], guard := none }) rfl (fun K' hK => ?_)
    refine step_call rfl 21 #[.agg #[.bool lf, .slice A n c, .slice B m d, .slice C k e]] (by go_simp) ?_
    refine (own_any lf A B C n c m d k e xs ks rs W (HN.out.later (stepB HB.out hS))).mono ?_
    rintro x W' ⟨v, rfl, ho, hb⟩
    have e1 := HN.out.K.len
    have e2 := HN.out.D.len
    have e3 := HN.out.R.len
    obtain ⟨A9, B9, C9, c9, d9, e9, hv, hn⟩ := ho.nd (by have := HN.out.sz; omega)
    rw [e1, e2, e3] at hv hn
    exact ⟨_, rfl, hK _ _ ⟨stepB hS hb, v, v15, v16, rfl, ⟨A9, B9, C9, c9, d9, e9, hv, hn⟩, c2.later hb, c3.later hb⟩⟩
  case s2 =>
    intro i j kk x W hi hI hS
    obtain ⟨v38, v15, v16, rfl, c1, c2, c3⟩ := hI
    obtain rfl : j = 0 := by omega
    obtain rfl := c2
    show wpOp _ _ _ 3 _ _ _
    have hb : Below W.heap.size W (W.alloc (.cells #[.bool false, .slice none 0 0, .slice none 0 0, .slice none 0 0] 28)) := (Below.refl _ _).alloc (Nat.le_refl _) _
    refine wpOp_step (o := { dst := some 15, op := Op.alloc 28, type := 0, pos := "law.go:45", after := #[], guard := none }) rfl (fun K' hK => ?_)
    refine step_run (v := .pointer (some ⟨W.heap.size, 0, none⟩)) (w' := W.alloc (.cells #[.bool false, .slice none 0 0, .slice none 0 0, .slice none 0 0] 28)) rfl (by go_simp) ?_
    exact hK _ _ ⟨stepB hS hb, v38, _, v16, rfl, c1.later hb, ⟨_, rfl, Aft.size hS, Blk.new _ _ _⟩, c3.later hb⟩
  case s3 =>
    intro i j kk x W hi hI hS
    obtain ⟨v38, v15, v16, rfl, c1, c2, c3⟩ := hI
    obtain rfl : kk = 0 := by omega
    obtain rfl := c3
    show wpOp _ _ _ 4 _ _ _
    have hb : Below W.heap.size W (W.alloc (.cells #[.bool false, .slice none 0 0, .slice none 0 0, .slice none 0 0] 47)) := (Below.refl _ _).alloc (Nat.le_refl _) _
    refine wpOp_step (o := { dst := some 16, op := Op.alloc 47, type := 0, pos := "law.go:45", after := #[], guard := none }) rfl (fun K' hK => ?_)
    refine step_run (v := .pointer (some ⟨W.heap.size, 0, none⟩)) (w' := W.alloc (.cells #[.bool false, .slice none 0 0, .slice none 0 0, .slice none 0 0] 47)) rfl (by go_simp) ?_
    exact hK _ _ ⟨stepB hS hb, v38, v15, _, rfl, c1.later hb, c2.later hb, ⟨_, rfl, Aft.size hS, Blk.new _ _ _⟩⟩
  case fin =>
    intro x W hI hS
    obtain ⟨v38, v15, v16, rfl, c1, c2, c3⟩ := hI
    obtain ⟨A9, B9, C9, c9, d9, e9, rfl, hn⟩ := c1
    obtain ⟨g, rfl, hg, Bg⟩ := c2
    obtain ⟨h, rfl, hh, Bh⟩ := c3
    have hne : g ≠ h := Bg.ne Bh (by decide)
    refine wpAnyH_ready (rs := [5]) (by kernel_rfl) (by simp) (AllReadyH.cons (o := { dst := none, op := Op.store 28 (Operand.tmp 15) (Operand.tmp 38), type := 0, pos := "law.go:45", after := #[{ on := 3, ground := Ground.data }, { on := 1, ground := Ground.data }, { on := 1, ground := Ground.chain }, { on := 0, ground := Ground.phase }, { on := 1, ground := Ground.phase }, { on := 2, ground := Ground.textOnly Departure.lateStores }, { on := 3, ground := Ground.phase }, { on := 4, ground := Ground.phase }], guard := none }) rfl (fun K hK => ?_) AllReadyH.nil)
    have HG := Lib.hid Bg
    have HH := Lib.hid Bh
    have HN9 := Lib.hid hn
    have HS := Lib.hid hS
    obtain ⟨l0, l1, l2, l3, z0, z1, z2, z3⟩ := Bg.l4
    clear Bg Bh hn hS hHeld
    go_simp
    refine hK.out _ _ (Aft.set (Aft.set (Aft.set (Aft.set HS.out hg _) hg _) hg _) hg _) (fun hHeld2 => ?_)
    clear hK K l0 l1 l2 l3 z0 z1 z2 z3
    have HS2 := Lib.hid hHeld2
    have HN2 := Lib.hid (HN9.out.set4 HG.out rfl rfl rfl rfl (.bool lf) (.slice A9 n c9) (.slice B9 m d9) (.slice C9 k e9))
    have HH2 := Lib.hid (blk_other4 (a := .bool lf) (b := .slice A9 n c9) (c := .slice B9 m d9) (d := .slice C9 k e9) HH.out (Ne.symm hne))
    have HG2 := Lib.hid (blk_set4 (a := .bool lf) (b := .slice A9 n c9) (c := .slice B9 m d9) (d := .slice C9 k e9) HG.out)
    clear hHeld2 HG HH HN9 HS
    generalize ((((W.setCell ⟨g, 0, none⟩ (.bool lf)).setCell ⟨g, 1, none⟩ (.slice A9 n c9)).setCell ⟨g, 2, none⟩ (.slice B9 m d9)).setCell ⟨g, 3, none⟩ (.slice C9 k e9)) = W1 at *
    refine wpAnyH_ready (rs := [6]) (by kernel_rfl) (by simp) (AllReadyH.cons (o := { dst := none, op := Op.store 47 (Operand.tmp 16) (Operand.tmp 39), type := 0, pos := "law.go:45", after := #[{ on := 4, ground := Ground.data }, { on := 2, ground := Ground.data }, { on := 5, ground := Ground.chain }, { on := 0, ground := Ground.phase }, { on := 1, ground := Ground.phase }, { on := 2, ground := Ground.phase }, { on := 3, ground := Ground.phase }, { on := 4, ground := Ground.phase }, { on := 5, ground := Ground.phase }], guard := none }) rfl (fun K hK => ?_) AllReadyH.nil)
    obtain ⟨l0, l1, l2, l3, z0, z1, z2, z3⟩ := HH2.out.l4
    go_simp
    refine hK.out _ _ (Aft.set (Aft.set (Aft.set (Aft.set HS2.out hh _) hh _) hh _) hh _) (fun hHeld2 => wpAnyH_done (by kernel_rfl) (NoPanic.normal ?_) _)
    clear hK K l0 l1 l2 l3 z0 z1 z2 z3
    have HT : Hid ((StT lf A B C n c m d k e xs ks rs lf' A' B' C' n' c' m' d' k' e' ys js ss A9 B9 C9 c9 d9 e9 g h w) ((((W1.setCell ⟨h, 0, none⟩ (.bool lf)).setCell ⟨h, 1, none⟩ (.slice A n c)).setCell ⟨h, 2, none⟩ (.slice B m d)).setCell ⟨h, 3, none⟩ (.slice C k e))) := ⟨stepB HB.out hHeld2, b0.out.c4.later hHeld2, b1.out.c4.later hHeld2, HG2.out.c4.set4 hne _ _ _ _, (blk_set4 HH2.out).c4, HN.out.later (stepB HB.out hHeld2), HO.out.later (stepB HB.out hHeld2), HN2.out.set4 HH2.out rfl rfl rfl rfl _ _ _ _⟩
    clear hHeld2 HG2 HH2 HN2 HS2 HB b0 b1 HC0 HN HO hg hh hne
    generalize ((((W1.setCell ⟨h, 0, none⟩ (.bool lf)).setCell ⟨h, 1, none⟩ (.slice A n c)).setCell ⟨h, 2, none⟩ (.slice B m d)).setCell ⟨h, 3, none⟩ (.slice C k e)) = W3 at *
    obtain ⟨p, hp⟩ : ∃ p : Nat, (if mayB lf xs m k then lowN xs key else 0 : Nat) = p := ⟨_, rfl⟩
    obtain ⟨q, hq⟩ : ∃ q : Bool, (mayB lf xs m k && hasB xs key) = q := ⟨_, rfl⟩
    obtain ⟨f, hf⟩ : ∃ f, fence lf xs m k kid = f := ⟨_, rfl⟩
    obtain ⟨fb, hfb⟩ : ∃ fb, fenceB lf xs m k kid = fb := ⟨_, rfl⟩
    obtain ⟨mb, hmb⟩ : ∃ mb, mayB lf xs m k = mb := ⟨_, rfl⟩
    obtain ⟨kd, hkd⟩ : ∃ kd : Nat, (if !lf && mayB lf xs m k then kidN xs key else 0 : Nat) = kd := ⟨_, rfl⟩
    obtain ⟨sf, hsf⟩ : ∃ sf, safeB lf n m fan mode root = sf := ⟨_, rfl⟩
    obtain ⟨sa, hsa⟩ : ∃ sa, sameN lf lf' xs ys ks js rs ss = sa := ⟨_, rfl⟩
    have hsi : sameN lf lf xs xs ks ks rs rs = true := decide_eq_true ⟨rfl, rfl, rfl, rfl⟩
    have HP1 : Hid (∀ W, (SxT lf A B C n c m d k e xs ks rs lf' A' B' C' n' c' m' d' k' e' ys js ss A9 B9 C9 c9 d9 e9 g h w) W → Calls Try.prog 12 #[.agg #[.bool lf, .slice A9 n c9, .slice B9 m d9, .slice C9 k e9], .string key] W fun x w' => x = .returned (.tuple #[.int .i64 p, .bool q]) ∧ Below W.heap.size W w') := fun W h => by
      have := Place_any lf A9 B9 C9 n c9 m d9 k e9 xs key W h.1.in_.K.rd (by have := h.1.in_.sz; omega) (by have := h.1.in_.sz; omega) (by have := h.1.in_.sz; omega)
      rwa [hp, hq] at this
    have HP2 : Hid (∀ W, (SxT lf A B C n c m d k e xs ks rs lf' A' B' C' n' c' m' d' k' e' ys js ss A9 B9 C9 c9 d9 e9 g h w) W → Calls Try.prog 22 #[.agg #[.bool lf, .slice A n c, .slice B m d, .slice C k e], .string key] W fun x w' => x = .returned (.tuple #[.int .i64 p, .bool q]) ∧ Below W.heap.size W w') := fun W h => by
      have := rPlace_any lf A B C n c m d k e xs key W h.1.n_.K.rd (by have := h.1.n_.sz; omega) (by have := h.1.n_.sz; omega) (by have := h.1.n_.sz; omega)
      unfold PlaceEnd at this
      rwa [hp, hq] at this
    have HF1 : Hid (∀ W, (SxT lf A B C n c m d k e xs ks rs lf' A' B' C' n' c' m' d' k' e' ys js ss A9 B9 C9 c9 d9 e9 g h w) W → Calls Try.prog 18 #[.agg #[.bool lf, .slice A9 n c9, .slice B9 m d9, .slice C9 k e9], .int .i64 kid] W fun x w' => x = .returned (.tuple #[.string f, .bool fb]) ∧ Below W.heap.size W w') := fun W h => by
      have := Fence_any lf A9 B9 C9 n c9 m d9 k e9 xs kid W h.1.in_.K.rd (by have := h.1.in_.sz; omega) (by have := h.1.in_.sz; omega) (by have := h.1.in_.sz; omega)
      unfold FenceEnd at this
      rwa [hf, hfb] at this
    have HF2 : Hid (∀ W, (SxT lf A B C n c m d k e xs ks rs lf' A' B' C' n' c' m' d' k' e' ys js ss A9 B9 C9 c9 d9 e9 g h w) W → Calls Try.prog 23 #[.agg #[.bool lf, .slice A n c, .slice B m d, .slice C k e], .int .i64 kid] W fun x w' => x = .returned (.tuple #[.string f, .bool fb]) ∧ Below W.heap.size W w') := fun W h => by
      have := rFence_any lf A B C n c m d k e xs kid W h.1.n_.K.rd (by have := h.1.n_.sz; omega) (by have := h.1.n_.sz; omega) (by have := h.1.n_.sz; omega)
      unfold FenceEnd at this
      rwa [hf, hfb] at this
    have HM1 : Hid (∀ W, (SxT lf A B C n c m d k e xs ks rs lf' A' B' C' n' c' m' d' k' e' ys js ss A9 B9 C9 c9 d9 e9 g h w) W → Calls Try.prog 10 #[.agg #[.bool lf, .slice A9 n c9, .slice B9 m d9, .slice C9 k e9]] W fun x w' => x = .returned (.bool mb) ∧ Below W.heap.size W w') := fun W h => by
      have := May_any lf A9 B9 C9 n c9 m d9 k e9 xs W h.1.in_.K.rd (by have := h.1.in_.sz; omega) (by have := h.1.in_.sz; omega) (by have := h.1.in_.sz; omega)
      rwa [hmb] at this
    have HM2 : Hid (∀ W, (SxT lf A B C n c m d k e xs ks rs lf' A' B' C' n' c' m' d' k' e' ys js ss A9 B9 C9 c9 d9 e9 g h w) W → Calls Try.prog 24 #[.agg #[.bool lf, .slice A n c, .slice B m d, .slice C k e]] W fun x w' => x = .returned (.bool mb) ∧ Below W.heap.size W w') := fun W h => by
      have := rMay_any lf A B C n c m d k e xs W h.1.n_.K.rd (by have := h.1.n_.sz; omega) (by have := h.1.n_.sz; omega) (by have := h.1.n_.sz; omega)
      rwa [hmb] at this
    have HK1 : Hid (∀ W, (SxT lf A B C n c m d k e xs ks rs lf' A' B' C' n' c' m' d' k' e' ys js ss A9 B9 C9 c9 d9 e9 g h w) W → Calls Try.prog 11 #[.agg #[.bool lf, .slice A9 n c9, .slice B9 m d9, .slice C9 k e9], .string key] W fun x w' => x = .returned (.int .i64 kd) ∧ Below W.heap.size W w') := fun W h => by
      have := Kid_any lf A9 B9 C9 n c9 m d9 k e9 xs key W h.1.in_.K.rd (by have := h.1.in_.sz; omega) (by have := h.1.in_.sz; omega) (by have := h.1.in_.sz; omega)
      rwa [hkd] at this
    have HK2 : Hid (∀ W, (SxT lf A B C n c m d k e xs ks rs lf' A' B' C' n' c' m' d' k' e' ys js ss A9 B9 C9 c9 d9 e9 g h w) W → Calls Try.prog 25 #[.agg #[.bool lf, .slice A n c, .slice B m d, .slice C k e], .string key] W fun x w' => x = .returned (.int .i64 kd) ∧ Below W.heap.size W w') := fun W h => by
      have := rKid_any lf A B C n c m d k e xs key W h.1.n_.K.rd (by have := h.1.n_.sz; omega) (by have := h.1.n_.sz; omega) (by have := h.1.n_.sz; omega)
      unfold KidEnd at this
      rwa [hkd] at this
    have HS1 : Hid (∀ W, (SxT lf A B C n c m d k e xs ks rs lf' A' B' C' n' c' m' d' k' e' ys js ss A9 B9 C9 c9 d9 e9 g h w) W → Calls Try.prog 19 #[.agg #[.bool lf, .slice A9 n c9, .slice B9 m d9, .slice C9 k e9], .int .i64 fan, .int .u8 mode, .bool root] W fun x w' => x = .returned (.bool sf) ∧ Below W.heap.size W w') := fun W h => by
      have := Safe_any lf A9 B9 C9 n c9 m d9 k e9 fan mode root W (by have := h.1.in_.sz; omega) (by have := h.1.in_.sz; omega)
      unfold SafeEnd at this
      rwa [hsf] at this
    have HS2 : Hid (∀ W, (SxT lf A B C n c m d k e xs ks rs lf' A' B' C' n' c' m' d' k' e' ys js ss A9 B9 C9 c9 d9 e9 g h w) W → Calls Try.prog 26 #[.agg #[.bool lf, .slice A n c, .slice B m d, .slice C k e], .int .i64 fan, .int .u8 mode, .bool root] W fun x w' => x = .returned (.bool sf) ∧ Below W.heap.size W w') := fun W h => by
      have := rSafe_any lf A B C n c m d k e fan mode root W (by have := h.1.n_.sz; omega) (by have := h.1.n_.sz; omega)
      unfold SafeEnd at this
      rwa [hsf] at this
    have HE1 : Hid (∀ W, (SxT lf A B C n c m d k e xs ks rs lf' A' B' C' n' c' m' d' k' e' ys js ss A9 B9 C9 c9 d9 e9 g h w) W → Calls Try.prog 27 #[.agg #[.bool lf, .slice A9 n c9, .slice B9 m d9, .slice C9 k e9], .agg #[.bool lf', .slice A' n' c', .slice B' m' d', .slice C' k' e']] W fun x w' => x = .returned (.bool sa) ∧ Below W.heap.size W w') := fun W h => by
      have := fsame_any lf A9 B9 C9 n c9 m d9 k e9 xs ks rs lf' A' B' C' n' c' m' d' k' e' ys js ss W h.1.in_ h.1.o_
      unfold BoolEnd at this
      rwa [hsa] at this
    have HE2 : Hid (∀ W, (SxT lf A B C n c m d k e xs ks rs lf' A' B' C' n' c' m' d' k' e' ys js ss A9 B9 C9 c9 d9 e9 g h w) W → Calls Try.prog 28 #[.agg #[.bool lf, .slice A n c, .slice B m d, .slice C k e], .agg #[.bool lf', .slice A' n' c', .slice B' m' d', .slice C' k' e']] W fun x w' => x = .returned (.bool sa) ∧ Below W.heap.size W w') := fun W h => by
      have := rsame_any lf A B C n c m d k e xs ks rs lf' A' B' C' n' c' m' d' k' e' ys js ss W h.1.n_ h.1.o_
      unfold BoolEnd at this
      rwa [hsa] at this
    have HE3 : Hid (∀ W, (SxT lf A B C n c m d k e xs ks rs lf' A' B' C' n' c' m' d' k' e' ys js ss A9 B9 C9 c9 d9 e9 g h w) W → Calls Try.prog 27 #[.agg #[.bool lf, .slice A9 n c9, .slice B9 m d9, .slice C9 k e9], .agg #[.bool lf, .slice A n c, .slice B m d, .slice C k e]] W fun x w' => x = .returned (.bool true) ∧ Below W.heap.size W w') := fun W h => by
      have := fsame_any lf A9 B9 C9 n c9 m d9 k e9 xs ks rs lf A B C n c m d k e xs ks rs W h.1.in_ h.1.n_
      unfold BoolEnd at this
      rwa [hsi] at this
    have HE4 : Hid (∀ W, (SxT lf A B C n c m d k e xs ks rs lf' A' B' C' n' c' m' d' k' e' ys js ss A9 B9 C9 c9 d9 e9 g h w) W → Calls Try.prog 28 #[.agg #[.bool lf, .slice A9 n c9, .slice B9 m d9, .slice C9 k e9], .agg #[.bool lf, .slice A n c, .slice B m d, .slice C k e]] W fun x w' => x = .returned (.bool true) ∧ Below W.heap.size W w') := fun W h => by
      have := rsame_any lf A9 B9 C9 n c9 m d9 k e9 xs ks rs lf A B C n c m d k e xs ks rs W h.1.in_ h.1.n_
      unfold BoolEnd at this
      rwa [hsi] at this
    have HCp : Hid (∀ W, (SxT lf A B C n c m d k e xs ks rs lf' A' B' C' n' c' m' d' k' e' ys js ss A9 B9 C9 c9 d9 e9 g h w) W → Calls Try.prog 30 #[.agg #[.bool lf, .slice A9 n c9, .slice B9 m d9, .slice C9 k e9]] W fun x w' => ∃ v, x = .returned v ∧ (SxT lf A B C n c m d k e xs ks rs lf' A' B' C' n' c' m' d' k' e' ys js ss A9 B9 C9 c9 d9 e9 g h w) w' ∧ Hid (CopAt lf xs ks rs v w' (fun W => (SxT lf A B C n c m d k e xs ks rs lf' A' B' C' n' c' m' d' k' e' ys js ss A9 B9 C9 c9 d9 e9 g h w) W))) := fun W h => by
      refine (copy_any lf A9 B9 C9 n c9 m d9 k e9 xs ks rs W h.1.in_).mono ?_
      rintro x w' ⟨v, rfl, ho, hb⟩
      exact ⟨v, rfl, h.later hb, Lib.hid ⟨W, h, ho, hb⟩⟩
    have HTo : Hid (∀ W v, (SxT lf A B C n c m d k e xs ks rs lf' A' B' C' n' c' m' d' k' e' ys js ss A9 B9 C9 c9 d9 e9 g h w) W → Hid (CopAt lf xs ks rs v W (fun W => (SxT lf A B C n c m d k e xs ks rs lf' A' B' C' n' c' m' d' k' e' ys js ss A9 B9 C9 c9 d9 e9 g h w) W)) → Calls Try.prog 29 #[v, .agg #[.bool lf, .slice A n c, .slice B m d, .slice C k e]] W fun x w' => x = .returned (.bool true) ∧ (SxT lf A B C n c m d k e xs ks rs lf' A' B' C' n' c' m' d' k' e' ys js ss A9 B9 C9 c9 d9 e9 g h w) w') := fun W v h hc => by
      obtain ⟨W0, h0, ho, hb⟩ := hc.out
      have := told_any W0.heap.size lf v xs ks rs lf A B C n c m d k e xs ks rs W ho (by have := h.1.n_.sz; have e1 := h.1.n_.K.len; have e2 := h.1.n_.D.len; have e3 := h.1.n_.R.len; omega) hb.size h.1.n_
      rw [hsi] at this
      refine this.mono ?_
      rintro x w' ⟨rfl, hb2⟩
      exact ⟨rfl, h0.later (hb.trans hb2)⟩
    clear hp hq hf hfb hmb hkd hsf hsa hsi
    obtain ⟨c0, c1, c2, c3⟩ := HT.out.cells
    go_wp2_with fail
    refine (HP1.out W3 HT.out.sx).mono ?_
    rintro x W4 ⟨rfl, hb⟩
    have HTn := Lib.hid (HT.out.later hb)
    clear hb HT c0 c1 c2 c3 HP1
    have HT := HTn
    clear HTn
    obtain ⟨c0, c1, c2, c3⟩ := HT.out.cells
    go_wp2_with fail
    refine (HP2.out W4 HT.out.sx).mono ?_
    rintro x W5 ⟨rfl, hb⟩
    have HTn := Lib.hid (HT.out.later hb)
    clear hb HT c0 c1 c2 c3 HP2
    have HT := HTn
    clear HTn
    obtain ⟨c0, c1, c2, c3⟩ := HT.out.cells
    go_wp2_with fail
    refine (HF1.out W5 HT.out.sx).mono ?_
    rintro x W6 ⟨rfl, hb⟩
    have HTn := Lib.hid (HT.out.later hb)
    clear hb HT c0 c1 c2 c3 HF1
    have HT := HTn
    clear HTn
    obtain ⟨c0, c1, c2, c3⟩ := HT.out.cells
    go_wp2_with fail
    refine (HF2.out W6 HT.out.sx).mono ?_
    rintro x W7 ⟨rfl, hb⟩
    have HTn := Lib.hid (HT.out.later hb)
    clear hb HT c0 c1 c2 c3 HF2
    have HT := HTn
    clear HTn
    have K0 : Hid ((SxT lf A B C n c m d k e xs ks rs lf' A' B' C' n' c' m' d' k' e' ys js ss A9 B9 C9 c9 d9 e9 g h w) W7) := HT.out.sx
    clear HT
    go_wp2_with fail
    go_region_held3 (SxT lf A B C n c m d k e xs ks rs lf' A' B' C' n' c' m' d' k' e' ys js ss A9 B9 C9 c9 d9 e9 g h w) (repeat (first | with_reducible assumption | with_reducible exact K0.out | with_reducible refine SxT.drew ?_ | with_reducible refine SxT.drewN ?_ | with_reducible refine SxT.later ?_ (by with_reducible assumption))) (first
      | (go_at_call 10; refine (HM1.out _ (by with_reducible assumption)).mono ?_; rintro x wa ⟨rfl, hba⟩)
      | (go_at_call 24; refine (HM2.out _ (by with_reducible assumption)).mono ?_; rintro x wb ⟨rfl, hbb⟩)
      | (go_at_call 11; refine (HK1.out _ (by with_reducible assumption)).mono ?_; rintro x wc ⟨rfl, hbc⟩)
      | (go_at_call 25; refine (HK2.out _ (by with_reducible assumption)).mono ?_; rintro x wd ⟨rfl, hbd⟩))
    rename_i hq0
    have K1 := Lib.hid hq0
    clear hq0 HM1 HM2 HK1 HK2 K0
    go_wp2_with fail
    go_region_held3 (SxT lf A B C n c m d k e xs ks rs lf' A' B' C' n' c' m' d' k' e' ys js ss A9 B9 C9 c9 d9 e9 g h w) (repeat (first | with_reducible assumption | with_reducible exact K1.out | with_reducible refine SxT.drew ?_ | with_reducible refine SxT.drewN ?_ | with_reducible refine SxT.later ?_ (by with_reducible assumption))) (first
      | (go_at_call 19; refine (HS1.out _ (by with_reducible assumption)).mono ?_; rintro x we ⟨rfl, hba⟩)
      | (go_at_call 26; refine (HS2.out _ (by with_reducible assumption)).mono ?_; rintro x wf ⟨rfl, hbb⟩)
      | (go_at_call 28; refine (HE2.out _ (by with_reducible assumption)).mono ?_; rintro x wi ⟨rfl, hbc⟩)
      | (go_at_call_of 27 (Value.slice A' n' c'); refine (HE1.out _ (by with_reducible assumption)).mono ?_; rintro x wg ⟨rfl, hbd⟩)
      | (go_at_call 27; refine (HE3.out _ (by with_reducible assumption)).mono ?_; rintro x wj ⟨rfl, hbe⟩))
    rename_i hq0
    have K2 := Lib.hid hq0
    clear hq0 HS1 HS2 HE1 HE2 HE3 K1
    have HAW : Hid (∀ W, (SxT lf A B C n c m d k e xs ks rs lf' A' B' C' n' c' m' d' k' e' ys js ss A9 B9 C9 c9 d9 e9 g h w) W → Calls Try.prog 9 #[] W fun x w' => x = .returned (.bool true) ∧ Below W.heap.size W w') := fun W h => awake_any W
    go_wp2_with fail
    go_region_held3 (SxT lf A B C n c m d k e xs ks rs lf' A' B' C' n' c' m' d' k' e' ys js ss A9 B9 C9 c9 d9 e9 g h w) (repeat (first | with_reducible assumption | with_reducible exact K2.out | with_reducible refine SxT.drew ?_ | with_reducible refine SxT.drewN ?_ | with_reducible refine SxT.later ?_ (by with_reducible assumption))) (first
      | (go_at_call 30; refine (HCp.out _ (by with_reducible assumption)).mono ?_; rintro x wk ⟨vk, rfl, hsk, hck⟩)
      | (go_at_call 29; refine (HTo.out _ _ (by with_reducible assumption) (by with_reducible assumption)).mono ?_; rintro x wl ⟨rfl, hsl⟩)
      | (go_at_call 28; refine (HE4.out _ (by with_reducible assumption)).mono ?_; rintro x wm ⟨rfl, hbm⟩)
      | (go_at_call 9; refine (HAW.out _ (by with_reducible assumption)).mono ?_; rintro x wn ⟨rfl, hbn⟩))
    rename_i hq0
    have K3 := Lib.hid hq0
    clear hq0 HCp HTo HE4 HAW K2
    go_wp2
    go_ret
    exact ⟨rfl, K3.out.1.b⟩
theorem walk (lf : Bool) (A B C : Option Addr) (n c m d k e : Nat) (xs : List ByteArray) (ks rs : List Int) (lf' : Bool) (A' B' C' : Option Addr) (n' c' m' d' k' e' : Nat) (ys : List ByteArray) (js ss : List Int) (key : ByteArray) (kid fan mode : Int) (root : Bool) (w : World) (hI : NdIn w A B C n c m d k e xs ks rs) (hJ : NdIn w A' B' C' n' c' m' d' k' e' ys js ss) : Calls Try.prog 4 #[.agg #[.bool lf, .slice A n c, .slice B m d, .slice C k e], .agg #[.bool lf', .slice A' n' c', .slice B' m' d', .slice C' k' e'], .string key, .int .i64 kid, .int .i64 fan, .int .u8 mode, .bool root] w (fun e w' => e = .returned (.bool true) ∧ Below w.heap.size w w') := by
  cases hL : largeB xs m k
  · cases hM : largeB ys m' k'
    · by_cases hk : 3000 < key.size
      · exact w_long lf A B C n c m d k e xs ks rs lf' A' B' C' n' c' m' d' k' e' ys js ss key kid fan mode root w hI hJ hL hM hk
      · exact w_main lf A B C n c m d k e xs ks rs lf' A' B' C' n' c' m' d' k' e' ys js ss key kid fan mode root w hI hJ hL hM hk
    · exact w_large2 lf A B C n c m d k e xs ks rs lf' A' B' C' n' c' m' d' k' e' ys js ss key kid fan mode root w hI hJ hL hM
  · exact w_large1 lf A B C n c m d k e xs ks rs lf' A' B' C' n' c' m' d' k' e' ys js ss key kid fan mode root w hI hJ hL


set_option maxRecDepth 100000 in
theorem lifted (os : Os) (started : os.Started) (H : Type) (enc : TypeId × Value → H) :
    ReturnsInHanded {} Try.checked os 4 .any (Rows.forkTellsSpec.pre6 enc Try.prog Try.f4 Rows.forkTellsRow.domain false) (Rows.forkTellsSpec.post enc Try.prog Try.f4 false true false false) := by
  refine returnsInHanded_of_change_sized (C := Try.checked) own started (by kernel_rfl) Try.func4
    (ChangeSpec.witness6 (enc := enc) (C := Try.checked) false ⟨#[], #[.agg #[.bool false, .slice none 0 0, .slice none 0 0, .slice none 0 0], .agg #[.bool false, .slice none 0 0, .slice none 0 0, .slice none 0 0], .string ⟨#[]⟩, .int .i64 0, .int .i64 0, .int .u8 0, .bool false], []⟩ 8 (by kernel_rfl) (by kernel_rfl) (by kernel_rfl) (by kernel_rfl)) ?_
  intro W base args ds gs before hval0 hW _ hsz _
  have hval : ∀ (j : Nat) t v, Try.f4.params[j]? = some t → args[j]? = some v → Value.okWide Try.prog W .any base t v := hval0
  have hW' := hW
  obtain ⟨p, q, hA0, hV, hbef, _, _⟩ := hW
  have hA : DataW.TrodAll enc Try.prog W 0 (fun _ => true) true Try.f4.params.toList args.toList ds p := hA0
  rw [Try.params4] at hA hval
  obtain ⟨v0, vs0, d0, ds0, p0, q0, hargs, rfl, rfl, h0, r0⟩ := trodAll_cons hA
  obtain ⟨v1, vs1, d1, ds1, p1, q1, rfl, rfl, rfl, h1, r1⟩ := trodAll_cons r0
  obtain ⟨v2, vs2, d2, ds2, p2, q2, rfl, rfl, rfl, h2, r2⟩ := trodAll_cons r1
  obtain ⟨v3, vs3, d3, ds3, p3, q3, rfl, rfl, rfl, h3, r3⟩ := trodAll_cons r2
  obtain ⟨v4, vs4, d4, ds4, p4, q4, rfl, rfl, rfl, h4, r4⟩ := trodAll_cons r3
  obtain ⟨v5, vs5, d5, ds5, p5, q5, rfl, rfl, rfl, h5, r5⟩ := trodAll_cons r4
  obtain ⟨v6, vs6, d6, ds6, p6, q6, rfl, rfl, rfl, h6, r6⟩ := trodAll_cons r5
  obtain ⟨rfl, rfl, rfl⟩ := trodAll_nil r6
  obtain rfl : args = #[v0, v1, v2, v3, v4, v5, v6] := by cases args; simp_all
  obtain ⟨rfl, rfl⟩ := trodVars_none hV
  obtain ⟨lf0, A0, B0, C0, n0, c0, m0, d0_, k0, e0, xs0, ks0, rs0, rfl, nn0⟩ := open_node (hval 0 28 v0 rfl rfl) h0 (weight_at (ts := Try.f4.params.toList) hsz (j := 0) (by rw [Try.params4]; rfl) rfl)
  obtain ⟨lf1, A1, B1, C1, n1, c1, m1, d1_, k1, e1, xs1, ks1, rs1, rfl, nn1⟩ := open_node (hval 1 28 v1 rfl rfl) h1 (weight_at (ts := Try.f4.params.toList) hsz (j := 1) (by rw [Try.params4]; rfl) rfl)
  obtain ⟨s2, rfl, _, _, w2⟩ := open_string Try.underlying9 (hval 2 9 v2 rfl rfl) h2
  obtain ⟨a3, rfl, _, _, w3⟩ := open_int Try.underlying3 (hval 3 3 v3 rfl rfl) h3
  obtain ⟨a4, rfl, _, _, w4⟩ := open_int Try.underlying3 (hval 4 3 v4 rfl rfl) h4
  obtain ⟨a5, rfl, _, _, w5⟩ := open_int Try.underlying5 (hval 5 5 v5 rfl rfl) h5
  obtain ⟨a6, rfl, _, _⟩ := open_bool Try.underlying4 (hval 6 4 v6 rfl rfl) h6
  refine (walk lf0 A0 B0 C0 n0 c0 m0 d0_ k0 e0 xs0 ks0 rs0 lf1 A1 B1 C1 n1 c1 m1 d1_ k1 e1 xs1 ks1 rs1 s2 a3 a4 a5 a6 W nn0 nn1).mono fun e W' ⟨he, hb⟩ => ?_
  subst he
  exact ⟨_, rfl, law_post laidOut (of_decide_eq_true (by kernel_rfl)) rfl Try.underlying4 rfl rfl hW' hb⟩

theorem over : Rows.forkTellsRow.holds Try.pinned (OpenSpec.ofChange Rows.forkTellsSpec) :=
  OpenClaim.holds_of_wide 4 Try.f4 rfl rfl rfl rfl rfl rfl rfl ⟨rfl, rfl, rfl, rfl, rfl⟩ rfl rfl rfl rfl rfl (by kernel_rfl) Try.func4 (by kernel_rfl)
    (of_decide_eq_true (by kernel_rfl)) (by unfold Func.isWrapper; first | (rw [if_pos (by decide +kernel)]; kernel_rfl) | (rw [if_neg (by decide +kernel)]; exact ⟨rfl, rfl⟩))
    (fun os started H enc _ => lifted os started H enc)

end Go.Proofs.Ytiojjpmkiljngaa.forkTells
namespace Go.Proofs.Ytiojjpmkiljngaa
theorem forkTells_holds : Rows.ForkTellsSaid := forkTells.over
end Go.Proofs.Ytiojjpmkiljngaa
