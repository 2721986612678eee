/- Comparing bytes, making bytes of one's own, and the six functions of package bits on bytes. -/
import Derived.Test.YtbncpfkoeahhpaaBB
import Derived.Laws.AppendOwnNone
namespace Go.Proofs.Ytbncpfkoeahhpaa
open Go.ChangeShapes Go.WideShapes Go.ChangeAt Go.RowKit

/-- are they the same bytes? -/
def eqB (xs ys : List Int) : Bool := decide (xs = ys)
theorem eqB_yes {xs ys : List Int} (h : xs = ys) : eqB xs ys = true := by simp [eqB, h]
theorem eqB_no {xs ys : List Int} (h : xs ≠ ys) : eqB xs ys = false := by simp [eqB, h]
theorem eqB_of_all {xs ys : List Int} {n : Nat} (h1 : xs.length = n) (h2 : ys.length = n) (h : ∀ j, j < n → xs.getD j 0 = ys.getD j 0) : eqB xs ys = true := by
  refine eqB_yes (List.ext_getElem (by omega) fun i hi hj => ?_)
  have := h i (by omega)
  simpa [List.getD_eq_getElem?_getD, hi, hj] using this
theorem eqB_of_one {xs ys : List Int} {j : Nat} (h : xs.getD j 0 ≠ ys.getD j 0) : eqB xs ys = false := eqB_no (fun e => h (by rw [e]))
theorem eqB_of_len {xs ys : List Int} (h : xs.length ≠ ys.length) : eqB xs ys = false := eqB_no (fun e => h (by rw [e]))



theorem u8info : (Try.prog.info? 5).map (fun i => (i.zero, i.size, i.bytes)) = some (some (.int .u8 0), 1, 1) := by kernel_rfl
theorem owns_base {w : World} {B B' : Nat} {e : TypeId} {s : Nat} {v : Value} {n : Nat} {xs : List Value} (h : w.ownsRow B e s v n xs) (hB : B' ≤ B) : w.ownsRow B' e s v n xs :=
  ⟨h.1, h.2.imp id fun ⟨g, cap, cur, a, b, r⟩ => ⟨g, cap, cur, a, by omega, r⟩⟩
theorem u8s_one (bs : List Int) : ∀ u ∈ u8s bs, u.oneCell' = true := by
  intro u hu
  obtain ⟨x, _, rfl⟩ := List.mem_map.1 hu
  rfl

/-- bytes of the call's own -/
def OwnB (W : World) (v : Value) (n : Nat) (bs : List Int) (w' : World) : Prop :=
  ∃ g c, v = .slice (some ⟨g, 0, none⟩) n c ∧ W.heap.size ≤ g ∧ g < w'.heap.size ∧ w'.ownsRow 0 5 1 v n (u8s bs)
theorem OwnB.of_row {W w' : World} {v : Value} {n : Nat} {bs : List Int} (h : w'.ownsRow W.heap.size 5 1 v n (u8s bs)) (hv : v ≠ .slice none 0 0) : OwnB W v n bs w' := by
  rcases h.2 with ⟨h0, _⟩ | ⟨g, cap, cur, rfl, hg, _⟩
  · exact absurd h0 hv
  · exact ⟨g, cap, rfl, hg, (h.lt g rfl).2, owns_base h (Nat.zero_le _)⟩


/-- what a number's writing leaves, at any place -/
def putAt (bs : List Int) (at_ : Int) (wd : Nat) (m : Int) : List Int := if inB bs.length at_ wd = true then putI bs at_.toNat wd m else bs
/-- the number at any place -/
def getAt (bs : List Int) (at_ : Int) (wd : Nat) : Int := if inB bs.length at_ wd = true then getI bs at_.toNat wd else 0
theorem putAt_len (bs : List Int) (at_ : Int) (wd : Nat) (m : Int) : (putAt bs at_ wd m).length = bs.length := by
  unfold putAt; split
  · exact putI_len _ _ _ _
  · rfl
theorem isBytes.putAt {bs : List Int} (h : isBytes bs) (at_ : Int) (wd : Nat) (m : Int) : isBytes (putAt bs at_ wd m) := by
  unfold Ytbncpfkoeahhpaa.putAt; split
  · exact isBytes.putI _ _ _ h
  · exact h
/-- a row of bytes at the head of block g -/
def Row (w : World) (g n c : Nat) (bs : List Int) : Prop := w.ownsRow 0 5 1 (.slice (some ⟨g, 0, none⟩) n c) n (u8s bs)
theorem Row.len {w : World} {g n c : Nat} {bs : List Int} (h : Row w g n c bs) : bs.length = n := by have := h.1; rw [u8s_len] at this; omega
theorem Row.reads {w : World} {g n c : Nat} {bs : List Int} (h : Row w g n c bs) : RdB w (some ⟨g, 0, none⟩) n bs := RdB.of_own h
theorem Row.lt {w : World} {g n c : Nat} {bs : List Int} (h : Row w g n c bs) : g < w.heap.size := (World.ownsRow.lt h g rfl).2
theorem Row.kept {w w' : World} {g n c g' : Nat} {bs : List Int} (h : Row w g n c bs) (hg : w.grownBy w' (some g')) (hne : g ≠ g') : Row w' g n c bs :=
  World.ownsRow.kept h hg (Or.inr (by simp [Value.ownBlock]; exact hne))
theorem Row.below {w w' : World} {g n c B : Nat} {bs : List Int} (h : Row w g n c bs) (hb : Below B w w') (hg : g < B) : Row w' g n c bs := by
  refine ⟨h.1, ?_⟩
  rcases h.2 with ⟨h', _⟩ | ⟨g', cap', cur, h', hb', hh, hr⟩
  · simp at h'
  · have hgg : g' = g := by simp at h'; exact h'.1.symm
    subst hgg
    exact .inr ⟨g', cap', cur, h', hb', (hb.block g' hg).trans hh, hr⟩
theorem Row.drewN {w : World} {g n c : Nat} {bs : List Int} (h : Row w g n c bs) (k : Nat) : Row (w.drewN k) g n c bs := h
theorem below_grown {B : Nat} {a w w' : World} {g : Nat} (h : Below B a w) (hg : w.grownBy w' (some g)) (hB : B ≤ w.heap.size) (hr : B ≤ g) : Below B a w' :=
  h.grown hg hB (fun k hk => by cases hk; exact hr)

set_option maxHeartbeats 400000 in
theorem Put64_any (g n c : Nat) (at_ m : Int) (w : World) (bs : List Int) (hown : Row w g n c bs) (hn : n ≤ 140737488355328) (hm : 0 ≤ m) :
    Calls Try.prog 50 #[.slice (some ⟨g, 0, none⟩) n c, .int .i64 at_, .int .u64 m] w fun e w' => e = .returned (.bool (inB n at_ 8)) ∧ Row w' g n c (putAt bs at_ 8 m) ∧ w.grownBy w' (some g) := by
  have hl := hown.len
  by_cases hi : inB n at_ 8 = true
  · obtain ⟨a, rfl⟩ := Int.eq_ofNat_of_zero_le (inB_yes hi).1
    have e1 : Hid (putAt bs a 8 m = putI bs a 8 m) := by show _ = _; unfold putAt; rw [hl]; exact (if_pos hi).trans (by simp)
    have Hl := Lib.hid hl
    clear hl
    have Hi := Lib.hid hi
    clear hi
    go_enter Try.func50, Try.ntmps50
    go_wp2_with (go_at_call 68; refine (put64_yes _ _ _ _ _ _ 0 bs hown hn Hi.out hm).mono ?_; rintro e w' ⟨rfl, h1, h2⟩)
    go_ret
    refine ⟨ret_bool Hi.out.symm, ?_, h2⟩
    rw [e1.out]; exact h1
  · have hi' : inB n at_ 8 = false := by simpa using hi
    have e1 : Hid (putAt bs at_ 8 m = bs) := by show _ = _; unfold putAt; rw [hl]; exact if_neg hi
    have Hi := Lib.hid hi'
    clear hi hi' hl
    go_enter Try.func50, Try.ntmps50
    go_wp2_with (go_at_call 68; refine (put64_no _ _ _ _ _ _ hn Hi.out).mono ?_; rintro e w' ⟨rfl, rfl⟩)
    go_ret
    refine ⟨ret_bool Hi.out.symm, ?_, World.grownBy.refl _ _⟩
    rw [e1.out]; exact hown

set_option maxHeartbeats 400000 in
theorem Put64_nil (at_ m : Int) (w : World) :
    Calls Try.prog 50 #[.slice none 0 0, .int .i64 at_, .int .u64 m] w fun e w' => e = .returned (.bool false) ∧ w = w' := by
  have hi : inB 0 at_ 8 = false := by
    unfold inB; exact decide_eq_false (by omega)
  have Hi := Lib.hid hi
  clear hi
  go_enter Try.func50, Try.ntmps50
  go_wp2_with (go_at_call 68; refine (put64_no _ _ _ _ _ _ (by omega) Hi.out).mono ?_; rintro e w' ⟨rfl, rfl⟩)
  go_ret
  exact ⟨rfl, rfl⟩

theorem getAt_yes64 {bs : List Int} {n : Nat} {at_ : Int} (hl : bs.length = n) (hi : inB n at_ 8 = true) : getAt bs at_ 8 = getI bs at_.toNat 8 := by unfold getAt; rw [hl]; exact if_pos hi
theorem getAt_no64 {bs : List Int} {n : Nat} {at_ : Int} (hl : bs.length = n) (hi : inB n at_ 8 = false) : getAt bs at_ 8 = 0 := by unfold getAt; rw [hl]; exact if_neg (by have h := hi; intro h2; rw [show inB n at_ 8 = true from h2] at h; cases h)
set_option maxHeartbeats 400000 in
theorem Get64_any (A : Option Addr) (n c : Nat) (at_ : Int) (w : World) (bs : List Int) (hr : RdB w A n bs) (hb : isBytes bs) (hn : n ≤ 140737488355328) :
    Calls Try.prog 53 #[.slice A n c, .int .i64 at_] w fun e w' => e = .returned (.tuple #[.int .u64 (getAt bs at_ 8), .bool (inB n at_ 8)]) ∧ w = w' := by
  have hl := hr.1
  by_cases hi : inB n at_ 8 = true
  · obtain ⟨a, rfl⟩ := Int.eq_ofNat_of_zero_le (inB_yes hi).1
    have e1 := Lib.hid (getAt_yes64 hl hi)
    have Hi := Lib.hid hi
    clear hi hl
    go_enter Try.func53, Try.ntmps53
    go_wp2_with (go_at_call 70; refine (get64_yes _ _ _ _ _ bs hr hb hn Hi.out).mono ?_; rintro e w' ⟨rfl, rfl⟩)
    go_ret2
    exact ⟨ret_any (by rw [e1.out, Hi.out]; rfl), rfl⟩
  · have hi' : inB n at_ 8 = false := by simpa using hi
    have e1 := Lib.hid (getAt_no64 hl hi')
    have Hi := Lib.hid hi'
    clear hi hi' hl
    go_enter Try.func53, Try.ntmps53
    go_wp2_with (go_at_call 70; refine (get64_no _ _ _ _ _ hn Hi.out).mono ?_; rintro e w' ⟨rfl, rfl⟩)
    go_ret2
    exact ⟨ret_any (by rw [e1.out, Hi.out]; rfl), rfl⟩

set_option maxHeartbeats 400000 in
theorem Put16_any (g n c : Nat) (at_ m : Int) (w : World) (bs : List Int) (hown : Row w g n c bs) (hn : n ≤ 140737488355328) (hm : 0 ≤ m) :
    Calls Try.prog 51 #[.slice (some ⟨g, 0, none⟩) n c, .int .i64 at_, .int .u16 m] w fun e w' => e = .returned (.bool (inB n at_ 2)) ∧ Row w' g n c (putAt bs at_ 2 m) ∧ w.grownBy w' (some g) := by
  have hl := hown.len
  by_cases hi : inB n at_ 2 = true
  · obtain ⟨a, rfl⟩ := Int.eq_ofNat_of_zero_le (inB_yes hi).1
    have e1 : Hid (putAt bs a 2 m = putI bs a 2 m) := by show _ = _; unfold putAt; rw [hl]; exact (if_pos hi).trans (by simp)
    have Hl := Lib.hid hl
    clear hl
    have Hi := Lib.hid hi
    clear hi
    go_enter Try.func51, Try.ntmps51
    go_wp2_with (go_at_call 69; refine (put16_yes _ _ _ _ _ _ 0 bs hown hn Hi.out hm).mono ?_; rintro e w' ⟨rfl, h1, h2⟩)
    go_ret
    refine ⟨ret_bool Hi.out.symm, ?_, h2⟩
    rw [e1.out]; exact h1
  · have hi' : inB n at_ 2 = false := by simpa using hi
    have e1 : Hid (putAt bs at_ 2 m = bs) := by show _ = _; unfold putAt; rw [hl]; exact if_neg hi
    have Hi := Lib.hid hi'
    clear hi hi' hl
    go_enter Try.func51, Try.ntmps51
    go_wp2_with (go_at_call 69; refine (put16_no _ _ _ _ _ _ hn Hi.out).mono ?_; rintro e w' ⟨rfl, rfl⟩)
    go_ret
    refine ⟨ret_bool Hi.out.symm, ?_, World.grownBy.refl _ _⟩
    rw [e1.out]; exact hown

set_option maxHeartbeats 400000 in
theorem Put16_nil (at_ m : Int) (w : World) :
    Calls Try.prog 51 #[.slice none 0 0, .int .i64 at_, .int .u16 m] w fun e w' => e = .returned (.bool false) ∧ w = w' := by
  have hi : inB 0 at_ 2 = false := by
    unfold inB; exact decide_eq_false (by omega)
  have Hi := Lib.hid hi
  clear hi
  go_enter Try.func51, Try.ntmps51
  go_wp2_with (go_at_call 69; refine (put16_no _ _ _ _ _ _ (by omega) Hi.out).mono ?_; rintro e w' ⟨rfl, rfl⟩)
  go_ret
  exact ⟨rfl, rfl⟩

theorem getAt_yes16 {bs : List Int} {n : Nat} {at_ : Int} (hl : bs.length = n) (hi : inB n at_ 2 = true) : getAt bs at_ 2 = getI bs at_.toNat 2 := by unfold getAt; rw [hl]; exact if_pos hi
theorem getAt_no16 {bs : List Int} {n : Nat} {at_ : Int} (hl : bs.length = n) (hi : inB n at_ 2 = false) : getAt bs at_ 2 = 0 := by unfold getAt; rw [hl]; exact if_neg (by have h := hi; intro h2; rw [show inB n at_ 2 = true from h2] at h; cases h)
set_option maxHeartbeats 400000 in
theorem Get16_any (A : Option Addr) (n c : Nat) (at_ : Int) (w : World) (bs : List Int) (hr : RdB w A n bs) (hb : isBytes bs) (hn : n ≤ 140737488355328) :
    Calls Try.prog 54 #[.slice A n c, .int .i64 at_] w fun e w' => e = .returned (.tuple #[.int .u16 (getAt bs at_ 2), .bool (inB n at_ 2)]) ∧ w = w' := by
  have hl := hr.1
  by_cases hi : inB n at_ 2 = true
  · obtain ⟨a, rfl⟩ := Int.eq_ofNat_of_zero_le (inB_yes hi).1
    have e1 := Lib.hid (getAt_yes16 hl hi)
    have Hi := Lib.hid hi
    clear hi hl
    go_enter Try.func54, Try.ntmps54
    go_wp2_with (go_at_call 71; refine (get16_yes _ _ _ _ _ bs hr hb hn Hi.out).mono ?_; rintro e w' ⟨rfl, rfl⟩)
    go_ret2
    exact ⟨ret_any (by rw [e1.out, Hi.out]; rfl), rfl⟩
  · have hi' : inB n at_ 2 = false := by simpa using hi
    have e1 := Lib.hid (getAt_no16 hl hi')
    have Hi := Lib.hid hi'
    clear hi hi' hl
    go_enter Try.func54, Try.ntmps54
    go_wp2_with (go_at_call 71; refine (get16_no _ _ _ _ _ hn Hi.out).mono ?_; rintro e w' ⟨rfl, rfl⟩)
    go_ret2
    exact ⟨ret_any (by rw [e1.out, Hi.out]; rfl), rfl⟩



theorem getAt_yes32 {bs : List Int} {n : Nat} {at_ : Int} (hl : bs.length = n) (hi : inB n at_ 4 = true) : getAt bs at_ 4 = getI bs at_.toNat 4 := by unfold getAt; rw [hl]; exact if_pos hi
theorem getAt_no32 {bs : List Int} {n : Nat} {at_ : Int} (hl : bs.length = n) (hi : inB n at_ 4 = false) : getAt bs at_ 4 = 0 := by unfold getAt; rw [hl]; exact if_neg (by have h := hi; intro h2; rw [show inB n at_ 4 = true from h2] at h; cases h)

end Go.Proofs.Ytbncpfkoeahhpaa
