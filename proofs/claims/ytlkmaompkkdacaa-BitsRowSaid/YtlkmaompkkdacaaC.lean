/- Comparing bytes, making bytes of one's own, and the six functions of package bits on bytes. -/
import Derived.Test.YtlkmaompkkdacaaB
import Derived.Laws.AppendOwnNone
namespace Go.Proofs.Ytlkmaompkkdacaa
open Go.ChangeShapes Go.WideShapes Go.ChangeAt Go.RowKit

/-- are they the same bytes? -/
def eqB (xs ys : List Int) : Bool := decide (xs = ys)
theorem eqB_yes {xs ys : List Int} (h : xs = ys) : eqB xs ys = true := by simp [eqB, h]
theorem eqB_no {xs ys : List Int} (h : xs ≠ ys) : eqB xs ys = false := by simp [eqB, h]
theorem eqB_of_all {xs ys : List Int} {n : Nat} (h1 : xs.length = n) (h2 : ys.length = n) (h : ∀ j, j < n → xs.getD j 0 = ys.getD j 0) : eqB xs ys = true := by
  refine eqB_yes (List.ext_getElem (by omega) fun i hi hj => ?_)
  have := h i (by omega)
  simpa [List.getD_eq_getElem?_getD, hi, hj] using this
theorem eqB_of_one {xs ys : List Int} {j : Nat} (h : xs.getD j 0 ≠ ys.getD j 0) : eqB xs ys = false := eqB_no (fun e => h (by rw [e]))
theorem eqB_of_len {xs ys : List Int} (h : xs.length ≠ ys.length) : eqB xs ys = false := eqB_no (fun e => h (by rw [e]))

/-- a bool's ending, its value named -/
theorem ret_bool {a b : Bool} (h : a = b) : Ending.returned (.bool a) = .returned (.bool b) := by rw [h]

set_option maxHeartbeats 400000 in
theorem bytes_any (A A' : Option Addr) (n m c c' : Nat) (xs ys : List Int) (w : World) (hx : RdB w A n xs) (hy : RdB w A' m ys) (hn : n ≤ 140737488355328) (hm : m ≤ 140737488355328) :
    Calls Try.prog 14 #[.slice A n c, .slice A' m c'] w fun e w' => e = .returned (.bool (eqB xs ys)) ∧ ∃ d, w' = w.drewN d := by
  by_cases hnm : n = m
  · subst hnm
    have Hx := Lib.hid hx
    have Hy := Lib.hid hy
    clear hx hy
    go_enter Try.func14, Try.ntmps14
    go_wp2
    go_loopw [5] (fun i wr => ∃ k : Nat, k ≤ n ∧ i = .int .i64 k ∧ (∀ j, j < k → xs.getD j 0 = ys.getD j 0) ∧ ∃ d, wr = w.drewN d) (fun i _ => n - (intOf i).toNat)
    case atStart => exact ⟨0, by omega, rfl, fun j hj => by omega, 0, rfl⟩
    case round =>
      obtain ⟨k, hk, rfl, hall, d, rfl⟩ := hrel
      have Hall := Lib.hid hall
      clear hall
      by_cases hlt : k < n
      · obtain ⟨g, off, rfl, hc⟩ := Hx.out.at_ (by omega)
        obtain ⟨g', off', rfl, hc'⟩ := Hy.out.at_ (by omega)
        have h1 : w.cell? ⟨g, off + k, none⟩ = some (.int .u8 (xs.getD k 0)) := hc k hlt
        have h2 : w.cell? ⟨g', off' + k, none⟩ = some (.int .u8 (ys.getD k 0)) := hc' k hlt
        clear hc hc'
        have hki : (k : Int) < (n : Int) := by omega
        obtain ⟨x, hx⟩ : ∃ x, xs.getD k 0 = x := ⟨_, rfl⟩
        obtain ⟨y, hy⟩ : ∃ y, ys.getD k 0 = y := ⟨_, rfl⟩
        rw [hx] at h1
        rw [hy] at h2
        have HX := Lib.hid hx
        have HY := Lib.hid hy
        clear hx hy
        by_cases he : x = y
        · subst he
          go_wp2
          go_quiet (fail)
          go_wp2
          go_roundw
          case rel =>
            refine ⟨k + 1, by omega, by go_num, fun j hj => ?_, d + nq, by first | rfl | simp⟩
            by_cases e : j = k
            · subst e; rw [HX.out, HY.out]
            · exact Hall.out j (by omega)
          case measure => simp [intOf]; omega
        · have hb : (x != y) = true := by simpa using he
          have He : Hid (xs.getD k 0 ≠ ys.getD k 0) := by rw [HX.out, HY.out]; exact he
          clear he
          go_wp2
          go_quiet (fail)
          go_wp2
          go_ret
          exact ⟨ret_bool (eqB_of_one He.out).symm, d + nq, by first | rfl | simp⟩
      · obtain rfl : k = n := by omega
        go_wp2
        go_ret
        exact ⟨ret_bool (eqB_of_all Hx.out.1 Hy.out.1 Hall.out).symm, d, rfl⟩
  · have hne : ((n : Int) != (m : Int)) = true := by simp; omega
    have e := Lib.hid (eqB_of_len (xs := xs) (ys := ys) (by rw [hx.1, hy.1]; exact hnm))
    clear hx hy hnm
    go_enter Try.func14, Try.ntmps14
    go_wp2
    go_ret
    exact ⟨ret_bool e.out.symm, 0, rfl⟩

theorem u8info : (Try.prog.info? 5).map (fun i => (i.zero, i.size, i.bytes)) = some (some (.int .u8 0), 1, 1) := by kernel_rfl
theorem owns_base {w : World} {B B' : Nat} {e : TypeId} {s : Nat} {v : Value} {n : Nat} {xs : List Value} (h : w.ownsRow B e s v n xs) (hB : B' ≤ B) : w.ownsRow B' e s v n xs :=
  ⟨h.1, h.2.imp id fun ⟨g, cap, cur, a, b, r⟩ => ⟨g, cap, cur, a, by omega, r⟩⟩
theorem u8s_one (bs : List Int) : ∀ u ∈ u8s bs, u.oneCell' = true := by
  intro u hu
  obtain ⟨x, _, rfl⟩ := List.mem_map.1 hu
  rfl

/-- bytes of the call's own -/
def OwnB (W : World) (v : Value) (n : Nat) (bs : List Int) (w' : World) : Prop :=
  ∃ g c, v = .slice (some ⟨g, 0, none⟩) n c ∧ W.heap.size ≤ g ∧ g < w'.heap.size ∧ w'.ownsRow 0 5 1 v n (u8s bs)
theorem OwnB.of_row {W w' : World} {v : Value} {n : Nat} {bs : List Int} (h : w'.ownsRow W.heap.size 5 1 v n (u8s bs)) (hv : v ≠ .slice none 0 0) : OwnB W v n bs w' := by
  rcases h.2 with ⟨h0, _⟩ | ⟨g, cap, cur, rfl, hg, _⟩
  · exact absurd h0 hv
  · exact ⟨g, cap, rfl, hg, (h.lt g rfl).2, owns_base h (Nat.zero_le _)⟩

set_option maxHeartbeats 400000 in
theorem own_any (A : Option Addr) (n c : Nat) (bs : List Int) (w : World) (hr : RdB w A n bs) (hn : n ≤ 1048576) (hA : A = none → c = 0) (hb : ∀ ad, A = some ad → 0 < n → ad.block < w.heap.size) :
    Calls Try.prog 20 #[.slice A n c] w fun e w' => ∃ v, e = .returned v ∧ OwnB w v n bs w' ∧ Below w.heap.size w w' := by
  obtain ⟨i0, hi0, hz0, hz1, hz2⟩ := info_parts u8info
  have hown0 : (w.alloc (.cells #[] 5)).ownsRow w.heap.size 5 1 (.slice (some ⟨w.heap.size, 0, none⟩) 0 0) 0 [] := World.ownsRow_lit w #[] 0 (Nat.le_refl _) (by unfold maxLen; omega) rfl
  rcases A with _ | ad
  · obtain rfl : n = 0 := by
      rcases Nat.eq_zero_or_pos n with h | h
      · exact h
      · obtain ⟨g, off, hA', _⟩ := hr.at_ h
        cases hA'
    obtain rfl : c = 0 := hA rfl
    obtain rfl : bs = [] := List.eq_nil_of_length_eq_zero hr.1
    clear hr hA hb
    go_enter Try.func20, Try.ntmps20
    go_wp2_with (at_builtin; refine wpList_append_own_none rfl (.tmp 3) (.tmp 4) _ rfl w.heap.size 5 i0 1 Try.underlying24 hi0 (.slice (some ⟨w.heap.size, 0, none⟩) 0 0) 0 [] rfl hown0 rfl ?_)
    go_ret
    exact ⟨_, rfl, OwnB.of_row (bs := []) hown0 (by simp), (Below.refl _ _).alloc (Nat.le_refl _) _⟩
  · have hcells : ∀ j u, (u8s bs)[j]? = some u → (w.alloc (.cells #[] 5)).cell? (ad.add j) = some u := by
      intro j u hu
      have hj : j < n := by
        have := (List.getElem?_eq_some_iff.1 hu).1
        rw [u8s_len, hr.1] at this; exact this
      obtain ⟨g, off, hA', hc⟩ := hr.at_ (by omega)
      cases hA'
      rw [u8s_get bs j (by rw [hr.1]; exact hj)] at hu
      rw [add_plain, World.cell?_alloc_lt w _ _ (by have := hb _ rfl (by omega); simpa using this), hc j hj]
      exact hu
    have hlen := hr.1
    have Hcells := Lib.hid hcells
    have Hlen := Lib.hid hlen
    clear hr hA hb hcells hlen
    go_enter Try.func20, Try.ntmps20
    go_wp2_with (at_builtin; refine wpList_append_own _ rfl (.tmp 3) (.tmp 4) _ rfl w.heap.size 5 i0 _ 1 1 Try.underlying24 hi0 hz0 hz1 hz2 rfl (by omega) (.slice (some ⟨w.heap.size, 0, none⟩) 0 0) 0 [] rfl hown0 ad n c (u8s bs) rfl (by rw [u8s_len, Hlen.out, Nat.mul_one]) Hcells.out (u8s_one bs) (by unfold maxLen; omega) (by omega) (by simp) ?_; intro v' w1 hown' hgrow hnil)
    go_ret
    have hv : v' ≠ .slice none 0 0 := fun e => by have := hnil.1 e; simp at this
    simp only [Nat.zero_add, List.nil_append] at hown'
    exact ⟨v', rfl, OwnB.of_row hown' hv, ((Below.refl _ _).alloc (Nat.le_refl _) _).grown hgrow (by simp) (fun k hk => by simp [Value.ownBlock] at hk; omega)⟩

/-- what a number's writing leaves, at any place -/
def putAt (bs : List Int) (at_ : Int) (wd : Nat) (m : Int) : List Int := if inB bs.length at_ wd = true then putI bs at_.toNat wd m else bs
/-- the number at any place -/
def getAt (bs : List Int) (at_ : Int) (wd : Nat) : Int := if inB bs.length at_ wd = true then getI bs at_.toNat wd else 0
theorem putAt_len (bs : List Int) (at_ : Int) (wd : Nat) (m : Int) : (putAt bs at_ wd m).length = bs.length := by
  unfold putAt; split
  · exact putI_len _ _ _ _
  · rfl
theorem isBytes.putAt {bs : List Int} (h : isBytes bs) (at_ : Int) (wd : Nat) (m : Int) : isBytes (putAt bs at_ wd m) := by
  unfold Ytlkmaompkkdacaa.putAt; split
  · exact isBytes.putI _ _ _ h
  · exact h
/-- a row of bytes at the head of block g -/
def Row (w : World) (g n c : Nat) (bs : List Int) : Prop := w.ownsRow 0 5 1 (.slice (some ⟨g, 0, none⟩) n c) n (u8s bs)
theorem Row.len {w : World} {g n c : Nat} {bs : List Int} (h : Row w g n c bs) : bs.length = n := by have := h.1; rw [u8s_len] at this; omega
theorem Row.reads {w : World} {g n c : Nat} {bs : List Int} (h : Row w g n c bs) : RdB w (some ⟨g, 0, none⟩) n bs := RdB.of_own h
theorem Row.lt {w : World} {g n c : Nat} {bs : List Int} (h : Row w g n c bs) : g < w.heap.size := (World.ownsRow.lt h g rfl).2
theorem Row.kept {w w' : World} {g n c g' : Nat} {bs : List Int} (h : Row w g n c bs) (hg : w.grownBy w' (some g')) (hne : g ≠ g') : Row w' g n c bs :=
  World.ownsRow.kept h hg (Or.inr (by simp [Value.ownBlock]; exact hne))
theorem Row.below {w w' : World} {g n c B : Nat} {bs : List Int} (h : Row w g n c bs) (hb : Below B w w') (hg : g < B) : Row w' g n c bs := by
  refine ⟨h.1, ?_⟩
  rcases h.2 with ⟨h', _⟩ | ⟨g', cap', cur, h', hb', hh, hr⟩
  · simp at h'
  · have hgg : g' = g := by simp at h'; exact h'.1.symm
    subst hgg
    exact .inr ⟨g', cap', cur, h', hb', (hb.block g' hg).trans hh, hr⟩
theorem Row.drewN {w : World} {g n c : Nat} {bs : List Int} (h : Row w g n c bs) (k : Nat) : Row (w.drewN k) g n c bs := h
theorem below_grown {B : Nat} {a w w' : World} {g : Nat} (h : Below B a w) (hg : w.grownBy w' (some g)) (hB : B ≤ w.heap.size) (hr : B ≤ g) : Below B a w' :=
  h.grown hg hB (fun k hk => by cases hk; exact hr)

set_option maxHeartbeats 400000 in
theorem Put64_any (g n c : Nat) (at_ m : Int) (w : World) (bs : List Int) (hown : Row w g n c bs) (hn : n ≤ 140737488355328) (hm : 0 ≤ m) :
    Calls Try.prog 13 #[.slice (some ⟨g, 0, none⟩) n c, .int .i64 at_, .int .u64 m] w fun e w' => e = .returned (.bool (inB n at_ 8)) ∧ Row w' g n c (putAt bs at_ 8 m) ∧ w.grownBy w' (some g) := by
  have hl := hown.len
  by_cases hi : inB n at_ 8 = true
  · obtain ⟨a, rfl⟩ := Int.eq_ofNat_of_zero_le (inB_yes hi).1
    have e1 : Hid (putAt bs a 8 m = putI bs a 8 m) := by show _ = _; unfold putAt; rw [hl]; exact (if_pos hi).trans (by simp)
    have Hl := Lib.hid hl
    clear hl
    have Hi := Lib.hid hi
    clear hi
    go_enter Try.func13, Try.ntmps13
    go_wp2_with (go_at_call 27; refine (put64_yes _ _ _ _ _ _ 0 bs hown hn Hi.out hm).mono ?_; rintro e w' ⟨rfl, h1, h2⟩)
    go_ret
    refine ⟨ret_bool Hi.out.symm, ?_, h2⟩
    rw [e1.out]; exact h1
  · have hi' : inB n at_ 8 = false := by simpa using hi
    have e1 : Hid (putAt bs at_ 8 m = bs) := by show _ = _; unfold putAt; rw [hl]; exact if_neg hi
    have Hi := Lib.hid hi'
    clear hi hi' hl
    go_enter Try.func13, Try.ntmps13
    go_wp2_with (go_at_call 27; refine (put64_no _ _ _ _ _ _ hn Hi.out).mono ?_; rintro e w' ⟨rfl, rfl⟩)
    go_ret
    refine ⟨ret_bool Hi.out.symm, ?_, World.grownBy.refl _ _⟩
    rw [e1.out]; exact hown

set_option maxHeartbeats 400000 in
theorem Put64_nil (at_ m : Int) (w : World) :
    Calls Try.prog 13 #[.slice none 0 0, .int .i64 at_, .int .u64 m] w fun e w' => e = .returned (.bool false) ∧ w = w' := by
  have hi : inB 0 at_ 8 = false := by
    unfold inB; exact decide_eq_false (by omega)
  have Hi := Lib.hid hi
  clear hi
  go_enter Try.func13, Try.ntmps13
  go_wp2_with (go_at_call 27; refine (put64_no _ _ _ _ _ _ (by omega) Hi.out).mono ?_; rintro e w' ⟨rfl, rfl⟩)
  go_ret
  exact ⟨rfl, rfl⟩

theorem getAt_yes64 {bs : List Int} {n : Nat} {at_ : Int} (hl : bs.length = n) (hi : inB n at_ 8 = true) : getAt bs at_ 8 = getI bs at_.toNat 8 := by unfold getAt; rw [hl]; exact if_pos hi
theorem getAt_no64 {bs : List Int} {n : Nat} {at_ : Int} (hl : bs.length = n) (hi : inB n at_ 8 = false) : getAt bs at_ 8 = 0 := by unfold getAt; rw [hl]; exact if_neg (by have h := hi; intro h2; rw [show inB n at_ 8 = true from h2] at h; cases h)
set_option maxHeartbeats 400000 in
theorem Get64_any (A : Option Addr) (n c : Nat) (at_ : Int) (w : World) (bs : List Int) (hr : RdB w A n bs) (hb : isBytes bs) (hn : n ≤ 140737488355328) :
    Calls Try.prog 12 #[.slice A n c, .int .i64 at_] w fun e w' => e = .returned (.tuple #[.int .u64 (getAt bs at_ 8), .bool (inB n at_ 8)]) ∧ w = w' := by
  have hl := hr.1
  by_cases hi : inB n at_ 8 = true
  · obtain ⟨a, rfl⟩ := Int.eq_ofNat_of_zero_le (inB_yes hi).1
    have e1 := Lib.hid (getAt_yes64 hl hi)
    have Hi := Lib.hid hi
    clear hi hl
    go_enter Try.func12, Try.ntmps12
    go_wp2_with (go_at_call 26; refine (get64_yes _ _ _ _ _ bs hr hb hn Hi.out).mono ?_; rintro e w' ⟨rfl, rfl⟩)
    go_ret2
    exact ⟨ret_any (by rw [e1.out, Hi.out]; rfl), rfl⟩
  · have hi' : inB n at_ 8 = false := by simpa using hi
    have e1 := Lib.hid (getAt_no64 hl hi')
    have Hi := Lib.hid hi'
    clear hi hi' hl
    go_enter Try.func12, Try.ntmps12
    go_wp2_with (go_at_call 26; refine (get64_no _ _ _ _ _ hn Hi.out).mono ?_; rintro e w' ⟨rfl, rfl⟩)
    go_ret2
    exact ⟨ret_any (by rw [e1.out, Hi.out]; rfl), rfl⟩

set_option maxHeartbeats 400000 in
theorem Put16_any (g n c : Nat) (at_ m : Int) (w : World) (bs : List Int) (hown : Row w g n c bs) (hn : n ≤ 140737488355328) (hm : 0 ≤ m) :
    Calls Try.prog 18 #[.slice (some ⟨g, 0, none⟩) n c, .int .i64 at_, .int .u16 m] w fun e w' => e = .returned (.bool (inB n at_ 2)) ∧ Row w' g n c (putAt bs at_ 2 m) ∧ w.grownBy w' (some g) := by
  have hl := hown.len
  by_cases hi : inB n at_ 2 = true
  · obtain ⟨a, rfl⟩ := Int.eq_ofNat_of_zero_le (inB_yes hi).1
    have e1 : Hid (putAt bs a 2 m = putI bs a 2 m) := by show _ = _; unfold putAt; rw [hl]; exact (if_pos hi).trans (by simp)
    have Hl := Lib.hid hl
    clear hl
    have Hi := Lib.hid hi
    clear hi
    go_enter Try.func18, Try.ntmps18
    go_wp2_with (go_at_call 30; refine (put16_yes _ _ _ _ _ _ 0 bs hown hn Hi.out hm).mono ?_; rintro e w' ⟨rfl, h1, h2⟩)
    go_ret
    refine ⟨ret_bool Hi.out.symm, ?_, h2⟩
    rw [e1.out]; exact h1
  · have hi' : inB n at_ 2 = false := by simpa using hi
    have e1 : Hid (putAt bs at_ 2 m = bs) := by show _ = _; unfold putAt; rw [hl]; exact if_neg hi
    have Hi := Lib.hid hi'
    clear hi hi' hl
    go_enter Try.func18, Try.ntmps18
    go_wp2_with (go_at_call 30; refine (put16_no _ _ _ _ _ _ hn Hi.out).mono ?_; rintro e w' ⟨rfl, rfl⟩)
    go_ret
    refine ⟨ret_bool Hi.out.symm, ?_, World.grownBy.refl _ _⟩
    rw [e1.out]; exact hown

set_option maxHeartbeats 400000 in
theorem Put16_nil (at_ m : Int) (w : World) :
    Calls Try.prog 18 #[.slice none 0 0, .int .i64 at_, .int .u16 m] w fun e w' => e = .returned (.bool false) ∧ w = w' := by
  have hi : inB 0 at_ 2 = false := by
    unfold inB; exact decide_eq_false (by omega)
  have Hi := Lib.hid hi
  clear hi
  go_enter Try.func18, Try.ntmps18
  go_wp2_with (go_at_call 30; refine (put16_no _ _ _ _ _ _ (by omega) Hi.out).mono ?_; rintro e w' ⟨rfl, rfl⟩)
  go_ret
  exact ⟨rfl, rfl⟩

theorem getAt_yes16 {bs : List Int} {n : Nat} {at_ : Int} (hl : bs.length = n) (hi : inB n at_ 2 = true) : getAt bs at_ 2 = getI bs at_.toNat 2 := by unfold getAt; rw [hl]; exact if_pos hi
theorem getAt_no16 {bs : List Int} {n : Nat} {at_ : Int} (hl : bs.length = n) (hi : inB n at_ 2 = false) : getAt bs at_ 2 = 0 := by unfold getAt; rw [hl]; exact if_neg (by have h := hi; intro h2; rw [show inB n at_ 2 = true from h2] at h; cases h)
set_option maxHeartbeats 400000 in
theorem Get16_any (A : Option Addr) (n c : Nat) (at_ : Int) (w : World) (bs : List Int) (hr : RdB w A n bs) (hb : isBytes bs) (hn : n ≤ 140737488355328) :
    Calls Try.prog 15 #[.slice A n c, .int .i64 at_] w fun e w' => e = .returned (.tuple #[.int .u16 (getAt bs at_ 2), .bool (inB n at_ 2)]) ∧ w = w' := by
  have hl := hr.1
  by_cases hi : inB n at_ 2 = true
  · obtain ⟨a, rfl⟩ := Int.eq_ofNat_of_zero_le (inB_yes hi).1
    have e1 := Lib.hid (getAt_yes16 hl hi)
    have Hi := Lib.hid hi
    clear hi hl
    go_enter Try.func15, Try.ntmps15
    go_wp2_with (go_at_call 28; refine (get16_yes _ _ _ _ _ bs hr hb hn Hi.out).mono ?_; rintro e w' ⟨rfl, rfl⟩)
    go_ret2
    exact ⟨ret_any (by rw [e1.out, Hi.out]; rfl), rfl⟩
  · have hi' : inB n at_ 2 = false := by simpa using hi
    have e1 := Lib.hid (getAt_no16 hl hi')
    have Hi := Lib.hid hi'
    clear hi hi' hl
    go_enter Try.func15, Try.ntmps15
    go_wp2_with (go_at_call 28; refine (get16_no _ _ _ _ _ hn Hi.out).mono ?_; rintro e w' ⟨rfl, rfl⟩)
    go_ret2
    exact ⟨ret_any (by rw [e1.out, Hi.out]; rfl), rfl⟩

set_option maxHeartbeats 400000 in
theorem Put32_any (g n c : Nat) (at_ m : Int) (w : World) (bs : List Int) (hown : Row w g n c bs) (hn : n ≤ 140737488355328) (hm : 0 ≤ m) :
    Calls Try.prog 22 #[.slice (some ⟨g, 0, none⟩) n c, .int .i64 at_, .int .u32 m] w fun e w' => e = .returned (.bool (inB n at_ 4)) ∧ Row w' g n c (putAt bs at_ 4 m) ∧ w.grownBy w' (some g) := by
  have hl := hown.len
  by_cases hi : inB n at_ 4 = true
  · obtain ⟨a, rfl⟩ := Int.eq_ofNat_of_zero_le (inB_yes hi).1
    have e1 : Hid (putAt bs a 4 m = putI bs a 4 m) := by show _ = _; unfold putAt; rw [hl]; exact (if_pos hi).trans (by simp)
    have Hl := Lib.hid hl
    clear hl
    have Hi := Lib.hid hi
    clear hi
    go_enter Try.func22, Try.ntmps22
    go_wp2_with (go_at_call 31; refine (put32_yes _ _ _ _ _ _ 0 bs hown hn Hi.out hm).mono ?_; rintro e w' ⟨rfl, h1, h2⟩)
    go_ret
    refine ⟨ret_bool Hi.out.symm, ?_, h2⟩
    rw [e1.out]; exact h1
  · have hi' : inB n at_ 4 = false := by simpa using hi
    have e1 : Hid (putAt bs at_ 4 m = bs) := by show _ = _; unfold putAt; rw [hl]; exact if_neg hi
    have Hi := Lib.hid hi'
    clear hi hi' hl
    go_enter Try.func22, Try.ntmps22
    go_wp2_with (go_at_call 31; refine (put32_no _ _ _ _ _ _ hn Hi.out).mono ?_; rintro e w' ⟨rfl, rfl⟩)
    go_ret
    refine ⟨ret_bool Hi.out.symm, ?_, World.grownBy.refl _ _⟩
    rw [e1.out]; exact hown

set_option maxHeartbeats 400000 in
theorem Put32_nil (at_ m : Int) (w : World) :
    Calls Try.prog 22 #[.slice none 0 0, .int .i64 at_, .int .u32 m] w fun e w' => e = .returned (.bool false) ∧ w = w' := by
  have hi : inB 0 at_ 4 = false := by
    unfold inB; exact decide_eq_false (by omega)
  have Hi := Lib.hid hi
  clear hi
  go_enter Try.func22, Try.ntmps22
  go_wp2_with (go_at_call 31; refine (put32_no _ _ _ _ _ _ (by omega) Hi.out).mono ?_; rintro e w' ⟨rfl, rfl⟩)
  go_ret
  exact ⟨rfl, rfl⟩

theorem getAt_yes32 {bs : List Int} {n : Nat} {at_ : Int} (hl : bs.length = n) (hi : inB n at_ 4 = true) : getAt bs at_ 4 = getI bs at_.toNat 4 := by unfold getAt; rw [hl]; exact if_pos hi
theorem getAt_no32 {bs : List Int} {n : Nat} {at_ : Int} (hl : bs.length = n) (hi : inB n at_ 4 = false) : getAt bs at_ 4 = 0 := by unfold getAt; rw [hl]; exact if_neg (by have h := hi; intro h2; rw [show inB n at_ 4 = true from h2] at h; cases h)
set_option maxHeartbeats 400000 in
theorem Get32_any (A : Option Addr) (n c : Nat) (at_ : Int) (w : World) (bs : List Int) (hr : RdB w A n bs) (hb : isBytes bs) (hn : n ≤ 140737488355328) :
    Calls Try.prog 16 #[.slice A n c, .int .i64 at_] w fun e w' => e = .returned (.tuple #[.int .u32 (getAt bs at_ 4), .bool (inB n at_ 4)]) ∧ w = w' := by
  have hl := hr.1
  by_cases hi : inB n at_ 4 = true
  · obtain ⟨a, rfl⟩ := Int.eq_ofNat_of_zero_le (inB_yes hi).1
    have e1 := Lib.hid (getAt_yes32 hl hi)
    have Hi := Lib.hid hi
    clear hi hl
    go_enter Try.func16, Try.ntmps16
    go_wp2_with (go_at_call 29; refine (get32_yes _ _ _ _ _ bs hr hb hn Hi.out).mono ?_; rintro e w' ⟨rfl, rfl⟩)
    go_ret2
    exact ⟨ret_any (by rw [e1.out, Hi.out]; rfl), rfl⟩
  · have hi' : inB n at_ 4 = false := by simpa using hi
    have e1 := Lib.hid (getAt_no32 hl hi')
    have Hi := Lib.hid hi'
    clear hi hi' hl
    go_enter Try.func16, Try.ntmps16
    go_wp2_with (go_at_call 29; refine (get32_no _ _ _ _ _ hn Hi.out).mono ?_; rintro e w' ⟨rfl, rfl⟩)
    go_ret2
    exact ⟨ret_any (by rw [e1.out, Hi.out]; rfl), rfl⟩

set_option maxHeartbeats 400000 in
theorem rPut_any (g n c wd : Nat) (at_ m : Int) (w : World) (bs : List Int) (hown : Row w g n c bs) (hn : n ≤ 140737488355328) (hw : wd ≤ 8) (hm : 0 ≤ m) (hm2 : m ≤ 18446744073709551615) :
    Calls Try.prog 21 #[.slice (some ⟨g, 0, none⟩) n c, .int .i64 at_, .int .i64 wd, .int .u64 m] w fun e w' => e = .returned (.bool (inB n at_ wd)) ∧ Row w' g n c (putAt bs at_ wd m) ∧ w.grownBy w' (some g) := by
  have hl := hown.len
  by_cases hi : inB n at_ wd = true
  · obtain ⟨a, rfl⟩ := Int.eq_ofNat_of_zero_le (inB_yes hi).1
    refine (rput_yes _ _ _ _ _ _ _ 0 bs hown hn hw hi hm hm2).mono ?_
    rintro e w' ⟨rfl, h1, h2⟩
    refine ⟨ret_bool hi.symm, ?_, h2⟩
    unfold putAt; rw [hl, if_pos hi]; exact h1
  · have hi' : inB n at_ wd = false := by simpa using hi
    refine (rput_no _ _ _ _ _ _ _ hn (by omega) (by omega) hi').mono ?_
    rintro e w' ⟨rfl, rfl⟩
    refine ⟨ret_bool hi'.symm, ?_, World.grownBy.refl _ _⟩
    unfold putAt; rw [hl, if_neg (by simpa using hi)]; exact hown
theorem rGet_any (A : Option Addr) (n c wd : Nat) (at_ : Int) (w : World) (bs : List Int) (hr : RdB w A n bs) (hb : isBytes bs) (hn : n ≤ 140737488355328) (h0 : 0 < wd) (hw : wd ≤ 8) :
    Calls Try.prog 23 #[.slice A n c, .int .i64 at_, .int .i64 wd] w fun e w' => e = .returned (.tuple #[.int .u64 (getAt bs at_ wd), .bool (inB n at_ wd)]) ∧ w = w' := by
  have hl := hr.1
  by_cases hi : inB n at_ wd = true
  · obtain ⟨a, rfl⟩ := Int.eq_ofNat_of_zero_le (inB_yes hi).1
    refine (rget_yes _ _ _ _ _ _ bs hr hb hn h0 hw hi).mono ?_
    rintro e w' ⟨rfl, rfl⟩
    exact ⟨ret_any (by unfold getAt; rw [hl, if_pos hi, hi]; rfl), rfl⟩
  · have hi' : inB n at_ wd = false := by simpa using hi
    refine (rget_no _ _ _ _ _ _ hn (by omega) (by omega) hi').mono ?_
    rintro e w' ⟨rfl, rfl⟩
    exact ⟨ret_any (by unfold getAt; rw [hl, if_neg hi, hi']), rfl⟩
end Go.Proofs.Ytlkmaompkkdacaa
