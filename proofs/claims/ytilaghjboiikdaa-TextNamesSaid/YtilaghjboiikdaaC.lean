/- Whether a key is within two bounds, what the document answers of configs, long texts, and the examples that each statement asks. -/
import Derived.Test.YtilaghjboiikdaaB
import Derived.Test.YtilaghjboiikdaaL2
namespace Go.Proofs.Ytilaghjboiikdaa
open Go.ChangeShapes Go.WideShapes Go.ChangeAt Go.RowKit

theorem tl (a : ByteArray) : a.toList = bl a := ByteArray.toList_eq a
/-- a world of the same memory -/
structure SameW (w w' : World) : Prop where
  heap : w'.heap = w.heap
  os : w'.os = w.os
  tape : w'.tape = w.tape
  output : w'.output = w.output
theorem SameW.refl (w : World) : SameW w w := ⟨rfl, rfl, rfl, rfl⟩
theorem SameW.trans {a b c : World} (h : SameW a b) (k : SameW b c) : SameW a c := ⟨k.heap.trans h.heap, k.os.trans h.os, k.tape.trans h.tape, k.output.trans h.output⟩
theorem SameW.below {w w' a : World} {B : Nat} (h : SameW w w') (b : Below B a w) : Below B a w' :=
  b.trans ⟨h.os, h.tape, h.output, by rw [h.heap]; exact Nat.le_refl _, fun k _ => by rw [h.heap]⟩
theorem SameW.drewN (w : World) (d : Nat) : SameW w (w.drewN d) := ⟨rfl, rfl, rfl, rfl⟩
/-- the order of two texts -/
def co (a b : ByteArray) : Int := Lib.compareBytes (bl a) (bl b)
theorem cmp_co (a b : ByteArray) (w : World) : Calls Try.prog 17 #[.string a, .string b] w fun e w' => e = .returned (.int .i64 (co a b)) ∧ w = w' := cmp a b w
theorem rcmp_co (a b : ByteArray) (w : World) (ha : a.size ≤ maxLen) (hb : b.size ≤ maxLen) : Calls Try.prog 23 #[.string a, .string b] w fun e w' => e = .returned (.int .i64 (co a b)) ∧ SameW w w' := by
  refine (rcmp_any a b w ha hb).mono ?_
  rintro e w' ⟨rfl, d, rfl⟩
  exact ⟨rfl, SameW.drewN w d⟩
theorem prefix_co (a b : ByteArray) (w : World) (ha : a.size ≤ maxLen) (hb : b.size ≤ maxLen) : Calls Try.prog 19 #[.string a, .string b] w fun e w' => e = .returned (.int .i64 (lcp (bl a) (bl b))) ∧ SameW w w' := by
  refine (prefix_any a b w ha hb).mono ?_
  rintro e w' ⟨rfl, d, rfl⟩
  exact ⟨rfl, SameW.drewN w d⟩
theorem rprefix_co (a b : ByteArray) (w : World) (ha : a.size ≤ maxLen) (hb : b.size ≤ maxLen) : Calls Try.prog 24 #[.string a, .string b] w fun e w' => e = .returned (.int .i64 (lcp (bl a) (bl b))) ∧ SameW w w' := by
  refine (rprefix_any a b w ha hb).mono ?_
  rintro e w' ⟨rfl, d, rfl⟩
  exact ⟨rfl, SameW.drewN w d⟩
theorem suffix_co (a b : ByteArray) (m : Int) (w : World) (ha : a.size ≤ maxLen) (hb : b.size ≤ maxLen) : Calls Try.prog 18 #[.string a, .string b, .int .i64 m] w fun e w' => e = .returned (.int .i64 (lcs (bl a) (bl b) m)) ∧ SameW w w' := by
  refine (suffix_any a b m w ha hb).mono ?_
  rintro e w' ⟨rfl, d, rfl⟩
  exact ⟨rfl, SameW.drewN w d⟩
theorem rsuffix_co (a b : ByteArray) (m : Int) (w : World) (ha : a.size ≤ maxLen) (hb : b.size ≤ maxLen) : Calls Try.prog 25 #[.string a, .string b, .int .i64 m] w fun e w' => e = .returned (.int .i64 (lcs (bl a) (bl b) m)) ∧ SameW w w' := by
  refine (rsuffix_any a b m w ha hb).mono ?_
  rintro e w' ⟨rfl, d, rfl⟩
  exact ⟨rfl, SameW.drewN w d⟩
/-- is a key within two bounds? -/
def wi (k f e : ByteArray) : Bool := inTwo (bl k) (bl f) (bl e)
theorem wi_1 {k f e : ByteArray} (h : ¬ 0 ≤ co k f) : wi k f e = false := by
  unfold wi inTwo; rw [decide_eq_false (show ¬ 0 ≤ Lib.compareBytes (bl k) (bl f) from h)]; rfl
theorem wi_2 {k f e : ByteArray} (h : 0 ≤ co k f) (h2 : e.toList = []) : wi k f e = true := by
  unfold wi inTwo; rw [decide_eq_true (show 0 ≤ Lib.compareBytes (bl k) (bl f) from h), decide_eq_true (show bl e = [] by rw [← tl]; exact h2)]; rfl
theorem wi_3 {k f e : ByteArray} (h : 0 ≤ co k f) (h2 : ¬ e.toList = []) : wi k f e = decide (co k e < 0) := by
  unfold wi inTwo; rw [decide_eq_true (show 0 ≤ Lib.compareBytes (bl k) (bl f) from h), decide_eq_false (show ¬ bl e = [] by rw [← tl]; exact h2)]; rfl
set_option maxHeartbeats 1000000 in
theorem within_any (k f e : ByteArray) (w : World) : Calls Try.prog 21 #[.string k, .string f, .string e] w fun x w' => x = .returned (.bool (wi k f e)) ∧ w = w' := by
  by_cases c1 : 0 ≤ co k f
  · by_cases c2 : e.toList = []
    · have R := Lib.hid (wi_2 c1 c2)
      have c3 : e.toList.isEmpty = true := by rw [c2]; rfl
      go_enter Try.func21, Try.ntmps21
      go_wp2_with (go_at_call 17; refine (cmp_co _ _ _).mono ?_; rintro x w1 ⟨rfl, rfl⟩)
      go_ret
      exact ⟨by rw [R.out]; rfl, rfl⟩
    · have R := Lib.hid (wi_3 c1 c2)
      have C3 : Hid (e.toList.isEmpty = false) := by show _ = _; rw [List.isEmpty_eq_false_iff]; exact c2
      have HX : Hid (∀ b : Bool, b = decide (co k e < 0) → Ending.returned (.bool b) = .returned (.bool (wi k f e))) := fun b h => by rw [R.out, h]
      go_enter Try.func21, Try.ntmps21
      go_wp2_with fail
      refine (cmp_co _ _ _).mono ?_
      rintro x w1 ⟨rfl, rfl⟩
      go_wp2_with fail
      refine (cmp_co _ _ _).mono ?_
      rintro x w1 ⟨rfl, rfl⟩
      go_wp2_with fail
      go_ret
      exact ⟨HX.out _ (by rw [C3.out]; rfl), rfl⟩
  · have R := Lib.hid (wi_1 (e := e) c1)
    go_enter Try.func21, Try.ntmps21
    go_wp2_with (go_at_call 17; refine (cmp_co _ _ _).mono ?_; rintro x w1 ⟨rfl, rfl⟩)
    go_ret
    exact ⟨by rw [R.out]; rfl, rfl⟩
theorem co_neg (a b : ByteArray) : co b a = - co a b := cb_neg _ _
set_option maxHeartbeats 1000000 in
theorem rwithin_any (k f e : ByteArray) (w : World) (hk : k.size ≤ maxLen) (hf : f.size ≤ maxLen) (he : e.size ≤ maxLen) : Calls Try.prog 27 #[.string k, .string f, .string e] w fun x w' => x = .returned (.bool (wi k f e)) ∧ SameW w w' := by
  have hn := co_neg k f
  by_cases c1 : 0 ≤ co k f
  · have d1 : co f k ≤ 0 := by omega
    by_cases c2 : e.toList = []
    · have R := Lib.hid (wi_2 c1 c2)
      have c3 : e.toList.isEmpty = true := by rw [c2]; rfl
      clear hn c1
      go_enter Try.func27, Try.ntmps27
      go_wp2_with fail
      refine (rcmp_co _ _ _ hf hk).mono ?_
      rintro x w1 ⟨rfl, hs⟩
      go_wp2_with fail
      go_ret
      exact ⟨by rw [R.out]; rfl, hs⟩
    · have R := Lib.hid (wi_3 c1 c2)
      have C3 : Hid (e.toList.isEmpty = false) := by show _ = _; rw [List.isEmpty_eq_false_iff]; exact c2
      have HX : Hid (∀ b : Bool, b = decide (co k e < 0) → Ending.returned (.bool b) = .returned (.bool (wi k f e))) := fun b h => by rw [R.out, h]
      clear hn c1
      go_enter Try.func27, Try.ntmps27
      go_wp2_with fail
      refine (rcmp_co _ _ _ hf hk).mono ?_
      rintro x w1 ⟨rfl, hs⟩
      go_wp2_with fail
      refine (rcmp_co _ _ _ hk he).mono ?_
      rintro x w1 ⟨rfl, hs'⟩
      go_wp2_with fail
      go_ret
      exact ⟨HX.out _ (by rw [C3.out]; rfl), hs.trans hs'⟩
  · have R := Lib.hid (wi_1 (e := e) c1)
    have d1 : ¬ co f k ≤ 0 := by omega
    clear hn c1
    go_enter Try.func27, Try.ntmps27
    go_wp2_with fail
    refine (rcmp_co _ _ _ hf hk).mono ?_
    rintro x w1 ⟨rfl, hs⟩
    go_wp2_with fail
    go_ret
    exact ⟨by rw [R.out]; rfl, hs⟩
/-- are texts too long together? -/
def longB (l : List ByteArray) : Bool := decide (9000 ≤ (l.map fun a => min (a.size : Int) 9000).sum)
def strs (l : List ByteArray) : List Value := l.map Value.string
def psum (l : List ByteArray) (k : Nat) : Int := ((l.take k).map fun a => min (a.size : Int) 9000).sum
theorem psum_succ (l : List ByteArray) (k : Nat) (h : k < l.length) : psum l (k + 1) = psum l k + min ((l[k]'h).size : Int) 9000 := by
  unfold psum; rw [List.take_succ_eq_append_getElem h, List.map_append, List.sum_append]; simp
theorem psum_bd (l : List ByteArray) : ∀ k, 0 ≤ psum l k ∧ psum l k ≤ 9000 * k
  | 0 => by simp [psum]
  | k + 1 => by
    have ih := psum_bd l k
    by_cases h : k < l.length
    · rw [psum_succ l k h]; omega
    · have e : psum l (k + 1) = psum l k := by unfold psum; rw [List.take_of_length_le (by omega), List.take_of_length_le (by omega)]
      rw [e]; omega
set_option maxHeartbeats 1000000 in
theorem long_any (l : List ByteArray) (g n : Nat) (w : World) (hl : l.length = n) (hn : n ≤ 100) (hg : w.heap[g]? = some (.cells (strs l).toArray 9 (0, 0))) (hs : ∀ a ∈ l, a.size ≤ maxLen) : Calls Try.prog 22 #[.slice (some ⟨g, 0, none⟩) n n] w fun x w' => x = .returned (.bool (longB l)) ∧ w = w' := by
  have HX : Hid (∀ b : Bool, b = decide (9000 ≤ psum l n) → Ending.returned (.bool b) = .returned (.bool (longB l))) := fun b h => by
    rw [h]; unfold psum longB; rw [List.take_of_length_le (by omega)]
  have Hl := Lib.hid hl
  have Hg := Lib.hid hg
  have Hs := Lib.hid hs
  clear hl hg hs
  go_enter Try.func22, Try.ntmps22
  go_wp2
  go_loop [3, 4] (fun s i => ∃ k : Nat, k ≤ n ∧ i = .int .i64 k ∧ s = .int .i64 (psum l k)) (fun _ i => n - (intOf i).toNat)
  case atStart => exact ⟨0, by omega, rfl, rfl⟩
  case round =>
    obtain ⟨k, hk, rfl, rfl⟩ := hrel
    have hb := psum_bd l k
    by_cases hlt : k < n
    · have hlk : k < l.length := by have := Hl.out; omega
      have hc : w.cell? ⟨g, k, none⟩ = some (.string (l[k]'hlk)) := by
        rw [cell_of_row w g k _ 9 (0, 0) Hg.out]; simp [strs, hlk]
      have hz : (l[k]'hlk).size ≤ maxLen := Hs.out _ (List.getElem_mem hlk)
      have hp := Lib.hid (psum_succ l k hlk)
      generalize l[k]'hlk = a at *
      unfold maxLen at hz
      by_cases hm : (a.size : Int) < 9000
      · go_wp2
        go_round
        case rel => exact ⟨k + 1, by omega, by go_num, by rw [hp.out, Int.min_eq_left (by omega)]⟩
        case measure => simp [intOf]; omega
      · go_wp2
        go_round
        case rel => exact ⟨k + 1, by omega, by go_num, by rw [hp.out, Int.min_eq_right (by omega)]; exact congrArg _ (by split <;> omega)⟩
        case measure => simp [intOf]; omega
    · obtain rfl : k = n := by omega
      go_wp2
      go_ret
      exact ⟨HX.out _ rfl, rfl⟩
/-- the example's config -/
def ex : Conf := ⟨2, 2, 3, 3, 9, 2, 1, 3⟩
def exr : Array Value := #[.int .i64 2, .int .i64 2, .int .i64 3, .int .i64 3, .int .i64 9, .int .i64 2, .int .i64 1, .int .i64 3]
theorem some_any (w : World) : Calls Try.prog 32 #[] w fun x w' => x = .returned ex.val ∧ Below w.heap.size w w' := by
  go_enter Try.func32, Try.ntmps32
  go_wp2
  exact bodyPost_ret (v := ex.val) (by simp [results, Try.results32, go_sem, ex, Conf.val]) rfl ⟨rfl, (Below.refl _ _).alloc (Nat.le_refl _) _⟩
set_option maxRecDepth 100000 in
set_option maxHeartbeats 4000000 in
theorem works_any (w : World) : Calls Try.prog 11 #[] w fun x w' => x = .returned (.bool true) ∧ Below w.heap.size w w' := by
  have hk := Lib.hid (fun s w hs => key_any ex s w hs)
  have hbd := Lib.hid (fun s w hs => bound_any ex s w hs)
  go_enter Try.func11, Try.ntmps11
  go_wp2_with fail
  refine (some_any _).mono ?_
  rintro x w1 ⟨rfl, hb⟩
  unfold Conf.val ex
  dsimp only
  go_wp2_with fail
  refine (cmp_co _ _ _).mono ?_
  rintro x _ ⟨rfl, rfl⟩
  rw [show co ⟨#[97]⟩ ⟨#[97, 98]⟩ = -1 from by decide]
  go_wp2_with fail
  refine (cmp_co _ _ _).mono ?_
  rintro x _ ⟨rfl, rfl⟩
  rw [show co ⟨#[98]⟩ ⟨#[97, 98]⟩ = 1 from by decide]
  go_wp2_with fail
  refine (cmp_co _ _ _).mono ?_
  rintro x _ ⟨rfl, rfl⟩
  rw [show co ⟨#[]⟩ ⟨#[]⟩ = 0 from by decide]
  go_wp2_with fail
  refine (prefix_co _ _ _ (by decide) (by decide)).mono ?_
  rintro x w2 ⟨rfl, hs⟩
  rw [show (lcp (bl ⟨#[97, 98, 99, 120]⟩) (bl ⟨#[97, 98, 100, 120]⟩) : Int) = 2 from by decide]
  have hs2 := Lib.hid hs
  clear hs
  go_wp2_with fail
  refine (suffix_co _ _ _ _ (by decide) (by decide)).mono ?_
  rintro x w3 ⟨rfl, hs⟩
  rw [show (lcs (bl ⟨#[97, 98, 99, 120]⟩) (bl ⟨#[97, 98, 100, 120]⟩) 9 : Int) = 1 from by decide]
  have hs3 := Lib.hid (hs2.out.trans hs)
  clear hs hs2
  go_wp2_with fail
  refine (suffix_co _ _ _ _ (by decide) (by decide)).mono ?_
  rintro x w4 ⟨rfl, hs⟩
  rw [show (lcs (bl ⟨#[97, 98, 99, 120]⟩) (bl ⟨#[97, 98, 100, 120]⟩) 0 : Int) = 0 from by decide]
  have hs4 := hs3.out.trans hs
  clear hs hs3
  have hb4 := Lib.hid (hs4.below (hb.alloc hb.size (.cells exr 28)))
  have hc4 : Hid (∀ j, w4.cell? ⟨w1.heap.size, j, none⟩ = exr[j]?) := fun j => (World.cell?_of_block (w := w1.alloc (.cells exr 28)) (a := ⟨w1.heap.size, j, none⟩) (by rw [hs4.heap]; rfl)).trans (cell_of_row _ _ j exr 28 (0, 0) (heap_alloc_new w1 _))
  have hz4 : w1.heap.size < w4.heap.size := by rw [hs4.heap]; simp
  clear hs4 hb
  go_wp2_with fail
  refine (next_any _ _ (by decide)).mono ?_
  rintro x _ ⟨rfl, rfl⟩
  rw [show (⟨#[97]⟩ : ByteArray) ++ ⟨#[0]⟩ = ⟨#[97, 0]⟩ from rfl]
  go_wp2_with fail
  refine (within_any _ _ _ _).mono ?_
  rintro x _ ⟨rfl, rfl⟩
  rw [show wi ⟨#[98]⟩ ⟨#[97]⟩ ⟨#[99]⟩ = true from by decide]
  go_wp2_with fail
  refine (within_any _ _ _ _).mono ?_
  rintro x _ ⟨rfl, rfl⟩
  rw [show wi ⟨#[99]⟩ ⟨#[97]⟩ ⟨#[99]⟩ = false from by decide]
  go_wp2_with fail
  refine (within_any _ _ _ _).mono ?_
  rintro x _ ⟨rfl, rfl⟩
  rw [show wi ⟨#[99]⟩ ⟨#[97]⟩ ⟨#[]⟩ = true from by decide]
  have hcj := hc4.out
  unfold exr at hcj
  go_wp2_with fail
  clear hcj
  refine (hk.out _ _ (by decide)).mono ?_
  rintro x w5 ⟨rfl, hb⟩
  rw [show lenB (mayB ex) ⟨#[97, 98]⟩ 1 ex.kl = true from by decide]
  have hb5 := Lib.hid (hb4.out.trans (hb.mono hb4.out.size))
  have hc5 : Hid (∀ j, w5.cell? ⟨w1.heap.size, j, none⟩ = exr[j]?) := fun j => (hb.cell (p := ⟨w1.heap.size, j, none⟩) hz4).trans (hc4.out j)
  have hz5 : w1.heap.size < w5.heap.size := Nat.lt_of_lt_of_le hz4 hb.size
  clear hb hc4 hb4
  have hcj := hc5.out
  unfold exr at hcj
  go_wp2_with fail
  clear hcj
  refine (hk.out _ _ (by decide)).mono ?_
  rintro x w6 ⟨rfl, hb⟩
  rw [show lenB (mayB ex) ⟨#[]⟩ 1 ex.kl = false from by decide]
  have hb6 := Lib.hid (hb5.out.trans (hb.mono hb5.out.size))
  have hc6 : Hid (∀ j, w6.cell? ⟨w1.heap.size, j, none⟩ = exr[j]?) := fun j => (hb.cell (p := ⟨w1.heap.size, j, none⟩) hz5).trans (hc5.out j)
  have hz6 : w1.heap.size < w6.heap.size := Nat.lt_of_lt_of_le hz5 hb.size
  clear hb hc5 hb5
  have hcj := hc6.out
  unfold exr at hcj
  go_wp2_with fail
  clear hcj
  refine (hk.out _ _ (by decide)).mono ?_
  rintro x w7 ⟨rfl, hb⟩
  rw [show lenB (mayB ex) ⟨#[97, 98, 99]⟩ 1 ex.kl = false from by decide]
  have hb7 := Lib.hid (hb6.out.trans (hb.mono hb6.out.size))
  have hc7 : Hid (∀ j, w7.cell? ⟨w1.heap.size, j, none⟩ = exr[j]?) := fun j => (hb.cell (p := ⟨w1.heap.size, j, none⟩) hz6).trans (hc6.out j)
  have hz7 : w1.heap.size < w7.heap.size := Nat.lt_of_lt_of_le hz6 hb.size
  clear hb hc6 hb6
  have hcj := hc7.out
  unfold exr at hcj
  go_wp2_with fail
  clear hcj
  refine (hbd.out _ _ (by decide)).mono ?_
  rintro x w8 ⟨rfl, hb⟩
  rw [show lenB (mayB ex) ⟨#[]⟩ 0 ex.kl = true from by decide]
  have hb8 := Lib.hid (hb7.out.trans (hb.mono hb7.out.size))
  have hc8 : Hid (∀ j, w8.cell? ⟨w1.heap.size, j, none⟩ = exr[j]?) := fun j => (hb.cell (p := ⟨w1.heap.size, j, none⟩) hz7).trans (hc7.out j)
  have hz8 : w1.heap.size < w8.heap.size := Nat.lt_of_lt_of_le hz7 hb.size
  clear hb hc7 hb7
  go_wp2_with fail
  go_ret
  exact ⟨rfl, hb8.out⟩
end Go.Proofs.Ytilaghjboiikdaa
