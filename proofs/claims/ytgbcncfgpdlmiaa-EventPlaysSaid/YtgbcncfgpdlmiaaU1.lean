/- The document's functions: a task's events, what is under way, the same answers. -/
import Derived.Test.YtgbcncfgpdlmiaaNV
import Derived.Deep.QuietTactic
import Derived.BigQuiet
namespace Go.Proofs.Ytgbcncfgpdlmiaa
open Go.ChangeShapes Go.WideShapes Go.ChangeAt Go.RowKit Go.Maps
set_option linter.unusedVariables false
set_option linter.unusedSimpArgs false

/-- a task's events among the first k ones -/
def ofR (t : Int) (Rs : List RE) (k : Nat) : List RE := (Rs.take k).filter (fun r => decide (r.1.2.1 = t))
theorem ofR_yes {t : Int} {Rs : List RE} {k : Nat} {r : RE} (h : Rs[k]? = some r) (e : r.1.2.1 = t) : ofR t Rs (k + 1) = ofR t Rs k ++ [r] := by
  unfold ofR
  rw [List.take_add_one, h]
  simp [List.filter_append, e]
theorem ofR_no {t : Int} {Rs : List RE} {k : Nat} {r : RE} (h : Rs[k]? = some r) (e : ¬ r.1.2.1 = t) : ofR t Rs (k + 1) = ofR t Rs k := by
  unfold ofR
  rw [List.take_add_one, h]
  simp [List.filter_append, e]
theorem ofR_len (t : Int) (Rs : List RE) (k : Nat) : (ofR t Rs k).length ≤ k :=
  Nat.le_trans (List.length_filter_le _ _) (by rw [List.length_take]; omega)
theorem ofR_mem {t : Int} {Rs : List RE} {k : Nat} {r : RE} (h : r ∈ ofR t Rs k) : r ∈ Rs := List.mem_of_mem_take (List.mem_filter.1 h).1
theorem ofR_cnt {t : Int} {Rs : List RE} {k : Nat} (h : Rs.length = k) : (ofR t Rs k).length = cnt (Rs.map Prod.fst) t := by
  unfold ofR cnt
  rw [List.take_of_length_le (by omega), List.filter_map, List.length_map]; rfl
def OfEnd (t : Int) (Rs : List RE) (n : Nat) (w : World) (e : Ending) (w' : World) : Prop := ∃ A c, e = .returned (.slice A (ofR t Rs n).length c) ∧ ROwn evc 7 w' w.heap.size 40 (.slice A (ofR t Rs n).length c) (ofR t Rs n).length (ofR t Rs n) ∧ Below w.heap.size w w'
set_option maxRecDepth 100000 in
set_option maxHeartbeats 4000000 in
theorem of_any (A : Option Addr) (m c : Nat) (Rs : List RE) (t : Int) (w : World) (h1 : EvS w A m Rs) (hm : m ≤ 100000) : Calls Try.prog 46 #[.slice A m c, .int .i64 t] w (OfEnd t Rs m w) := by
  have HS : Hid (∀ W, Below w.heap.size w W → EvS W A m Rs) := fun W hb => h1.later hb
  have HL : Hid (Rs.length = m) := h1.rd.1
  clear h1
  go_enter Try.func46, Try.ntmps46
  go_wp2
  go_loopw [5, 6] (fun o1 i W => ∃ (k : Nat) (v1 : Value), k ≤ m ∧ i = .int .i64 k ∧ v1 = o1 ∧ ROwn evc 7 W w.heap.size 40 v1 (ofR t Rs k).length (ofR t Rs k) ∧ Below w.heap.size w W) (fun _ i _ => m - (intOf i).toNat)
  case atStart => exact ⟨0, _, Nat.zero_le _, rfl, rfl, ROwn.nil0 _ _ _, Below.refl _ _⟩
  case round =>
    obtain ⟨k, v1, hk, rfl, rfl, ho, hb⟩ := hrel
    have HO := Lib.hid ho
    have HBW := Lib.hid hb
    clear ho hb
    by_cases hlt : k < m
    · have d1 : decide ((k : Int) < (m : Int)) = true := decide_eq_true (by omega)
      have wk : IntKind.i64.wrap ((k : Int) + 1) = (k : Int) + 1 := IntWalk.i64_in _ (by omega)
      have HLE : Hid ((ofR t Rs k).length ≤ 100000) := by
        have := ofR_len t Rs k
        show _ ≤ _
        omega
      obtain ⟨g, off, hAe, hg, hc⟩ := (HS.out _ HBW.out).rd.2 (by omega)
      subst hAe
      have i5 := idx32 g off m c k (k : Int) rfl hlt
      have hrk : Rs[k]? = some (Rs[k]'(by rw [HL.out]; exact hlt)) := List.getElem?_eq_getElem _
      have HRK := Lib.hid hrk
      generalize Rs[k]'(by rw [HL.out]; exact hlt) = r at *
      obtain ⟨⟨wh, t2, cl, er, fo, va, ps⟩, A1, n1, c1⟩ := r
      have x0 := hc k _ hrk 0 (by decide)
      have x1 := hc k _ hrk 1 (by decide)
      have x2 := hc k _ hrk 2 (by decide)
      have x3 := hc k _ hrk 3 (by decide)
      have x4 := hc k _ hrk 4 (by decide)
      have x5 := hc k _ hrk 5 (by decide)
      have x6 := hc k _ hrk 6 (by decide)
      simp only [evc, hdv, List.getElem?_cons_zero, List.getElem?_cons_succ, Nat.add_zero] at x0 x1 x2 x3 x4 x5 x6
      obtain ⟨r, hre⟩ : ∃ r : RE, r = ((wh, t2, cl, er, fo, va, ps), (A1, n1, c1)) := ⟨_, rfl⟩
      have HRE := Lib.hid hre
      rw [← hre] at HRK
      have hby : Below wr.heap.size wr (wr.alloc (.cells #[.int .u8 wh, .int .i64 t2, .int .i64 cl, .int .i64 er, .bool fo, .string va, .slice A1 n1 c1] 40)) := (Below.refl _ _).alloc (Nat.le_refl _) _
      have HX3 : Hid (RSl evc 7 (wr.alloc (.cells #[.int .u8 wh, .int .i64 t2, .int .i64 cl, .int .i64 er, .bool fo, .string va, .slice A1 n1 c1] 40)) (some ⟨wr.heap.size, 0, none⟩) 1 [r]) := by
        subst hre
        exact Blk.rsl (x := ((wh, t2, cl, er, fo, va, ps), (A1, n1, c1))) (Blk.new wr _ 40)
      have HB3 := Lib.hid (stepB HBW.out hby)
      clear hc hrk hg hre
      by_cases ht : t2 = t
      · have d2 : (t2 == t) = true := by rw [ht]; simp
        have HY := Lib.hid (ofR_yes (t := t) HRK.out (by rw [HRE.out]; exact ht))
        have HO3 := Lib.hid (HO.out.later hby)
        obtain ⟨Av, cv, hv, _, _⟩ := HO3.out.sl
        subst hv
        clear ht hby HO
        go_wp2_with (first
          | (at_builtin; refine append_row1 elemEv rfl (.tmp 20) (.tmp 25) rfl w.heap.size (.slice Av (ofR t Rs k).length cv) (ofR t Rs k).length (ofR t Rs k) rfl HO3.out wr.heap.size 1 r rfl HX3.out (by have := HLE.out; omega) (by decide) HB3.out.size ?_; intro A4 c4 w4 ho4 hg4 hn4)
          | fail)
        intro hl4
        have HB4 : Hid (Below w.heap.size w w4) := HB3.out.grown hg4 HB3.out.size (fun j e => (HO3.out.lt j e).1)
        have HO4 := Lib.hid ho4
        clear ho4 hg4 hn4 hl4 HX3 HO3 HB3
        go_wp2
        go_roundw
        case rel => exact ⟨k + 1, _, by omega, by go_num, rfl, by rw [HY.out, List.length_append]; exact HO4.out, HB4.out⟩
        case measure => simp [intOf]; omega
      · have d2 : (t2 == t) = false := by simp [ht]
        have HY := Lib.hid (ofR_no (t := t) HRK.out (by rw [HRE.out]; exact ht))
        clear ht hby HX3 HB3
        go_wp2
        go_roundw
        case rel => exact ⟨k + 1, v1, by omega, by go_num, rfl, by rw [HY.out]; exact HO.out, HBW.out⟩
        case measure => simp [intOf]; omega
    · obtain rfl : k = m := by omega
      have d1 : decide ((k : Int) < (k : Int)) = false := decide_eq_false (by omega)
      obtain ⟨Av, cv, hv, _, _⟩ := HO.out.sl
      subst hv
      go_wp2
      go_ret
      exact ⟨Av, cv, rfl, HO.out, HBW.out⟩
/-- what is under way, of a history that is legal -/
def rundV (L : List Ev) (t : Int) : Int × Bool × Bool := if cnt L t % 3 = 0 then (0, false, false) else (((cnt L t / 3 : Nat) : Int), decide (cnt L t % 3 = 2), true)
theorem rundV_of {tasks : Int} {L : List Ev} {t : Int} (h : t < 0 ∨ tasks ≤ t → cnt L t = 0) : undV tasks L t = rundV L t := by
  unfold undV rundV
  split
  · rename_i h2
    rw [h h2]; rfl
  · rfl
set_option maxRecDepth 100000 in
set_option maxHeartbeats 4000000 in
theorem runder_any (A : Option Addr) (m c : Nat) (Rs : List RE) (t : Int) (w : World) (h1 : EvS w A m Rs) (hm : m ≤ 100000) : Calls Try.prog 26 #[.slice A m c, .int .i64 t] w fun e w' => e = .returned (unV (rundV (Rs.map Prod.fst) t)) ∧ Below w.heap.size w w' := by
  have HOF := Lib.hid (of_any A m c Rs t w h1 hm)
  have hlen := ofR_cnt (t := t) h1.rd.1
  have hle := ofR_len t Rs m
  rw [hlen] at hle
  obtain ⟨n, hn⟩ : ∃ n, cnt (Rs.map Prod.fst) t = n := ⟨_, rfl⟩
  obtain ⟨r, hr⟩ : ∃ r, rundV (Rs.map Prod.fst) t = r := ⟨_, rfl⟩
  have hu : r = if n % 3 = 0 then (0, false, false) else (((n / 3 : Nat) : Int), decide (n % 3 = 2), true) := by
    rw [← hr, ← hn]; rfl
  rw [hr]
  rw [hn] at hlen hle
  have HLN := Lib.hid hlen
  clear h1 hr hn hlen
  go_enter Try.func26, Try.ntmps26
  go_wp2_with fail
  refine HOF.out.mono ?_
  rintro e w1 ⟨A1, c1, rfl, _, hb⟩
  have HB := Lib.hid hb
  rw [HLN.out]
  have q3 : ((n : Nat) : Int).tdiv 3 = ((n / 3 : Nat) : Int) := rfl
  have r3 : ((n : Nat) : Int).tmod 3 = ((n % 3 : Nat) : Int) := rfl
  obtain ⟨k, hk⟩ : ∃ k, n % 3 = k := ⟨_, rfl⟩
  have hk3 : k < 3 := by omega
  rw [hk] at hu r3
  have HR := Lib.hid hu
  clear hu hb HOF
  match k, hk3 with
  | 0, _ =>
    go_wp2
    go_ret3
    exact ⟨by rw [show r = (0, false, false) from HR.out]; rfl, HB.out⟩
  | 1, _ =>
    go_wp2
    go_ret3
    exact ⟨by rw [show r = (((n / 3 : Nat) : Int), false, true) from HR.out]; rfl, HB.out⟩
  | 2, _ =>
    go_wp2
    go_ret3
    exact ⟨by rw [show r = (((n / 3 : Nat) : Int), true, true) from HR.out]; rfl, HB.out⟩
end Go.Proofs.Ytgbcncfgpdlmiaa
