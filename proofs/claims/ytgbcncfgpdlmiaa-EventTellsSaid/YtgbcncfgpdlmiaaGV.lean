/- The document's places, as the program has them. -/
import Derived.Test.YtgbcncfgpdlmiaaWN
namespace Go.Proofs.Ytgbcncfgpdlmiaa
open Go.ChangeShapes Go.WideShapes Go.ChangeAt Go.RowKit Go.Maps
set_option linter.unusedVariables false
set_option linter.unusedSimpArgs false

theorem idx58 (g off m c k : Nat) (i : Int) (hi : i = (k : Int)) (h : k < m) (W : World) : (Instr.indexAt 58 (.slice (some ⟨g, off, none⟩) m c) (.int .i64 i)).run Try.prog W = .ok (.pointer (some ⟨g, off + k * 2, none⟩)) W := by
  subst hi
  have h1 : (0 : Int) ≤ (k : Int) ∧ (k : Int) < (m : Int) := by omega
  go_simp
theorem take_pl (P : List Pl) (k : Nat) (p : Pl) (h : P[k]? = some p) : P.take (k + 1) = P.take k ++ [p] := by
  rw [List.take_add_one, h]; rfl
def GvEnd (P : List Pl) (n : Nat) (w : World) (e : Ending) (w' : World) : Prop := ∃ A c, e = .returned (.slice A n c) ∧ ROwn plc 2 w' w.heap.size 45 (.slice A n c) n P ∧ (n = 0 → A = none ∧ c = 0) ∧ Below w.heap.size w w'
set_option maxRecDepth 100000 in
set_option maxHeartbeats 4000000 in
theorem given_any (A : Option Addr) (n c : Nat) (P : List Pl) (w : World) (h : RSl plc 2 w A n P) (hn : n ≤ 100000) : Calls Try.prog 30 #[.slice A n c] w (GvEnd P n w) := by
  have HS : Hid (∀ W, Below w.heap.size w W → RSl plc 2 W A n P) := fun W hb => h.later hb
  have HL : Hid (P.length = n) := h.1
  clear h
  go_enter Try.func30, Try.ntmps30
  go_wp2
  go_loopw [3, 4] (fun o i W => ∃ (k : Nat) (v : Value), k ≤ n ∧ i = .int .i64 k ∧ v = o ∧ ROwn plc 2 W w.heap.size 45 v k (P.take k) ∧ (k = 0 → v = .slice none 0 0) ∧ Below w.heap.size w W) (fun _ i _ => n - (intOf i).toNat)
  case atStart => exact ⟨0, _, Nat.zero_le _, rfl, rfl, ROwn.nil0 _ _ _, (fun _ => rfl), Below.refl _ _⟩
  case round =>
    obtain ⟨k, v, hk, rfl, rfl, ho, hv0, hb⟩ := hrel
    have HV0 := Lib.hid hv0
    have HO := Lib.hid ho
    have HBW := Lib.hid hb
    clear ho hb hv0
    by_cases hlt : k < n
    · have d1 : decide ((k : Int) < (n : Int)) = true := decide_eq_true (by omega)
      have wk : IntKind.i64.wrap ((k : Int) + 1) = (k : Int) + 1 := IntWalk.i64_in _ (by omega)
      obtain ⟨g, off, hAe, hg, hc⟩ := (HS.out _ HBW.out).2 (by omega)
      subst hAe
      have i5 := idx58 g off n c k (k : Int) rfl hlt
      have hrk : P[k]? = some (P[k]'(by rw [HL.out]; exact hlt)) := List.getElem?_eq_getElem _
      have HTK := Lib.hid (take_pl P k _ hrk)
      generalize P[k]'(by rw [HL.out]; exact hlt) = p at *
      obtain ⟨a, b⟩ := p
      have x0 := hc k _ hrk 0 (by decide)
      have x1 := hc k _ hrk 1 (by decide)
      simp only [plc, List.getElem?_cons_zero, List.getElem?_cons_succ, Nat.add_zero] at x0 x1
      have hby : Below wr.heap.size wr (wr.alloc (.cells #[.int .i64 a, .int .i64 b] 45)) := (Below.refl _ _).alloc (Nat.le_refl _) _
      have HX3 : Hid (RSl plc 2 (wr.alloc (.cells #[.int .i64 a, .int .i64 b] 45)) (some ⟨wr.heap.size, 0, none⟩) 1 [((a, b) : Pl)]) := Blk.rsl (x := ((a, b) : Pl)) (Blk.new wr _ 45)
      have HO3 := Lib.hid (HO.out.later hby)
      have HB3 := Lib.hid (stepB HBW.out hby)
      obtain ⟨Av, cv, hv, _, _⟩ := HO3.out.sl
      subst hv
      clear hc hrk hg hby HO
      go_wp2_with (first
        | (at_builtin; refine append_row1 elemPl rfl (.tmp 11) (.tmp 16) rfl w.heap.size (.slice Av k cv) k (P.take k) rfl HO3.out wr.heap.size 1 ((a, b) : Pl) rfl HX3.out (by omega) (by decide) HB3.out.size ?_; intro A4 c4 w4 ho4 hg4 hn4)
        | fail)
      intro hl4
      have HB4 : Hid (Below w.heap.size w w4) := HB3.out.grown hg4 HB3.out.size (fun j e => (HO3.out.lt j e).1)
      have HO4 := Lib.hid ho4
      clear ho4 hg4 hn4 hl4 HX3 HO3 HB3
      go_wp2
      go_roundw
      case rel => exact ⟨k + 1, _, by omega, by go_num, rfl, by rw [HTK.out]; exact HO4.out, (fun h => absurd h (Nat.succ_ne_zero k)), HB4.out⟩
      case measure => simp [intOf]; omega
    · obtain rfl : k = n := by omega
      have d1 : decide ((k : Int) < (k : Int)) = false := decide_eq_false (by omega)
      have hP : P.take k = P := List.take_of_length_le (by rw [HL.out]; exact Nat.le_refl _)
      have HO2 : Hid (ROwn plc 2 wr w.heap.size 45 v k P) := by have := HO.out; rw [hP] at this; exact this
      obtain ⟨Av, cv, hv, _, _⟩ := HO2.out.sl
      subst hv
      clear hP HO
      go_wp2
      go_ret
      exact ⟨Av, cv, rfl, HO2.out, (fun h => by have := HV0.out h; simp only [Value.slice.injEq] at this; exact ⟨this.1, this.2.2⟩), HBW.out⟩
/-- Without of what was given, of any length -/
theorem withoutG_any (A : Option Addr) (n c : Nat) (AP : Option Addr) (m gc : Nat) (P : List Pl) (Rs : List RE) (w : World) {B : Nat} (h : EvS w A n Rs) (hn : n ≤ 100000) (hp : ∀ r ∈ Rs, r.2.2.1 ≤ 100000) (hcr : ∀ r ∈ Rs, -9223372036854775808 ≤ r.1.2.2.1 ∧ r.1.2.2.1 ≤ 9223372036854775807) (hz : ROwn plc 2 w B 45 (.slice AP m gc) m P) (hm : m ≤ 1000) (h0 : m = 0 → AP = none ∧ gc = 0) : Calls Try.prog 20 #[.slice A n c, .slice AP m gc] w (WoEnd P (Rs.map Prod.fst) w) := by
  have hl : P.length = m := hz.1
  subst hl
  by_cases hm0 : P.length = 0
  · obtain ⟨rfl, rfl⟩ := h0 hm0
    obtain rfl := List.eq_nil_of_length_eq_zero hm0
    exact without_nil A n c Rs w h hn hp hcr
  · have hr := hz.rsl plc_len
    obtain ⟨g, off, rfl, _, _⟩ := hr.2 (by omega)
    exact without_any A n c ⟨g, off, none⟩ gc P Rs w h hn hp hcr hr hm (by omega)
end Go.Proofs.Ytgbcncfgpdlmiaa
