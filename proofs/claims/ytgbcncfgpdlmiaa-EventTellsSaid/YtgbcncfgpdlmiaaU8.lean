/- The document's has. -/
import Derived.Test.YtgbcncfgpdlmiaaGV
namespace Go.Proofs.Ytgbcncfgpdlmiaa
open Go.ChangeShapes Go.WideShapes Go.ChangeAt Go.RowKit Go.Maps
set_option linter.unusedVariables false
set_option linter.unusedSimpArgs false

theorem eq88 (p q : Pl) (w : World) : (binOp BinOp.eql 88 (.agg #[.int .i64 p.1, .int .i64 p.2]) (.agg #[.int .i64 q.1, .int .i64 q.2])).run Try.prog w = .ok (.bool (decide (p = q))) w := by
  obtain ⟨a, b⟩ := p
  obtain ⟨c, d⟩ := q
  go_simp
  by_cases h1 : a = c <;> by_cases h2 : b = d <;> simp [h1, h2]
set_option maxRecDepth 100000 in
set_option maxHeartbeats 4000000 in
theorem has_any (A : Option Addr) (m c k0 : Nat) (P : List Pl) (a b : Int) (w : World) (h : RSl plc 2 w A m P) (hm : m ≤ 100000) (hk0 : k0 ≤ m) : Calls Try.prog 49 #[.slice A m c, .int .i64 (k0 : Int), .agg #[.int .i64 a, .int .i64 b]] w (Bl (decide (((a, b) : Pl) ∈ P.take k0)) w) := by
  obtain ⟨r, hr⟩ : ∃ r, decide (((a, b) : Pl) ∈ P.take k0) = r := ⟨_, rfl⟩
  rw [hr]
  have HR := Lib.hid hr
  obtain ⟨q, hq⟩ : ∃ q, w.heap.size = q := ⟨_, rfl⟩
  have HS : Hid (∀ W, Below w.heap.size w W → RSl plc 2 W A m P) := fun W hb => h.later hb
  have HL : Hid (P.length = m) := h.1
  have HB : Hid (Below w.heap.size w (w.alloc (.cells #[.int .i64 a, .int .i64 b] 88))) := (Below.refl _ _).alloc (Nat.le_refl _) _
  have HK : Hid (Blk (w.alloc (.cells #[.int .i64 a, .int .i64 b] 88)) q #[.int .i64 a, .int .i64 b] 88) := Blk.new2 _ _ _ hq
  clear h hr
  go_enter Try.func49, Try.ntmps49
  go_wp2
  clear hq
  go_loopw [7] (fun i W => ∃ k : Nat, k ≤ k0 ∧ i = .int .i64 k ∧ ((a, b) : Pl) ∉ P.take k ∧ Blk W q #[.int .i64 a, .int .i64 b] 88 ∧ Below w.heap.size w W) (fun i _ => k0 - (intOf i).toNat)
  case atStart => exact ⟨0, Nat.zero_le _, rfl, by simp, HK.out, HB.out⟩
  case round =>
    obtain ⟨k, hk, rfl, hno, hb1, hb⟩ := hrel
    have HNO := Lib.hid hno
    have HQ := Lib.hid hb1
    have HBW := Lib.hid hb
    clear hno hb1 hb HK HB
    by_cases hlt : k < k0
    · have d1 : decide ((k : Int) < (k0 : Int)) = true := decide_eq_true (by omega)
      have wk : IntKind.i64.wrap ((k : Int) + 1) = (k : Int) + 1 := IntWalk.i64_in _ (by omega)
      obtain ⟨g, off, hAe, hg, hc⟩ := (HS.out _ HBW.out).2 (by omega)
      subst hAe
      have i5 := idx58 g off m c k (k : Int) rfl (by omega)
      have hrk : P[k]? = some (P[k]'(by rw [HL.out]; omega)) := List.getElem?_eq_getElem _
      have HTK := Lib.hid (take_pl P k _ hrk)
      generalize P[k]'(by rw [HL.out]; omega) = p at *
      obtain ⟨a2, b2⟩ := p
      have x0 := hc k _ hrk 0 (by decide)
      have x1 := hc k _ hrk 1 (by decide)
      have y0 := HQ.out.cell 0
      have y1 := HQ.out.cell 1
      simp only [plc, List.getElem?_toArray, List.getElem?_cons_zero, List.getElem?_cons_succ, Nat.add_zero] at x0 x1 y0 y1
      have he := eq88 (a2, b2) (a, b)
      simp only at he
      clear hc hrk hg
      by_cases e : ((a2, b2) : Pl) = (a, b)
      · rw [decide_eq_true e] at he
        have HE : Hid (r = true) := by
          show _ = _
          rw [← HR.out]
          refine decide_eq_true ?_
          have h1 : ((a, b) : Pl) ∈ P.take (k + 1) := by rw [HTK.out, ← e]; simp
          rw [show P.take (k + 1) = (P.take k0).take (k + 1) by rw [List.take_take, Nat.min_eq_left (by omega)]] at h1
          exact List.mem_of_mem_take h1
        clear e
        go_wp2
        go_quiet (fail)
        go_wp2
        go_ret
        exact ⟨by rw [HE.out]; rfl, below_drewN HBW.out _⟩
      · rw [decide_eq_false e] at he
        have HN2 : Hid (((a, b) : Pl) ∉ P.take (k + 1)) := by
          show ¬ _
          rw [HTK.out, List.mem_append, List.mem_singleton]
          rintro (h | h)
          · exact HNO.out h
          · exact e h.symm
        clear e
        go_wp2
        go_quiet (fail)
        go_wp2
        go_roundw
        case rel => exact ⟨k + 1, by omega, by go_num, HN2.out, HQ.out.later (below_drewN (Below.refl _ _) _), below_drewN HBW.out _⟩
        case measure => simp [intOf]; omega
    · obtain rfl : k = k0 := by omega
      have d1 : decide ((k : Int) < (k : Int)) = false := decide_eq_false (by omega)
      have HE : Hid (r = false) := by
        show _ = _
        rw [← HR.out]
        exact decide_eq_false HNO.out
      go_wp2
      go_ret
      exact ⟨by rw [HE.out]; rfl, HBW.out⟩
end Go.Proofs.Ytgbcncfgpdlmiaa
