/- A step, the sum, the examples. -/
import Derived.Test.YtlnfdcaljmfbjaaH
namespace Go.Proofs.Ytlnfdcaljmfbjaa
open Go.ChangeShapes Go.WideShapes Go.ChangeAt Go.RowKit Go.Maps
set_option linter.unusedVariables false
set_option linter.unusedSimpArgs false

theorem ieq_no {x y : Int} (h : ¬ x = y) : (x == y) = false := by rw [beq_eq_false_iff_ne]; exact h
theorem ine_no {x y : Int} (h : x = y) : (x != y) = false := by rw [h]; simp
theorem cindex (g m c k : Nat) (i : Int) (hi : i = (k : Int)) (h : k < m) (W : World) : (Instr.indexAt 29 (.slice (some ⟨g, 0, none⟩) m c) (.int .i64 i)).run Try.prog W = .ok (.pointer (some ⟨g, k * 2, none⟩)) W := by
  subst hi
  have h1 : (0 : Int) ≤ (k : Int) ∧ (k : Int) < (m : Int) := by omega
  go_simp
theorem DdAt.below {w W W' : World} {p b : Nat} {C : List Ct} (h : DdAt W w.heap.size p b C) (hb : Below w.heap.size w W) (hg : W.grownBy W' (some b)) : Below w.heap.size w W' := hb.grown hg hb.size (fun k e => by cases e; exact h.own.1)
def doR (C : List Ct) (wh n : Int) : Int := if wh = 0 then (if addE C n = 0 then 1 else 0) else if wh = 1 then (if ofC C n ≠ 0 then -1 else 0) else -(sumC C - sumC (passS C n))
def doC (C : List Ct) (wh n : Int) : List Ct := if wh = 0 then addS C n else if wh = 1 then lessS C n else passS C n
theorem less_sum {C : List Ct} (h : Ok C) (t : Int) : sumC (lessS C t) = sumC C + (if ofC C t ≠ 0 then -1 else 0) := by
  unfold lessS
  by_cases h0 : ofC C t = 0
  · rw [if_pos h0, if_neg (by simpa using h0)]; omega
  · rw [if_neg h0, if_pos h0]
    by_cases h1 : ofC C t = 1
    · rw [if_pos h1, sum_del t h.up]; omega
    · rw [if_neg h1, sum_put _ _ h.up]; omega
theorem do_sum {C : List Ct} (h : Ok C) (wh n : Int) : sumC (doC C wh n) = sumC C + doR C wh n := by
  unfold doC doR
  by_cases h0 : wh = 0
  · rw [if_pos h0, if_pos h0]
    unfold addS
    by_cases e : addE C n = 0
    · rw [if_pos e, if_pos e, sum_put _ _ h.up]; omega
    · rw [if_neg e, if_neg e]; omega
  · rw [if_neg h0, if_neg h0]
    by_cases h1 : wh = 1
    · rw [if_pos h1, if_pos h1]; exact less_sum h n
    · rw [if_neg h1, if_neg h1]; omega
set_option maxRecDepth 100000 in
set_option maxHeartbeats 4000000 in
theorem do_any (B p b : Nat) (C : List Ct) (wh n : Int) (w : World) (h : DdAt w B p b C) (hn : (Lit.int .i64 n).wf = true) : Calls Try.prog 25 #[.agg #[.int .u8 wh, .int .i64 n], .pointer (some ⟨p, 0, none⟩)] w (DEnd B p b (doC C wh n) (.int .i64 (doR C wh n)) w) := by
  have hb0 : Below w.heap.size w (w.alloc (.cells #[.int .u8 wh, .int .i64 n] 36)) := (Below.refl _ _).alloc (Nat.le_refl _) _
  have H1 := Lib.hid (h.later hb0)
  have HG0 := Lib.hid (grown_of_below hb0 (some b))
  have HX := Lib.hid (Blk.new w #[.int .u8 wh, .int .i64 n] 36)
  have hs1 := h.ok.sum
  have hs2 := sum_nn h.ok.pos
  have hs3 := (h.ok.pass n).sum
  have hs4 := sum_nn (h.ok.pass n).pos
  clear h hb0
  generalize hW : w.alloc (.cells #[.int .u8 wh, .int .i64 n] 36) = w0 at *
  have k0 := HX.out.cell 0
  have k1 := HX.out.cell 1
  simp only [List.getElem?_toArray, List.getElem?_cons_zero, List.getElem?_cons_succ] at k0 k1
  by_cases h0 : wh = 0
  · have HR : Hid (doR C wh n = if addE C n = 0 then 1 else 0) := if_pos h0
    have HC : Hid (doC C wh n = addS C n) := if_pos h0
    have CA := Lib.hid (add_any B p b C n w0 H1.out)
    subst h0
    rw [HC.out]
    obtain ⟨r, hr⟩ : ∃ r, doR C 0 n = r := ⟨_, rfl⟩
    rw [hr]
    have HRR := Lib.hid (hr.symm.trans HR.out)
    clear hr HR
    by_cases e : addE C n = 0
    · have HE := Lib.hid (HRR.out.trans (if_pos e))
      rw [e] at CA
      clear e HRR
      go_enter Try.func25, Try.ntmps25
      go_wp2_with fail
      refine (CA.out).mono ?_
      rintro x w1 ⟨rfl, ho, hg⟩
      have HO := Lib.hid ho
      have HG := Lib.hid (grown_step HG0.out hg)
      clear ho hg CA
      go_wp2
      go_ret
      exact ⟨by rw [HE.out]; rfl, HO.out, HG.out⟩
    · have HE := Lib.hid (HRR.out.trans (if_neg e))
      have de : (addE C n == 0) = false := ieq_no e
      generalize addE C n = ee at *
      clear e HRR
      go_enter Try.func25, Try.ntmps25
      go_wp2_with fail
      refine (CA.out).mono ?_
      rintro x w1 ⟨rfl, ho, hg⟩
      have HO := Lib.hid ho
      have HG := Lib.hid (grown_step HG0.out hg)
      clear ho hg CA
      go_wp2
      go_ret
      exact ⟨by rw [HE.out]; rfl, HO.out, HG.out⟩
  · have d0 : (wh == 0) = false := ieq_no h0
    by_cases h1 : wh = 1
    · have HR : Hid (doR C wh n = if ofC C n ≠ 0 then -1 else 0) := (if_neg h0).trans (if_pos h1)
      have HC : Hid (doC C wh n = lessS C n) := (if_neg h0).trans (if_pos h1)
      have CA := Lib.hid (less_any B p b C n w0 H1.out hn)
      subst h1
      rw [HC.out]
      obtain ⟨r, hr⟩ : ∃ r, doR C 1 n = r := ⟨_, rfl⟩
      rw [hr]
      have HRR := Lib.hid (hr.symm.trans HR.out)
      clear hr HR d0 h0
      by_cases e : ofC C n ≠ 0
      · have HE := Lib.hid (HRR.out.trans (if_pos e))
        rw [decide_eq_true e] at CA
        clear e HRR
        go_enter Try.func25, Try.ntmps25
        go_wp2_with fail
        refine (CA.out).mono ?_
        rintro x w1 ⟨rfl, ho, hg⟩
        have HO := Lib.hid ho
        have HG := Lib.hid (grown_step HG0.out hg)
        clear ho hg CA
        go_wp2
        go_ret
        exact ⟨by rw [HE.out]; rfl, HO.out, HG.out⟩
      · have HE := Lib.hid (HRR.out.trans (if_neg e))
        rw [decide_eq_false e] at CA
        clear e HRR
        go_enter Try.func25, Try.ntmps25
        go_wp2_with fail
        refine (CA.out).mono ?_
        rintro x w1 ⟨rfl, ho, hg⟩
        have HO := Lib.hid ho
        have HG := Lib.hid (grown_step HG0.out hg)
        clear ho hg CA
        go_wp2
        go_ret
        exact ⟨by rw [HE.out]; rfl, HO.out, HG.out⟩
    · have d1 : (wh == 1) = false := ieq_no h1
      have HR : Hid (doR C wh n = -(sumC C - sumC (passS C n))) := (if_neg h0).trans (if_neg h1)
      have HC : Hid (doC C wh n = passS C n) := (if_neg h0).trans (if_neg h1)
      have CA := Lib.hid (pass_any B p b C n w0 H1.out)
      rw [HC.out, HR.out]
      obtain ⟨r, hr⟩ : ∃ r, sumC C - sumC (passS C n) = r := ⟨_, rfl⟩
      rw [hr] at CA ⊢
      have wr : IntKind.i64.wrap (-r) = -r := IntWalk.i64_in _ (by omega)
      clear h0 h1 hr
      go_enter Try.func25, Try.ntmps25
      go_wp2_with fail
      refine (CA.out).mono ?_
      rintro x w1 ⟨rfl, ho, hg⟩
      have HO := Lib.hid ho
      have HG := Lib.hid (grown_step HG0.out hg)
      clear ho hg CA
      go_wp2
      go_ret
      exact ⟨rfl, HO.out, HG.out⟩
/-- the sum of the first k -/
def sumK (C : List Ct) : Nat → Int
  | 0 => 0
  | k + 1 => sumK C k + (C.getD k c0).2
theorem sumK_cons (p : Ct) (C : List Ct) : ∀ k, sumK (p :: C) (k + 1) = p.2 + sumK C k
  | 0 => by simp [sumK]
  | k + 1 => by
    have ih := sumK_cons p C k
    show sumK (p :: C) (k + 1) + _ = _
    rw [ih]
    simp only [List.getD_cons_succ]
    show _ = p.2 + (sumK C k + _)
    omega
theorem sumK_all : ∀ C : List Ct, sumK C C.length = sumC C
  | [] => rfl
  | p :: C => by rw [List.length_cons, sumK_cons, sumK_all C]; rfl
theorem sumK_le {C : List Ct} (h : ∀ p ∈ C, 1 ≤ p.2) : ∀ k, k ≤ C.length → 0 ≤ sumK C k ∧ sumK C k ≤ sumC C := by
  induction C with
  | nil => intro k hk; simp at hk; subst hk; exact ⟨Int.le_refl _, Int.le_refl _⟩
  | cons p C ih =>
    have h1 := h p (List.mem_cons_self ..)
    have hr := fun q hq => h q (List.mem_cons_of_mem p hq)
    have hs := sum_nn hr
    intro k hk
    cases k with
    | zero => exact ⟨Int.le_refl _, by show 0 ≤ p.2 + sumC C; omega⟩
    | succ k =>
      have := ih hr k (by simpa using hk)
      rw [sumK_cons]
      show _ ∧ _ ≤ p.2 + sumC C
      omega
set_option maxRecDepth 100000 in
set_option maxHeartbeats 4000000 in
theorem sum_any (hS : SortSome) (hN : SortNone) (B p b : Nat) (C : List Ct) (w : World) (h : DdAt w B p b C) : Calls Try.prog 26 #[.pointer (some ⟨p, 0, none⟩)] w fun x w' => x = .returned (.int .i64 (sumC C)) ∧ Below w.heap.size w w' := by
  have CC := Lib.hid (counts_of hS hN B p b C w h)
  have HOK := Lib.hid h.ok
  have hlen := h.len
  have hs64 := h.ok.sum
  clear h hS hN
  go_enter Try.func26, Try.ntmps26
  go_wp2_with fail
  refine (CC.out).mono ?_
  rintro x w1 ⟨A, c, rfl, hsl, hb⟩
  have HSL := Lib.hid hsl
  have HB := Lib.hid hb
  clear hsl hb CC
  go_wp2
  go_loopw [3, 5] (fun s i wr => ∃ k : Nat, k ≤ C.length ∧ i = .int .i64 k ∧ s = .int .i64 (sumK C k) ∧ wr = w1) (fun _ i _ => C.length - (intOf i).toNat)
  case atStart => exact ⟨0, Nat.zero_le _, rfl, rfl, rfl⟩
  case round =>
    obtain ⟨k, hk, rfl, rfl, rfl⟩ := hrel
    by_cases hlt : k < C.length
    · obtain ⟨g, rfl, _, _, hcell⟩ := HSL.out (by omega)
      obtain ⟨x0, x1, _, _⟩ := hcell k hlt
      have i1 := cindex g C.length c k (k : Int) rfl hlt
      have d2 : decide ((k : Int) < (C.length : Int)) = true := decide_eq_true (by omega)
      have wk : IntKind.i64.wrap ((k : Int) + 1) = (k : Int) + 1 := IntWalk.i64_in _ (by omega)
      have h1 := sumK_le HOK.out.pos (k + 1) hlt
      have HK : Hid (sumK C (k + 1) = sumK C k + (C.getD k c0).2) := rfl
      rw [HK.out] at h1
      have ws : IntKind.i64.wrap (sumK C k + (C.getD k c0).2) = sumK C k + (C.getD k c0).2 := IntWalk.i64_in _ (by omega)
      generalize C.getD k c0 = z at *
      generalize sumK C k = y at *
      clear h1 hcell
      go_wp2
      go_roundw
      case rel => exact ⟨k + 1, by omega, by go_num, by rw [HK.out], by first | rfl | trivial⟩
      case measure => simp [intOf]; omega
    · obtain rfl : k = C.length := by omega
      have d2 : decide ((C.length : Int) < (C.length : Int)) = false := decide_eq_false (by omega)
      rw [sumK_all]
      go_wp2
      go_ret
      exact ⟨rfl, HB.out⟩
end Go.Proofs.Ytlnfdcaljmfbjaa
