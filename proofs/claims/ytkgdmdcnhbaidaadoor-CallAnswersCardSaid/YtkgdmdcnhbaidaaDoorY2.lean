/- The maths of texts: what was shown is parsed as it was, what is parsed is shown as it was; so with what is told, and read. -/
import Derived.Test.YtkgdmdcnhbaidaaDoorY1
import Derived.Test.YtkgdmdcnhbaidaaDoorRD
import Derived.Test.YtkgdmdcnhbaidaaDoorWI
import Derived.Test.YtkgdmdcnhbaidaaDoorJ
namespace Go.Proofs.YtkgdmdcnhbaidaaDoor
open Go.ChangeShapes Go.WideShapes Go.ChangeAt Go.RowKit
set_option linter.unusedVariables false
set_option linter.unusedSimpArgs false

def opt (b : Bool) (w : ByteArray) (l : List ByteArray) : List ByteArray := if b then w :: l else l
theorem showN_eq (n : Nm) (wd s1 s2 s3 s4 s5 s6 : ByteArray) : showN n wd s1 s2 s3 s4 s5 s6 = wd :: opt n.1 s1 (opt n.2.1 s2 (opt n.2.2.1 s3 (opt n.2.2.2.1 s4 (opt n.2.2.2.2.1 s5 (opt n.2.2.2.2.2 s6 []))))) := by
  obtain ⟨a, b, c, d, e, f⟩ := n
  cases a <;> cases b <;> cases c <;> cases d <;> cases e <;> cases f <;> rfl
theorem numR_opt (b : Bool) {v : Int} (l : List ByteArray) (h : -9223372036854775808 ≤ v ∧ v ≤ 9223372036854775807) : numR b (opt b (ofL (Lib.itoa v)) l, false) = (if b then v else 0, (l, false)) := by
  cases b with
  | false => rfl
  | true =>
    show ((numP (ofL (Lib.itoa v))).getD 0, (l, false || !(numP (ofL (Lib.itoa v))).isSome)) = _
    rw [num_itoa h]; rfl
theorem txtR_opt (b : Bool) (s : ByteArray) (l : List ByteArray) : txtR b (opt b (hexP s) l, false) = (if b then s else emp, (l, false)) := by
  cases b with
  | false => rfl
  | true =>
    show ((unhexP (hexP s)).getD emp, (l, false || !(unhexP (hexP s)).isSome)) = _
    rw [unhex_hex]; rfl
theorem numR_back {b : Bool} {r : Rd_} {l : List ByteArray} (h : (numR b r).2 = (l, false)) : r = (opt b (ofL (Lib.itoa (numR b r).1)) l, false) ∧ (b = false → (numR b r).1 = 0) ∧ (-9223372036854775808 ≤ (numR b r).1 ∧ (numR b r).1 ≤ 9223372036854775807) := by
  cases b with
  | false => exact ⟨h, fun _ => rfl, by show (-9223372036854775808 : Int) ≤ 0 ∧ (0 : Int) ≤ _; omega⟩
  | true =>
    obtain ⟨ws, bb⟩ := r
    cases ws with
    | nil =>
      have h1 := congrArg (·.2) h
      have h2 : (true || !(numP emp).isSome) = false := h1
      cases h2
    | cons a l' =>
      have h0 : (l', bb || !(numP a).isSome) = (l, false) := h
      simp only [Prod.mk.injEq, Bool.or_eq_false_iff, Bool.not_eq_false'] at h0
      obtain ⟨rfl, rfl, hs⟩ := h0
      obtain ⟨v, hv⟩ := Option.isSome_iff_exists.1 hs
      have e : (numR true (a :: l', false)).1 = v := by show (numP a).getD 0 = v; rw [hv]; rfl
      rw [e]
      refine ⟨?_, (fun h => by cases h), num_rg hv⟩
      show _ = (ofL (Lib.itoa v) :: l', false)
      rw [num_back hv]
theorem txtR_back {b : Bool} {r : Rd_} {l : List ByteArray} (h : (txtR b r).2 = (l, false)) : r = (opt b (hexP (txtR b r).1) l, false) ∧ (b = false → (txtR b r).1 = emp) := by
  cases b with
  | false => exact ⟨h, fun _ => rfl⟩
  | true =>
    obtain ⟨ws, bb⟩ := r
    cases ws with
    | nil =>
      have h2 : (true || !(unhexP emp).isSome) = false := congrArg (·.2) h
      cases h2
    | cons a l' =>
      have h0 : (l', bb || !(unhexP a).isSome) = (l, false) := h
      simp only [Prod.mk.injEq, Bool.or_eq_false_iff, Bool.not_eq_false'] at h0
      obtain ⟨rfl, rfl, hs⟩ := h0
      obtain ⟨v, hv⟩ := Option.isSome_iff_exists.1 hs
      have e : (txtR true (a :: l', false)).1 = v := by show (unhexP a).getD emp = v; rw [hv]; rfl
      rw [e]
      refine ⟨?_, (fun h => by cases h)⟩
      show _ = (hexP v :: l', false)
      rw [hex_unhex hv]
theorem nextR_back {r : Rd_} {l : List ByteArray} (h : (nextR r).2 = (l, false)) : r = ((nextR r).1 :: l, false) := by
  obtain ⟨ws, bb⟩ := r
  cases ws with
  | nil => cases h
  | cons a l' => cases h; rfl
/-! kinds and words -/
theorem kind_word : ∀ k : Fin 10, 1 ≤ k.1 → kindW (wdL.getD k.1 emp) = k.1 := by decide +kernel
theorem word_num : ∀ k : Fin 10, numP (wdL.getD k.1 emp) = none := by decide +kernel
theorem word_nsp : ∀ k : Fin 10, (32 : UInt8) ∉ (wdL.getD k.1 emp).data.toList := by decide +kernel
theorem word_len : ∀ k : Fin 10, (wdL.getD k.1 emp).size ≤ 7 := by decide +kernel
theorem fw_back {w : ByteArray} : ∀ (l : List ByteArray) (k m : Nat), fw w k l = m → 1 ≤ m → k ≤ m ∧ l.getD (m - k) emp = w ∧ m - k < l.length
  | [], k, m, h, hm => by rw [fw] at h; omega
  | a :: l, k, m, h, hm => by
    rw [fw] at h
    split at h
    · rename_i e
      subst h
      rw [Nat.sub_self]
      exact ⟨Nat.le_refl _, e, by simp⟩
    · obtain ⟨h1, h2, h3⟩ := fw_back l (k + 1) m h hm
      have e : m - k = (m - (k + 1)) + 1 := by omega
      refine ⟨by omega, ?_, by rw [List.length_cons]; omega⟩
      rw [e, List.getD_cons_succ]; exact h2
theorem kind_back {w : ByteArray} {k : Nat} (h : kindW w = k) (hk : 1 ≤ k) : wdL.getD k emp = w := by
  have := (fw_back wdL 0 k h hk).2.1
  simpa using this
/-! sizes -/
theorem joinW_size (x : ByteArray) (r : List ByteArray) : (joinW (x :: r)).size = r.length + (x.size + (r.map (·.size)).sum) := by
  show (Lib.join ((x :: r).map (·.data.toList)) [32]).length = _
  rw [List.map_cons, Lib.join_length]
  unfold Lib.lens
  simp only [List.map_cons, List.map_map, List.sum_cons, List.length_map]
  show 1 * r.length + (x.size + _) = _
  rw [Nat.one_mul]; rfl
theorem hexP_size (s : ByteArray) : (hexP s).size ≤ 2 * s.size + 1 ∧ s.size ≤ (hexP s).size := by
  unfold hexP
  split
  · rename_i h; rw [h]; show (1 : Nat) ≤ _ ∧ 0 ≤ _; omega
  · show (hexL s.data.toList).length ≤ _ ∧ _ ≤ (hexL s.data.toList).length
    have hl : s.data.toList.length = s.size := rfl
    rw [hexL_len, hl]
    omega
theorem nDig_le : ∀ (k u : Nat), u < 10 ^ (k + 1) → Lib.nDigits u ≤ k + 1
  | 0, u, h => by rw [Lib.nDigits_small (by simpa using h)]; exact Nat.le_refl _
  | k + 1, u, h => by
    by_cases hs : u < 10
    · rw [Lib.nDigits_small hs]; omega
    · rw [Lib.nDigits_big hs]
      have := nDig_le k (u / 10) (by rw [Nat.pow_succ] at h; omega)
      omega
theorem itoa_size {v : Int} (h : -9223372036854775808 ≤ v ∧ v ≤ 9223372036854775807) : (ofL (Lib.itoa v)).size ≤ 21 := by
  show (Lib.itoa v).length ≤ 21
  have hp : (9223372036854775808 : Nat) < 10 ^ (19 + 1) := by decide
  unfold Lib.itoa
  split
  · rw [List.length_cons, Lib.decDigits_length]
    have := nDig_le 19 v.natAbs (by omega)
    omega
  · rw [Lib.decDigits_length]
    have := nDig_le 19 v.toNat (by omega)
    omega
theorem opt_sum (b : Bool) (w : ByteArray) (l : List ByteArray) : (opt b w l).length + ((opt b w l).map (·.size)).sum ≤ 1 + w.size + (l.length + (l.map (·.size)).sum) := by
  cases b
  · show l.length + (l.map (·.size)).sum ≤ _; omega
  · show (w :: l).length + ((w :: l).map (·.size)).sum ≤ _
    rw [List.length_cons, List.map_cons, List.sum_cons]; omega
theorem show_size {x : Cl} (h1 : -9223372036854775808 ≤ x.2.1 ∧ x.2.1 ≤ 9223372036854775807) (h2 : -9223372036854775808 ≤ x.2.2.2.2.2.1 ∧ x.2.2.2.2.2.1 ≤ 9223372036854775807) (he : x.2.2.2.2.2.2 ≤ 255) : (joinW (showL x)).size ≤ 100 + 2 * (x.2.2.1.size + x.2.2.2.1.size + x.2.2.2.2.1.size) := by
  unfold showL
  rw [showN_eq, joinW_size]
  have a0 : (wdL.getD x.1 emp).size ≤ 7 := by
    by_cases hk : x.1 < 10
    · exact word_len ⟨x.1, hk⟩
    · rw [List.getD_eq_getElem?_getD, List.getElem?_eq_none (by rw [wd_len]; omega)]; show (0 : Nat) ≤ _; omega
  have a1 := itoa_size h1
  have a2 := (hexP_size x.2.2.1).1
  have a3 := (hexP_size x.2.2.2.1).1
  have a4 := (hexP_size x.2.2.2.2.1).1
  have a5 := itoa_size h2
  have a6 := itoa_size (v := (x.2.2.2.2.2.2 : Int)) (by omega)
  have b6 := opt_sum (nmK x.1).2.2.2.2.2 (ofL (Lib.itoa (x.2.2.2.2.2.2 : Int))) []
  have b5 := opt_sum (nmK x.1).2.2.2.2.1 (ofL (Lib.itoa x.2.2.2.2.2.1)) (opt (nmK x.1).2.2.2.2.2 (ofL (Lib.itoa (x.2.2.2.2.2.2 : Int))) [])
  have b4 := opt_sum (nmK x.1).2.2.2.1 (hexP x.2.2.2.2.1) (opt (nmK x.1).2.2.2.2.1 (ofL (Lib.itoa x.2.2.2.2.2.1)) (opt (nmK x.1).2.2.2.2.2 (ofL (Lib.itoa (x.2.2.2.2.2.2 : Int))) []))
  have b3 := opt_sum (nmK x.1).2.2.1 (hexP x.2.2.2.1) (opt (nmK x.1).2.2.2.1 (hexP x.2.2.2.2.1) (opt (nmK x.1).2.2.2.2.1 (ofL (Lib.itoa x.2.2.2.2.2.1)) (opt (nmK x.1).2.2.2.2.2 (ofL (Lib.itoa (x.2.2.2.2.2.2 : Int))) [])))
  have b2 := opt_sum (nmK x.1).2.1 (hexP x.2.2.1) (opt (nmK x.1).2.2.1 (hexP x.2.2.2.1) (opt (nmK x.1).2.2.2.1 (hexP x.2.2.2.2.1) (opt (nmK x.1).2.2.2.2.1 (ofL (Lib.itoa x.2.2.2.2.2.1)) (opt (nmK x.1).2.2.2.2.2 (ofL (Lib.itoa (x.2.2.2.2.2.2 : Int))) []))))
  have b1 := opt_sum (nmK x.1).1 (ofL (Lib.itoa x.2.1)) (opt (nmK x.1).2.1 (hexP x.2.2.1) (opt (nmK x.1).2.2.1 (hexP x.2.2.2.1) (opt (nmK x.1).2.2.2.1 (hexP x.2.2.2.2.1) (opt (nmK x.1).2.2.2.2.1 (ofL (Lib.itoa x.2.2.2.2.2.1)) (opt (nmK x.1).2.2.2.2.2 (ofL (Lib.itoa (x.2.2.2.2.2.2 : Int))) [])))))
  simp only [List.length_nil, List.map_nil, List.sum_nil] at b6
  omega
/-! calls -/
theorem may_rg {x : Cl} (h : mayC x = true) : 1 ≤ x.1 ∧ x.1 < 10 := by
  unfold mayC at h
  simp only [Bool.and_eq_true, decide_eq_true_eq] at h
  omega
theorem may_cln (x : Cl) : mayC (clnC x) = mayC x := by
  unfold mayC clnC clnN
  simp only
  cases (nmK x.1).2.2.2.2.2 <;> simp
theorem cln_cln (x : Cl) : clnC (clnC x) = clnC x := by
  unfold clnC clnN
  simp only
  generalize nmK x.1 = n
  obtain ⟨a, b, c, d, e, f⟩ := n
  cases a <;> cases b <;> cases c <;> cases d <;> cases e <;> cases f <;> rfl
theorem show_nsp {x : Cl} (hk : x.1 < 10) : ∀ w ∈ showL x, nsp w := by
  have ho : ∀ (b : Bool) (w : ByteArray) (l : List ByteArray), nsp w → (∀ y ∈ l, nsp y) → ∀ y ∈ opt b w l, nsp y := fun b w l h1 h2 y hy => by
    cases b
    · exact h2 y hy
    · rcases List.mem_cons.1 hy with rfl | hy
      · exact h1
      · exact h2 y hy
  unfold showL
  rw [showN_eq]
  intro w hw
  rcases List.mem_cons.1 hw with rfl | hw
  · exact word_nsp ⟨x.1, hk⟩
  · exact ho _ _ _ (itoa_nsp _) (ho _ _ _ (hex_nsp _) (ho _ _ _ (hex_nsp _) (ho _ _ _ (hex_nsp _) (ho _ _ _ (itoa_nsp _) (ho _ _ _ (itoa_nsp _) (fun y hy => by cases hy)))))) w hw
def tl6 (x : Cl) : List ByteArray := opt (nmK x.1).2.2.2.2.2 (ofL (Lib.itoa (x.2.2.2.2.2.2 : Int))) []
def tl5 (x : Cl) : List ByteArray := opt (nmK x.1).2.2.2.2.1 (ofL (Lib.itoa x.2.2.2.2.2.1)) (tl6 x)
def tl4 (x : Cl) : List ByteArray := opt (nmK x.1).2.2.2.1 (hexP x.2.2.2.2.1) (tl5 x)
def tl3 (x : Cl) : List ByteArray := opt (nmK x.1).2.2.1 (hexP x.2.2.2.1) (tl4 x)
def tl2 (x : Cl) : List ByteArray := opt (nmK x.1).2.1 (hexP x.2.2.1) (tl3 x)
def tl1 (x : Cl) : List ByteArray := opt (nmK x.1).1 (ofL (Lib.itoa x.2.1)) (tl2 x)
theorem parse_show {x : Cl} (hm : mayC x = true) (h1 : -9223372036854775808 ≤ x.2.1 ∧ x.2.1 ≤ 9223372036854775807) (h2 : -9223372036854775808 ≤ x.2.2.2.2.2.1 ∧ x.2.2.2.2.2.1 ≤ 9223372036854775807) (he : x.2.2.2.2.2.2 ≤ 255) : okP (showP x) = true ∧ clP (showP x) = clnC x := by
  have hk := may_rg hm
  have hs : showP x = joinW (showL x) := by unfold showP; rw [if_pos hm]
  have hw : wordsOf (showP x) = showL x := by rw [hs]; exact words_joinW (by unfold showL; rw [showN_eq]; simp) (show_nsp hk.2)
  generalize showP x = s at hw
  unfold showL at hw
  rw [showN_eq] at hw
  have k1 : kd1 s = x.1 := by unfold kd1; rw [hw]; exact kind_word ⟨x.1, hk.2⟩ hk.1
  have r1 : rd1 s = (tl1 x, false) := by unfold rd1; rw [hw]; rfl
  have n1 : numR (nmK x.1).1 (tl1 x, false) = (if (nmK x.1).1 then x.2.1 else 0, (tl2 x, false)) := numR_opt _ _ h1
  have n2 : txtR (nmK x.1).2.1 (tl2 x, false) = (if (nmK x.1).2.1 then x.2.2.1 else emp, (tl3 x, false)) := txtR_opt _ _ _
  have n3 : txtR (nmK x.1).2.2.1 (tl3 x, false) = (if (nmK x.1).2.2.1 then x.2.2.2.1 else emp, (tl4 x, false)) := txtR_opt _ _ _
  have n4 : txtR (nmK x.1).2.2.2.1 (tl4 x, false) = (if (nmK x.1).2.2.2.1 then x.2.2.2.2.1 else emp, (tl5 x, false)) := txtR_opt _ _ _
  have n5 : numR (nmK x.1).2.2.2.2.1 (tl5 x, false) = (if (nmK x.1).2.2.2.2.1 then x.2.2.2.2.2.1 else 0, (tl6 x, false)) := numR_opt _ _ h2
  have n6 : numR (nmK x.1).2.2.2.2.2 (tl6 x, false) = (if (nmK x.1).2.2.2.2.2 then (x.2.2.2.2.2.2 : Int) else 0, ([], false)) := numR_opt _ _ (by omega)
  have r2 : rd2 s = (tl2 x, false) := by unfold rd2; rw [k1, r1, n1]
  have r3 : rd3 s = (tl3 x, false) := by unfold rd3; rw [k1, r2, n2]
  have r4 : rd4 s = (tl4 x, false) := by unfold rd4; rw [k1, r3, n3]
  have r5 : rd5 s = (tl5 x, false) := by unfold rd5; rw [k1, r4, n4]
  have r6 : rd6 s = (tl6 x, false) := by unfold rd6; rw [k1, r5, n5]
  have r7 : rd7 s = ([], false) := by unfold rd7; rw [k1, r6, n6]
  have e1 : eng1 s = if (nmK x.1).2.2.2.2.2 then (x.2.2.2.2.2.2 : Int) else 0 := by unfold eng1; rw [k1, r6, n6]
  have e2 : (eng1 s % 256).toNat = if (nmK x.1).2.2.2.2.2 then x.2.2.2.2.2.2 else 0 := by rw [e1]; split <;> omega
  have hc : clP s = clnC x := by
    unfold clP
    rw [e2, k1, r1, r2, r3, r4, r5, n1, n2, n3, n4, n5]
    rfl
  refine ⟨?_, hc⟩
  unfold okP
  rw [hc, may_cln, hm, r7, e2, e1]
  cases (nmK x.1).2.2.2.2.2 <;> simp [overR]
theorem parse_emp : okP emp = false := by decide +kernel
/-- what a text that is a call's is made of -/
theorem parse_back {s : ByteArray} (h : okP s = true) : wordsOf s = showL (clP s) ∧ mayC (clP s) = true ∧ clnC (clP s) = clP s ∧ (-9223372036854775808 ≤ (clP s).2.1 ∧ (clP s).2.1 ≤ 9223372036854775807) ∧ (-9223372036854775808 ≤ (clP s).2.2.2.2.2.1 ∧ (clP s).2.2.2.2.2.1 ≤ 9223372036854775807) ∧ (clP s).2.2.2.2.2.2 ≤ 255 := by
  unfold okP at h
  rw [Bool.and_eq_true, Bool.and_eq_true] at h
  obtain ⟨⟨ho, he⟩, hm⟩ := h
  have he := of_decide_eq_true he
  have h7 : rd7 s = ([], false) := by
    unfold overR at ho
    rw [Bool.and_eq_true] at ho
    have a := of_decide_eq_true ho.2
    have b : (rd7 s).2 = false := by simpa using ho.1
    have c : (rd7 s).1 = [] := List.length_eq_zero_iff.1 a
    calc rd7 s = ((rd7 s).1, (rd7 s).2) := rfl
      _ = _ := by rw [b, c]
  obtain ⟨b6, z6, g6⟩ := numR_back (b := (nmK (kd1 s)).2.2.2.2.2) (r := rd6 s) h7
  obtain ⟨b5, z5, g5⟩ := numR_back (b := (nmK (kd1 s)).2.2.2.2.1) (r := rd5 s) b6
  obtain ⟨b4, z4⟩ := txtR_back (b := (nmK (kd1 s)).2.2.2.1) (r := rd4 s) b5
  obtain ⟨b3, z3⟩ := txtR_back (b := (nmK (kd1 s)).2.2.1) (r := rd3 s) b4
  obtain ⟨b2, z2⟩ := txtR_back (b := (nmK (kd1 s)).2.1) (r := rd2 s) b3
  obtain ⟨b1, z1, g1⟩ := numR_back (b := (nmK (kd1 s)).1) (r := rd1 s) b2
  have b0 := nextR_back (r := (wordsOf s, false)) b1
  have hk : (clP s).1 = kd1 s := rfl
  have hkr := may_rg hm
  rw [hk] at hkr
  have hw0 : wdL.getD (kd1 s) emp = (nextR (wordsOf s, false)).1 := kind_back rfl hkr.1
  refine ⟨?_, hm, ?_, g1, g5, by show (eng1 s % 256).toNat ≤ 255; omega⟩
  · have e := congrArg (·.1) b0
    simp only at e
    unfold showL
    rw [showN_eq, hk, hw0]
    show _ = _ :: opt _ (ofL (Lib.itoa (numR (nmK (kd1 s)).1 (rd1 s)).1)) (opt _ (hexP (txtR (nmK (kd1 s)).2.1 (rd2 s)).1) (opt _ (hexP (txtR (nmK (kd1 s)).2.2.1 (rd3 s)).1) (opt _ (hexP (txtR (nmK (kd1 s)).2.2.2.1 (rd4 s)).1) (opt _ (ofL (Lib.itoa (numR (nmK (kd1 s)).2.2.2.2.1 (rd5 s)).1)) (opt _ (ofL (Lib.itoa (((eng1 s % 256).toNat : Nat) : Int))) [])))))
    rw [← he]
    exact e
  · unfold clnC clnN
    rw [hk]
    show (kd1 s, (if _ then (numR (nmK (kd1 s)).1 (rd1 s)).1 else 0), (if _ then (txtR (nmK (kd1 s)).2.1 (rd2 s)).1 else emp), (if _ then (txtR (nmK (kd1 s)).2.2.1 (rd3 s)).1 else emp), (if _ then (txtR (nmK (kd1 s)).2.2.2.1 (rd4 s)).1 else emp), (if _ then (numR (nmK (kd1 s)).2.2.2.2.1 (rd5 s)).1 else 0), (if _ then (eng1 s % 256).toNat else 0)) = (kd1 s, (numR (nmK (kd1 s)).1 (rd1 s)).1, (txtR (nmK (kd1 s)).2.1 (rd2 s)).1, (txtR (nmK (kd1 s)).2.2.1 (rd3 s)).1, (txtR (nmK (kd1 s)).2.2.2.1 (rd4 s)).1, (numR (nmK (kd1 s)).2.2.2.2.1 (rd5 s)).1, (eng1 s % 256).toNat)
    have z6' : (nmK (kd1 s)).2.2.2.2.2 = false → (eng1 s % 256).toNat = 0 := fun h => by
      have h1 : eng1 s = 0 := z6 h
      rw [h1]; rfl
    have iff_ : ∀ {α : Type} (b : Bool) (u v : α), (b = false → u = v) → (if b then u else v) = u := fun b u v h => by
      cases b
      · exact (h rfl).symm
      · rfl
    rw [iff_ _ _ _ z1, iff_ _ _ _ z2, iff_ _ _ _ z3, iff_ _ _ _ z4, iff_ _ _ _ z5, iff_ _ _ _ z6']
theorem show_parse {s : ByteArray} (h : okP s = true) : showP (clP s) = s := by
  obtain ⟨hw, hm, _⟩ := parse_back h
  unfold showP
  rw [if_pos hm, ← hw, joinW_words]
end Go.Proofs.YtkgdmdcnhbaidaaDoor
