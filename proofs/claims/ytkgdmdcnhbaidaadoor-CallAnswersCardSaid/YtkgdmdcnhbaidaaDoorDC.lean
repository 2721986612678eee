/- The document's numbers: number, whole. -/
import Derived.Test.YtkgdmdcnhbaidaaDoorDB
namespace Go.Proofs.YtkgdmdcnhbaidaaDoor
open Go.ChangeShapes Go.WideShapes Go.ChangeAt Go.RowKit
set_option linter.unusedVariables false
set_option linter.unusedSimpArgs false

/-- what a word's digits say -/
def nuF (a : Nat) (c : UInt8) : Nat := (a * 10 % 18446744073709551616 + (c.toNat + 208) % 256) % 18446744073709551616
def nuL (l : List UInt8) : Nat := if l.head? = some 45 then l.tail.foldl nuF 0 else l.foldl nuF 0
/-- .. of the first k letters -/
def nuK (l : List UInt8) (k : Nat) : Nat := nuL (l.take k)
theorem nuF_lt (a : Nat) (c : UInt8) : nuF a c < 18446744073709551616 := Nat.mod_lt _ (by decide)
theorem nu_lt : ∀ (l : List UInt8) (a : Nat), a < 18446744073709551616 → l.foldl nuF a < 18446744073709551616
  | [], a, h => h
  | c :: l, a, _ => nu_lt l _ (nuF_lt a c)
theorem nuL_lt (l : List UInt8) : nuL l < 18446744073709551616 := by
  unfold nuL
  split <;> exact nu_lt _ _ (by decide)
theorem nuL_cons (d : UInt8) (l : List UInt8) : nuL (d :: l) = if d = 45 then l.foldl nuF 0 else (d :: l).foldl nuF 0 := by
  unfold nuL
  by_cases hd : d = 45 <;> simp [hd]
theorem nuK_step {l : List UInt8} {k : Nat} {c : UInt8} (h : l[k]? = some c) (hk : 0 < k ∨ c ≠ 45) : nuK l (k + 1) = nuF (nuK l k) c := by
  unfold nuK
  rw [List.take_add_one, h]
  show nuL (l.take k ++ [c]) = _
  cases k with
  | zero =>
    rcases hk with hk | hk
    · omega
    · unfold nuL
      simp [hk]
  | succ k =>
    cases l with
    | nil => simp at h
    | cons d l =>
      rw [List.take_succ_cons, List.cons_append, nuL_cons, nuL_cons]
      by_cases hd : d = 45
      · rw [if_pos hd, if_pos hd, List.foldl_append]; rfl
      · rw [if_neg hd, if_neg hd]
        show (l.take k ++ [c]).foldl nuF (nuF 0 d) = nuF ((l.take k).foldl nuF (nuF 0 d)) c
        rw [List.foldl_append]; rfl
theorem nuK_sign {l : List UInt8} (h : l[0]? = some 45) : nuK l 1 = 0 := by
  cases l with
  | nil => simp at h
  | cons d l =>
    simp only [List.getElem?_cons_zero, Option.some.injEq] at h
    subst h
    rfl
/-- .. and the sign -/
def nuV (s : ByteArray) : Int := wrap64 (if s.data.toList.head? = some 45 then (18446744073709551616 - (nuL s.data.toList : Int)) % 18446744073709551616 else (nuL s.data.toList : Int))
theorem w8sub : ∀ c : Fin 256, IntKind.u8.wrap ((c.1 : Int) - 48) = (((c.1 + 208) % 256 : Nat) : Int) := by decide +kernel
set_option maxRecDepth 100000 in
set_option maxHeartbeats 16000000 in
theorem rnumber_any (s : ByteArray) (w : World) (hs : s.size ≤ 100000) : Calls Tryd.prog 43 #[.string s] w fun e w' => e = .returned (.int .i64 (nuV s)) ∧ w' = w := by
  obtain ⟨n, hn⟩ : ∃ n, s.size = n := ⟨_, rfl⟩
  have HLN : Hid (s.data.toList.length = n) := Lib.hid hn
  have HNS : Hid (n ≤ 100000) := Lib.hid (by omega)
  have HV : Hid (nuV s = wrap64 (if s.data.toList.head? = some 45 then (18446744073709551616 - (nuL s.data.toList : Int)) % 18446744073709551616 else (nuL s.data.toList : Int))) := Lib.hid rfl
  obtain ⟨rv_, hrv⟩ : ∃ r, nuV s = r := ⟨_, rfl⟩
  rw [hrv] at HV ⊢
  clear hs hrv
  go_enter Tryd.func43, Tryd.ntmps43
  go_wp2
  go_loopw [3, 4] (fun a i W => ∃ (k : Nat), k ≤ n ∧ i = .int .i64 k ∧ a = .int .u64 (nuK s.data.toList k : Nat) ∧ w = W) (fun _ i _ => n - (intOf i).toNat)
  case atStart => exact ⟨0, Nat.zero_le _, rfl, rfl, rfl⟩
  case round =>
    obtain ⟨k, hk, rfl, rfl, rfl⟩ := hrel
    have HLT := Lib.hid (nuL_lt (s.data.toList.take k))
    obtain ⟨a, ha⟩ : ∃ a, nuK s.data.toList k = a := ⟨_, rfl⟩
    have HA := Lib.hid ha
    rw [ha]
    have HAL : Hid (a < 18446744073709551616) := Lib.hid (by rw [← ha]; exact HLT.out)
    clear ha HLT
    by_cases hlt : k < n
    · have d2 : decide ((k : Int) < (n : Int)) = true := decide_eq_true (by omega)
      have d2' : decide (k < n) = true := decide_eq_true hlt
      have wk : IntKind.i64.wrap ((k : Int) + 1) = (k : Int) + 1 := IntWalk.i64_in _ (by have := HNS.out; omega)
      have i1 := sindex_ s k (k : Int) rfl (by rw [hn]; exact hlt)
      have hrk : s.data.toList[k]? = some (s.data.toList.getD k 0) := by rw [List.getD_eq_getElem?_getD, List.getElem?_eq_getElem (by have := HLN.out; omega)]; rfl
      obtain ⟨c, hc⟩ : ∃ c, s.data.toList.getD k 0 = c := ⟨_, rfl⟩
      rw [hc] at i1 hrk
      have HRK := Lib.hid hrk
      clear hc hrk
      have x1 : IntKind.u64.wrap ((a : Int) * 10) = ((a * 10 % 18446744073709551616 : Nat) : Int) := by rw [IntKind.wrap_u64]; omega
      have x2 : IntKind.u8.wrap ((c.toNat : Int) - 48) = (((c.toNat + 208) % 256 : Nat) : Int) := w8sub ⟨c.toNat, c.toNat_lt⟩
      obtain ⟨m1, hm1⟩ : ∃ m, a * 10 % 18446744073709551616 = m := ⟨_, rfl⟩
      obtain ⟨m2, hm2⟩ : ∃ m, (c.toNat + 208) % 256 = m := ⟨_, rfl⟩
      have hm3 : m2 < 256 := by rw [← hm2]; exact Nat.mod_lt _ (by decide)
      have HF : Hid (nuF a c = (m1 + m2) % 18446744073709551616) := Lib.hid (by unfold nuF; rw [hm1, hm2])
      rw [hm1] at x1
      rw [hm2] at x2
      have x3 : IntKind.u64.wrap (m2 : Int) = (m2 : Int) := by rw [IntKind.wrap_u64]; omega
      have x4 : IntKind.u64.wrap ((m1 : Int) + (m2 : Int)) = (((m1 + m2) % 18446744073709551616 : Nat) : Int) := by rw [IntKind.wrap_u64]; omega
      obtain ⟨m4, hm4⟩ : ∃ m, (m1 + m2) % 18446744073709551616 = m := ⟨_, rfl⟩
      rw [hm4] at x4 HF
      clear hm1 hm2 hm3 hm4
      by_cases h0 : 0 < k
      · have d3 : decide ((0 : Int) < (k : Int)) = true := decide_eq_true (by omega)
        have d3' : decide (0 < k) = true := decide_eq_true h0
        have HST : Hid (nuK s.data.toList (k + 1) = m4) := Lib.hid (by rw [nuK_step HRK.out (.inl h0), HA.out]; exact HF.out)
        clear h0
        go_wp2
        go_roundw
        case rel => exact ⟨k + 1, by omega, by go_num, by rw [HST.out], trivial⟩
        case measure => simp [intOf]; omega
      · have hk0 : k = 0 := by omega
        have d3 : decide ((0 : Int) < (k : Int)) = false := decide_eq_false (by omega)
        have d3' : decide (0 < k) = false := decide_eq_false h0
        by_cases h45 : c = 45
        · have q1 : (((c.toNat : Nat) : Int) == 45) = true := by rw [h45]; rfl
          have q2 : (((c.toNat : Nat) : Int) != 45) = false := by rw [bne, q1]; rfl
          have HST : Hid (nuK s.data.toList (k + 1) = a) := Lib.hid (by
            rw [← HA.out]
            have h := HRK.out
            rw [hk0, h45] at h
            rw [hk0]
            rw [nuK_sign h]; rfl)
          clear h0 hk0 h45
          go_wp2
          go_roundw
          case rel => exact ⟨k + 1, by omega, by go_num, by rw [HST.out], trivial⟩
          case measure => simp [intOf]; omega
        · have q1 : (((c.toNat : Nat) : Int) == 45) = false := by
            rw [beq_eq_false_iff_ne]
            intro e
            exact h45 (UInt8.toNat_inj.1 (show c.toNat = 45 by omega))
          have q2 : (((c.toNat : Nat) : Int) != 45) = true := by rw [bne, q1]; rfl
          have HST : Hid (nuK s.data.toList (k + 1) = m4) := Lib.hid (by rw [nuK_step HRK.out (.inr h45), HA.out]; exact HF.out)
          clear h0 hk0 h45
          go_wp2
          go_roundw
          case rel => exact ⟨k + 1, by omega, by go_num, by rw [HST.out], trivial⟩
          case measure => simp [intOf]; omega
    · obtain rfl : n = k := by omega
      have d2 : decide ((n : Int) < (n : Int)) = false := decide_eq_false (by omega)
      have HAN : Hid (nuL s.data.toList = a) := Lib.hid (by
        rw [← HA.out]; unfold nuK
        rw [List.take_of_length_le (by rw [HLN.out]; exact Nat.le_refl _)])
      have w64 : ∀ z : Int, IntKind.i64.wrap z = wrap64 z := fun z => by
        simp only [IntKind.wrap, IntKind.bits, IntKind.signed, wrap64]
        simp
        split <;> omega
      have HW := Lib.hid w64
      clear w64
      rw [HAN.out] at HV
      have HAL2 := HAL.out
      by_cases h0 : n = 0
      · have d3 : decide ((0 : Int) < (n : Int)) = false := decide_eq_false (by omega)
        have d3' : decide (0 < n) = false := decide_eq_false (by omega)
        have y2 : IntKind.i64.wrap (a : Int) = rv_ := by
          rw [HW.out, HV.out, if_neg]
          have hl : s.data.toList = [] := List.length_eq_zero_iff.1 (by rw [HLN.out]; exact h0)
          rw [hl]; simp
        clear h0 HAL2
        go_wp2
        go_ret
        exact ⟨rfl, rfl⟩
      · have d3 : decide ((0 : Int) < (n : Int)) = true := decide_eq_true (by omega)
        have d3' : decide (0 < n) = true := decide_eq_true (by omega)
        have i0 := sindex_ s 0 0 rfl (by rw [hn]; omega)
        have hhd : s.data.toList.head? = some (s.data.toList.getD 0 0) := by
          rw [List.head?_eq_getElem?, List.getD_eq_getElem?_getD, List.getElem?_eq_getElem (by rw [HLN.out]; omega)]; rfl
        obtain ⟨c, hc⟩ : ∃ c, s.data.toList.getD 0 0 = c := ⟨_, rfl⟩
        rw [hc] at i0 hhd
        rw [hhd] at HV
        clear hc hhd h0
        by_cases h45 : c = 45
        · have q1 : (((c.toNat : Nat) : Int) == 45) = true := by rw [h45]; rfl
          obtain ⟨z, hz⟩ : ∃ z, (18446744073709551616 - (a : Int)) % 18446744073709551616 = z := ⟨_, rfl⟩
          have y1 : IntKind.u64.wrap (-(a : Int)) = z := by rw [IntKind.wrap_u64]; omega
          have y2 : IntKind.i64.wrap z = rv_ := by
            rw [HW.out, HV.out, if_pos (by rw [h45]), hz]
          clear h45 hz HAL2
          go_wp2
          go_ret
          exact ⟨rfl, rfl⟩
        · have q1 : (((c.toNat : Nat) : Int) == 45) = false := by
            rw [beq_eq_false_iff_ne]
            intro e
            exact h45 (UInt8.toNat_inj.1 (show c.toNat = 45 by omega))
          have y2 : IntKind.i64.wrap (a : Int) = rv_ := by
            rw [HW.out, HV.out, if_neg (fun e => h45 (Option.some.inj e))]
          clear h45 HAL2
          go_wp2
          go_ret
          exact ⟨rfl, rfl⟩
end Go.Proofs.YtkgdmdcnhbaidaaDoor
