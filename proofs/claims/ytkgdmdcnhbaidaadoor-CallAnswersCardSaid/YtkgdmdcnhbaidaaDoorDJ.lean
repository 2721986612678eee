/- What the document's Read tells is what Read tells. -/
import Derived.Test.YtkgdmdcnhbaidaaDoorDI
import Derived.Test.YtkgdmdcnhbaidaaDoorY3
namespace Go.Proofs.YtkgdmdcnhbaidaaDoor
open Go.ChangeShapes Go.WideShapes Go.ChangeAt Go.RowKit
set_option linter.unusedVariables false
set_option linter.unusedSimpArgs false

theorem nuF_dec (u : Nat) (hu : u < 18446744073709551616) : (Lib.decDigits u).foldl nuF 0 = u := by
  induction u using Nat.strongRecOn with
  | _ u ih =>
    have hd : ∀ d : Nat, d < 10 → (UInt8.ofNat (48 + d)).toNat = 48 + d := fun d hd => by simp; omega
    rw [Lib.decDigits]
    split
    · rename_i h
      have := hd u h
      show nuF 0 (UInt8.ofNat (48 + u)) = u
      unfold nuF
      rw [this]
      omega
    · rename_i h
      rw [List.foldl_append, ih (u / 10) (by omega) (by omega)]
      have := hd (u % 10) (by omega)
      show nuF (u / 10) (UInt8.ofNat (48 + u % 10)) = u
      unfold nuF
      rw [this]
      omega
theorem nuV_itoa {v : Int} (h : -9223372036854775808 ≤ v ∧ v ≤ 9223372036854775807) : nuV (ofL (Lib.itoa v)) = v := by
  unfold nuV
  show wrap64 (if (Lib.itoa v).head? = some 45 then (18446744073709551616 - (nuL (Lib.itoa v) : Int)) % 18446744073709551616 else (nuL (Lib.itoa v) : Int)) = v
  unfold Lib.itoa
  by_cases hv : v < 0
  · rw [if_pos hv, if_pos (show (45 :: Lib.decDigits v.natAbs).head? = some 45 from rfl), nuL_cons, if_pos rfl, nuF_dec _ (by omega)]
    unfold wrap64
    omega
  · rw [if_neg hv]
    obtain ⟨c, r, hr⟩ : ∃ c r, Lib.decDigits v.toNat = c :: r := by cases hs : Lib.decDigits v.toNat with | nil => exact absurd hs (dec_ne _) | cons c r => exact ⟨c, r, rfl⟩
    have hc := dec_ge v.toNat c (by rw [hr]; exact List.mem_cons_self ..)
    have hn : c ≠ 45 := fun e => by rw [e] at hc; exact absurd hc.1 (by decide)
    have hp := nuF_dec v.toNat (by omega)
    rw [hr] at hp ⊢
    rw [if_neg (by simpa using hn), nuL_cons, if_neg hn, hp]
    unfold wrap64
    omega
theorem tolB_dig : ∀ c : Fin 256, tolB (digB.getD (c.1 / 16) 0) (digB.getD (c.1 % 16) 0) = UInt8.ofNat c.1 := by decide +kernel
theorem tolL_hexL : ∀ l : List UInt8, tolL (hexL l) = l
  | [] => rfl
  | c :: l => by
    show tolB (digB.getD (c.toNat / 16) 0) (digB.getD (c.toNat % 16) 0) :: tolL (hexL l) = c :: l
    rw [tolL_hexL l, tolB_dig ⟨c.toNat, c.toNat_lt⟩]
    simp
theorem tolP_hexP (s : ByteArray) : tolP (hexP s) = s := by
  unfold hexP
  split
  · rename_i h
    rw [size_nil h]; rfl
  · unfold tolP
    show ofL (tolL (hexL s.data.toList)) = s
    rw [tolL_hexL]
    rfl
theorem rprs_pw : ∀ ps : List Pr, rprs (pw ps) = ps
  | [] => rfl
  | p :: l => by
    show (tolP (hexP p.1), tolP (hexP p.2)) :: rprs (pw l) = p :: l
    rw [rprs_pw l, tolP_hexP, tolP_hexP]
theorem rAs_ok {s : ByteArray} (h : okA s = true) : rAs s = asP s := by
  obtain ⟨hw, hr⟩ := ok_back h
  generalize asP s = a at *
  obtain ⟨er, fo, va, ps⟩ := a
  unfold rAs
  rw [hw]
  show (nuV (ofL (Lib.itoa er)), decide (fwd fo = { data := #[49] }), tolP (hexP va), rprs (pw ps)) = (er, fo, va, ps)
  rw [nuV_itoa hr, tolP_hexP, rprs_pw]
  have hd : decide (fwd fo = { data := #[49] }) = fo := by cases fo <;> decide
  rw [hd]
theorem okB_eq (s : ByteArray) : okB s = okA s := by
  unfold okB
  cases h : okA s with
  | true => rw [rAs_ok h]; exact decide_eq_true (tell_read h)
  | false =>
    refine decide_eq_false (fun e => ?_)
    have h1 := (read_tell (rAs s) (nuV_in _)).1
    rw [e, h] at h1
    cases h1
theorem rbP_eq (s : ByteArray) : rbP s = asP s := by
  unfold rbP
  rw [okB_eq]
  cases h : okA s with
  | true => rw [if_pos rfl]; exact rAs_ok h
  | false => unfold asP; rw [h]; rfl
/-- so it ends as Read does -/
theorem rread_same (s : ByteArray) (w : World) (hs : s.size ≤ 100000) : Calls Tryd.prog 21 #[.string s] w (ReadEnd s w) := by
  have h := rread_any s w hs
  refine h.mono (fun e w' he => ?_)
  obtain ⟨v, h1, h2, h3⟩ := he
  rw [rbP_eq] at h1 h2
  rw [okB_eq] at h1
  exact ⟨v, h1, h2, h3⟩
end Go.Proofs.YtkgdmdcnhbaidaaDoor
