/- Fits. -/
import Derived.Test.YtkgdmdcnhbaidaaDoorTY
import Derived.Test.YtkgdmdcnhbaidaaDoorM
namespace Go.Proofs.YtkgdmdcnhbaidaaDoor
open Go.ChangeShapes Go.WideShapes Go.ChangeAt Go.RowKit
set_option linter.unusedVariables false
set_option linter.unusedSimpArgs false

/-- a text is a key's (or, where ends are named, a bound's) -/
def kbF (c : Conf) (n : Nm) (s : ByteArray) : Bool := if n.2.2.1 then lenB (mayB c) s 0 c.kl else lenB (mayB c) s 1 c.kl
def fitN (n : Nm) (b1 b2 b3 : Bool) (li : Int) : Bool := !(n.2.1 && !b1) && (!(n.2.2.1 && !b2) && (!(n.2.2.2.1 && !b3) && !(n.2.2.2.2.1 && (decide (li < 0) || decide (128 < li)))))
def fitC (c : Conf) (x : Cl) : Bool := fitN (nmK x.1) (kbF c (nmK x.1) x.2.2.1) (kbF c (nmK x.1) x.2.2.2.1) (lenB (mayB c) x.2.2.2.2.1 0 c.vl) x.2.2.2.2.2.1
def fitV (n : Nm) (b1 b2 b3 : Bool) (li : Int) : Value := .int .i64 (if fitN n b1 b2 b3 li then 0 else 32)
set_option maxRecDepth 100000 in
set_option maxHeartbeats 16000000 in
theorem fits_any (c : Conf) (kn : Nat) (tx : Int) (ke en va : ByteArray) (li : Int) (eg : Nat) (w : World) (hk : kn ≤ 255) (hke : ke.size ≤ maxLen) (hen : en.size ≤ maxLen) (hva : va.size ≤ maxLen) (hg : Gl w) : Calls Tryd.prog 25 #[c.val, clV (kn, tx, ke, en, va, li, eg)] w fun e w' => e = .returned (.int .i64 (if fitC c (kn, tx, ke, en, va, li, eg) then 0 else 32)) ∧ Below w.heap.size w w' := by
  show Calls Tryd.prog 25 #[.agg #[.int .i64 c.ta, .int .i64 c.ac, .int .i64 c.ke, .int .i64 c.de, .int .i64 c.ts, .int .i64 c.kl, .int .i64 c.vl, .int .i64 c.fa], .agg #[.int .u8 (kn : Int), .int .i64 tx, .string ke, .string en, .string va, .int .i64 li, .int .u8 (eg : Int)]] w fun e w' => e = .returned (fitV (nmK kn) (kbF c (nmK kn) ke) (kbF c (nmK kn) en) (lenB (mayB c) va 0 c.vl) li) ∧ Below w.heap.size w w'
  have HB0 : Hid (Below w.heap.size w (w.alloc (.cells #[.int .i64 c.ta, .int .i64 c.ac, .int .i64 c.ke, .int .i64 c.de, .int .i64 c.ts, .int .i64 c.kl, .int .i64 c.vl, .int .i64 c.fa] 52))) := (Below.refl _ _).alloc (Nat.le_refl _) _
  have hb1 : Below (w.alloc (.cells #[.int .i64 c.ta, .int .i64 c.ac, .int .i64 c.ke, .int .i64 c.de, .int .i64 c.ts, .int .i64 c.kl, .int .i64 c.vl, .int .i64 c.fa] 52)).heap.size (w.alloc (.cells #[.int .i64 c.ta, .int .i64 c.ac, .int .i64 c.ke, .int .i64 c.de, .int .i64 c.ts, .int .i64 c.kl, .int .i64 c.vl, .int .i64 c.fa] 52)) ((w.alloc (.cells #[.int .i64 c.ta, .int .i64 c.ac, .int .i64 c.ke, .int .i64 c.de, .int .i64 c.ts, .int .i64 c.kl, .int .i64 c.vl, .int .i64 c.fa] 52)).alloc (.cells #[.int .u8 (kn : Int), .int .i64 tx, .string ke, .string en, .string va, .int .i64 li, .int .u8 (eg : Int)] 24)) := (Below.refl _ _).alloc (Nat.le_refl _) _
  have HC : Hid (Blk ((w.alloc (.cells #[.int .i64 c.ta, .int .i64 c.ac, .int .i64 c.ke, .int .i64 c.de, .int .i64 c.ts, .int .i64 c.kl, .int .i64 c.vl, .int .i64 c.fa] 52)).alloc (.cells #[.int .u8 (kn : Int), .int .i64 tx, .string ke, .string en, .string va, .int .i64 li, .int .u8 (eg : Int)] 24)) w.heap.size #[.int .i64 c.ta, .int .i64 c.ac, .int .i64 c.ke, .int .i64 c.de, .int .i64 c.ts, .int .i64 c.kl, .int .i64 c.vl, .int .i64 c.fa] 52) := (Blk.new _ _ _).later hb1
  have HX : Hid (Blk ((w.alloc (.cells #[.int .i64 c.ta, .int .i64 c.ac, .int .i64 c.ke, .int .i64 c.de, .int .i64 c.ts, .int .i64 c.kl, .int .i64 c.vl, .int .i64 c.fa] 52)).alloc (.cells #[.int .u8 (kn : Int), .int .i64 tx, .string ke, .string en, .string va, .int .i64 li, .int .u8 (eg : Int)] 24)) (w.alloc (.cells #[.int .i64 c.ta, .int .i64 c.ac, .int .i64 c.ke, .int .i64 c.de, .int .i64 c.ts, .int .i64 c.kl, .int .i64 c.vl, .int .i64 c.fa] 52)).heap.size #[.int .u8 (kn : Int), .int .i64 tx, .string ke, .string en, .string va, .int .i64 li, .int .u8 (eg : Int)] 24) := Blk.new _ _ _
  have HB := Lib.hid (stepB HB0.out hb1)
  have HOF := Lib.hid (of_any kn _ hk (hg.later HB.out))
  have HS : Hid ((w.alloc (.cells #[.int .i64 c.ta, .int .i64 c.ac, .int .i64 c.ke, .int .i64 c.de, .int .i64 c.ts, .int .i64 c.kl, .int .i64 c.vl, .int .i64 c.fa] 52)).heap.size = w.heap.size + 1) := Array.size_push _
  rw [HS.out] at HX
  have hke2 : ∀ W, Calls Tryd.prog 48 #[.agg #[.int .i64 c.ta, .int .i64 c.ac, .int .i64 c.ke, .int .i64 c.de, .int .i64 c.ts, .int .i64 c.kl, .int .i64 c.vl, .int .i64 c.fa], .string ke] W fun e w' => e = .returned (.bool (lenB (mayB c) ke 1 c.kl)) ∧ Below W.heap.size W w' := fun W => key_any c ke W hke
  have hbk2 : ∀ W, Calls Tryd.prog 49 #[.agg #[.int .i64 c.ta, .int .i64 c.ac, .int .i64 c.ke, .int .i64 c.de, .int .i64 c.ts, .int .i64 c.kl, .int .i64 c.vl, .int .i64 c.fa], .string ke] W fun e w' => e = .returned (.bool (lenB (mayB c) ke 0 c.kl)) ∧ Below W.heap.size W w' := fun W => bound_any c ke W hke
  have hbe2 : ∀ W, Calls Tryd.prog 49 #[.agg #[.int .i64 c.ta, .int .i64 c.ac, .int .i64 c.ke, .int .i64 c.de, .int .i64 c.ts, .int .i64 c.kl, .int .i64 c.vl, .int .i64 c.fa], .string en] W fun e w' => e = .returned (.bool (lenB (mayB c) en 0 c.kl)) ∧ Below W.heap.size W w' := fun W => bound_any c en W hen
  have hva2 : ∀ W, Calls Tryd.prog 50 #[.agg #[.int .i64 c.ta, .int .i64 c.ac, .int .i64 c.ke, .int .i64 c.de, .int .i64 c.ts, .int .i64 c.kl, .int .i64 c.vl, .int .i64 c.fa], .string va] W fun e w' => e = .returned (.bool (lenB (mayB c) va 0 c.vl)) ∧ Below W.heap.size W w' := fun W => value_any c va W hva
  have hcs := nm_cases kn
  generalize nmK kn = nm at HOF hcs ⊢
  clear hg hb1 HB0 HS
  rcases hcs with rfl | rfl | rfl | rfl | rfl | rfl
  · have HK1 := Lib.hid hke2
    have HK2 := Lib.hid hbe2
    have HK3 := Lib.hid hva2
    clear hke2 hbk2 hbe2 hva2
    unfold nm0 nmV at HOF
    simp only at HOF
    show Calls _ _ _ _ fun e w' => e = .returned (fitV (false, false, false, false, false, false) (lenB (mayB c) ke 1 c.kl) (lenB (mayB c) en 1 c.kl) (lenB (mayB c) va 0 c.vl) li) ∧ _
    generalize lenB (mayB c) ke 1 c.kl = b1 at HK1 ⊢
    generalize lenB (mayB c) en 1 c.kl = b2
    generalize lenB (mayB c) va 0 c.vl = b3 at HK3 ⊢
    go_enter Tryd.func25, Tryd.ntmps25
    go_upto_region 1 with (fail)
    generalize (w.alloc (.cells #[.int .i64 c.ta, .int .i64 c.ac, .int .i64 c.ke, .int .i64 c.de, .int .i64 c.ts, .int .i64 c.kl, .int .i64 c.vl, .int .i64 c.fa] 52)).alloc (.cells #[.int .u8 (kn : Int), .int .i64 tx, .string ke, .string en, .string va, .int .i64 li, .int .u8 (eg : Int)] 24) = w2 at *
    have x0 := HX.out.cell 0
    simp only [List.getElem?_toArray, List.getElem?_cons_zero, List.getElem?_cons_succ] at x0
    go_wp2_with fail
    refine HOF.out.mono ?_
    rintro e w3 ⟨rfl, hb⟩
    replace HC := Lib.hid (HC.out.later hb)
    replace HX := Lib.hid (HX.out.later hb)
    replace HB := Lib.hid (stepB HB.out hb)
    clear hb x0 HOF
    have hby : Below w3.heap.size w3 (w3.alloc (.cells #[.bool false, .bool false, .bool false, .bool false, .bool false, .bool false] 72)) := (Below.refl _ _).alloc (Nat.le_refl _) _
    have HN : Hid (Blk (w3.alloc (.cells #[.bool false, .bool false, .bool false, .bool false, .bool false, .bool false] 72)) w3.heap.size #[.bool false, .bool false, .bool false, .bool false, .bool false, .bool false] 72) := Blk.new _ _ _
    replace HC := Lib.hid (HC.out.later hby)
    replace HX := Lib.hid (HX.out.later hby)
    replace HB := Lib.hid (stepB HB.out hby)
    clear hby
    go_upto_region 2 with (fail)
    generalize w3.alloc (.cells #[.bool false, .bool false, .bool false, .bool false, .bool false, .bool false] 72) = W0 at *
    obtain ⟨pn, hpn⟩ : ∃ x, w3.heap.size = x := ⟨_, rfl⟩
    rw [hpn] at HN ⊢
    clear hpn
    have c0 := HC.out.cell 0
    have c1 := HC.out.cell 1
    have c2 := HC.out.cell 2
    have c3 := HC.out.cell 3
    have c4 := HC.out.cell 4
    have c5 := HC.out.cell 5
    have c6 := HC.out.cell 6
    have c7 := HC.out.cell 7
    have x0 := HX.out.cell 0
    have x1 := HX.out.cell 1
    have x2 := HX.out.cell 2
    have x3 := HX.out.cell 3
    have x4 := HX.out.cell 4
    have x5 := HX.out.cell 5
    have x6 := HX.out.cell 6
    have m0 := HN.out.cell 0
    have m1 := HN.out.cell 1
    have m2 := HN.out.cell 2
    have m3 := HN.out.cell 3
    have m4 := HN.out.cell 4
    have m5 := HN.out.cell 5
    simp only [List.getElem?_toArray, List.getElem?_cons_zero, List.getElem?_cons_succ] at c0 c1 c2 c3 c4 c5 c6 c7 x0 x1 x2 x3 x4 x5 x6 m0 m1 m2 m3 m4 m5
    go_wp2
    go_ret
    exact ⟨by first | rfl | (unfold fitV fitN; simp), HB.out⟩
  · have HK1 := Lib.hid hke2
    have HK2 := Lib.hid hbe2
    have HK3 := Lib.hid hva2
    clear hke2 hbk2 hbe2 hva2
    unfold nmV at HOF
    simp only at HOF
    show Calls _ _ _ _ fun e w' => e = .returned (fitV (true, true, false, false, false, false) (lenB (mayB c) ke 1 c.kl) (lenB (mayB c) en 1 c.kl) (lenB (mayB c) va 0 c.vl) li) ∧ _
    generalize lenB (mayB c) ke 1 c.kl = b1 at HK1 ⊢
    generalize lenB (mayB c) en 1 c.kl = b2
    generalize lenB (mayB c) va 0 c.vl = b3 at HK3 ⊢
    go_enter Tryd.func25, Tryd.ntmps25
    go_upto_region 1 with (fail)
    generalize (w.alloc (.cells #[.int .i64 c.ta, .int .i64 c.ac, .int .i64 c.ke, .int .i64 c.de, .int .i64 c.ts, .int .i64 c.kl, .int .i64 c.vl, .int .i64 c.fa] 52)).alloc (.cells #[.int .u8 (kn : Int), .int .i64 tx, .string ke, .string en, .string va, .int .i64 li, .int .u8 (eg : Int)] 24) = w2 at *
    have x0 := HX.out.cell 0
    simp only [List.getElem?_toArray, List.getElem?_cons_zero, List.getElem?_cons_succ] at x0
    go_wp2_with fail
    refine HOF.out.mono ?_
    rintro e w3 ⟨rfl, hb⟩
    replace HC := Lib.hid (HC.out.later hb)
    replace HX := Lib.hid (HX.out.later hb)
    replace HB := Lib.hid (stepB HB.out hb)
    clear hb x0 HOF
    have hby : Below w3.heap.size w3 (w3.alloc (.cells #[.bool true, .bool true, .bool false, .bool false, .bool false, .bool false] 72)) := (Below.refl _ _).alloc (Nat.le_refl _) _
    have HN : Hid (Blk (w3.alloc (.cells #[.bool true, .bool true, .bool false, .bool false, .bool false, .bool false] 72)) w3.heap.size #[.bool true, .bool true, .bool false, .bool false, .bool false, .bool false] 72) := Blk.new _ _ _
    replace HC := Lib.hid (HC.out.later hby)
    replace HX := Lib.hid (HX.out.later hby)
    replace HB := Lib.hid (stepB HB.out hby)
    clear hby
    go_upto_region 2 with (fail)
    generalize w3.alloc (.cells #[.bool true, .bool true, .bool false, .bool false, .bool false, .bool false] 72) = W0 at *
    obtain ⟨pn, hpn⟩ : ∃ x, w3.heap.size = x := ⟨_, rfl⟩
    rw [hpn] at HN ⊢
    clear hpn
    have c0 := HC.out.cell 0
    have c1 := HC.out.cell 1
    have c2 := HC.out.cell 2
    have c3 := HC.out.cell 3
    have c4 := HC.out.cell 4
    have c5 := HC.out.cell 5
    have c6 := HC.out.cell 6
    have c7 := HC.out.cell 7
    have x0 := HX.out.cell 0
    have x1 := HX.out.cell 1
    have x2 := HX.out.cell 2
    have x3 := HX.out.cell 3
    have x4 := HX.out.cell 4
    have x5 := HX.out.cell 5
    have x6 := HX.out.cell 6
    have m0 := HN.out.cell 0
    have m1 := HN.out.cell 1
    have m2 := HN.out.cell 2
    have m3 := HN.out.cell 3
    have m4 := HN.out.cell 4
    have m5 := HN.out.cell 5
    simp only [List.getElem?_toArray, List.getElem?_cons_zero, List.getElem?_cons_succ] at c0 c1 c2 c3 c4 c5 c6 c7 x0 x1 x2 x3 x4 x5 x6 m0 m1 m2 m3 m4 m5
    go_wp2_with fail
    refine (HK1.out W0).mono ?_
    rintro e W1 ⟨rfl, hb⟩
    replace HC := Lib.hid (HC.out.later hb)
    replace HX := Lib.hid (HX.out.later hb)
    replace HN := Lib.hid (HN.out.later hb)
    replace HB := Lib.hid (stepB HB.out hb)
    clear hb
    clear c0 c1 c2 c3 c4 c5 c6 c7 x0 x1 x2 x3 x4 x5 x6 m0 m1 m2 m3 m4 m5
    have c0 := HC.out.cell 0
    have c1 := HC.out.cell 1
    have c2 := HC.out.cell 2
    have c3 := HC.out.cell 3
    have c4 := HC.out.cell 4
    have c5 := HC.out.cell 5
    have c6 := HC.out.cell 6
    have c7 := HC.out.cell 7
    have x0 := HX.out.cell 0
    have x1 := HX.out.cell 1
    have x2 := HX.out.cell 2
    have x3 := HX.out.cell 3
    have x4 := HX.out.cell 4
    have x5 := HX.out.cell 5
    have x6 := HX.out.cell 6
    have m0 := HN.out.cell 0
    have m1 := HN.out.cell 1
    have m2 := HN.out.cell 2
    have m3 := HN.out.cell 3
    have m4 := HN.out.cell 4
    have m5 := HN.out.cell 5
    simp only [List.getElem?_toArray, List.getElem?_cons_zero, List.getElem?_cons_succ] at c0 c1 c2 c3 c4 c5 c6 c7 x0 x1 x2 x3 x4 x5 x6 m0 m1 m2 m3 m4 m5
    cases b1
    · go_wp2
      go_ret
      exact ⟨by first | rfl | (unfold fitV fitN; simp), HB.out⟩
    · go_wp2
      go_ret
      exact ⟨by first | rfl | (unfold fitV fitN; simp), HB.out⟩
  · have HK1 := Lib.hid hke2
    have HK2 := Lib.hid hbe2
    have HK3 := Lib.hid hva2
    clear hke2 hbk2 hbe2 hva2
    unfold nmV at HOF
    simp only at HOF
    show Calls _ _ _ _ fun e w' => e = .returned (fitV (true, true, false, true, false, false) (lenB (mayB c) ke 1 c.kl) (lenB (mayB c) en 1 c.kl) (lenB (mayB c) va 0 c.vl) li) ∧ _
    generalize lenB (mayB c) ke 1 c.kl = b1 at HK1 ⊢
    generalize lenB (mayB c) en 1 c.kl = b2
    generalize lenB (mayB c) va 0 c.vl = b3 at HK3 ⊢
    go_enter Tryd.func25, Tryd.ntmps25
    go_upto_region 1 with (fail)
    generalize (w.alloc (.cells #[.int .i64 c.ta, .int .i64 c.ac, .int .i64 c.ke, .int .i64 c.de, .int .i64 c.ts, .int .i64 c.kl, .int .i64 c.vl, .int .i64 c.fa] 52)).alloc (.cells #[.int .u8 (kn : Int), .int .i64 tx, .string ke, .string en, .string va, .int .i64 li, .int .u8 (eg : Int)] 24) = w2 at *
    have x0 := HX.out.cell 0
    simp only [List.getElem?_toArray, List.getElem?_cons_zero, List.getElem?_cons_succ] at x0
    go_wp2_with fail
    refine HOF.out.mono ?_
    rintro e w3 ⟨rfl, hb⟩
    replace HC := Lib.hid (HC.out.later hb)
    replace HX := Lib.hid (HX.out.later hb)
    replace HB := Lib.hid (stepB HB.out hb)
    clear hb x0 HOF
    have hby : Below w3.heap.size w3 (w3.alloc (.cells #[.bool true, .bool true, .bool false, .bool true, .bool false, .bool false] 72)) := (Below.refl _ _).alloc (Nat.le_refl _) _
    have HN : Hid (Blk (w3.alloc (.cells #[.bool true, .bool true, .bool false, .bool true, .bool false, .bool false] 72)) w3.heap.size #[.bool true, .bool true, .bool false, .bool true, .bool false, .bool false] 72) := Blk.new _ _ _
    replace HC := Lib.hid (HC.out.later hby)
    replace HX := Lib.hid (HX.out.later hby)
    replace HB := Lib.hid (stepB HB.out hby)
    clear hby
    go_upto_region 2 with (fail)
    generalize w3.alloc (.cells #[.bool true, .bool true, .bool false, .bool true, .bool false, .bool false] 72) = W0 at *
    obtain ⟨pn, hpn⟩ : ∃ x, w3.heap.size = x := ⟨_, rfl⟩
    rw [hpn] at HN ⊢
    clear hpn
    have c0 := HC.out.cell 0
    have c1 := HC.out.cell 1
    have c2 := HC.out.cell 2
    have c3 := HC.out.cell 3
    have c4 := HC.out.cell 4
    have c5 := HC.out.cell 5
    have c6 := HC.out.cell 6
    have c7 := HC.out.cell 7
    have x0 := HX.out.cell 0
    have x1 := HX.out.cell 1
    have x2 := HX.out.cell 2
    have x3 := HX.out.cell 3
    have x4 := HX.out.cell 4
    have x5 := HX.out.cell 5
    have x6 := HX.out.cell 6
    have m0 := HN.out.cell 0
    have m1 := HN.out.cell 1
    have m2 := HN.out.cell 2
    have m3 := HN.out.cell 3
    have m4 := HN.out.cell 4
    have m5 := HN.out.cell 5
    simp only [List.getElem?_toArray, List.getElem?_cons_zero, List.getElem?_cons_succ] at c0 c1 c2 c3 c4 c5 c6 c7 x0 x1 x2 x3 x4 x5 x6 m0 m1 m2 m3 m4 m5
    go_wp2_with fail
    refine (HK1.out W0).mono ?_
    rintro e W1 ⟨rfl, hb⟩
    replace HC := Lib.hid (HC.out.later hb)
    replace HX := Lib.hid (HX.out.later hb)
    replace HN := Lib.hid (HN.out.later hb)
    replace HB := Lib.hid (stepB HB.out hb)
    clear hb
    clear c0 c1 c2 c3 c4 c5 c6 c7 x0 x1 x2 x3 x4 x5 x6 m0 m1 m2 m3 m4 m5
    have c0 := HC.out.cell 0
    have c1 := HC.out.cell 1
    have c2 := HC.out.cell 2
    have c3 := HC.out.cell 3
    have c4 := HC.out.cell 4
    have c5 := HC.out.cell 5
    have c6 := HC.out.cell 6
    have c7 := HC.out.cell 7
    have x0 := HX.out.cell 0
    have x1 := HX.out.cell 1
    have x2 := HX.out.cell 2
    have x3 := HX.out.cell 3
    have x4 := HX.out.cell 4
    have x5 := HX.out.cell 5
    have x6 := HX.out.cell 6
    have m0 := HN.out.cell 0
    have m1 := HN.out.cell 1
    have m2 := HN.out.cell 2
    have m3 := HN.out.cell 3
    have m4 := HN.out.cell 4
    have m5 := HN.out.cell 5
    simp only [List.getElem?_toArray, List.getElem?_cons_zero, List.getElem?_cons_succ] at c0 c1 c2 c3 c4 c5 c6 c7 x0 x1 x2 x3 x4 x5 x6 m0 m1 m2 m3 m4 m5
    cases b1
    · go_wp2
      go_ret
      exact ⟨by first | rfl | (unfold fitV fitN; simp), HB.out⟩
    · go_wp2_with fail
      refine (HK3.out W1).mono ?_
      rintro e W2 ⟨rfl, hb⟩
      replace HC := Lib.hid (HC.out.later hb)
      replace HX := Lib.hid (HX.out.later hb)
      replace HN := Lib.hid (HN.out.later hb)
      replace HB := Lib.hid (stepB HB.out hb)
      clear hb
      clear c0 c1 c2 c3 c4 c5 c6 c7 x0 x1 x2 x3 x4 x5 x6 m0 m1 m2 m3 m4 m5
      have c0 := HC.out.cell 0
      have c1 := HC.out.cell 1
      have c2 := HC.out.cell 2
      have c3 := HC.out.cell 3
      have c4 := HC.out.cell 4
      have c5 := HC.out.cell 5
      have c6 := HC.out.cell 6
      have c7 := HC.out.cell 7
      have x0 := HX.out.cell 0
      have x1 := HX.out.cell 1
      have x2 := HX.out.cell 2
      have x3 := HX.out.cell 3
      have x4 := HX.out.cell 4
      have x5 := HX.out.cell 5
      have x6 := HX.out.cell 6
      have m0 := HN.out.cell 0
      have m1 := HN.out.cell 1
      have m2 := HN.out.cell 2
      have m3 := HN.out.cell 3
      have m4 := HN.out.cell 4
      have m5 := HN.out.cell 5
      simp only [List.getElem?_toArray, List.getElem?_cons_zero, List.getElem?_cons_succ] at c0 c1 c2 c3 c4 c5 c6 c7 x0 x1 x2 x3 x4 x5 x6 m0 m1 m2 m3 m4 m5
      cases b3
      · go_wp2
        go_ret
        exact ⟨by first | rfl | (unfold fitV fitN; simp), HB.out⟩
      · go_wp2
        go_ret
        exact ⟨by first | rfl | (unfold fitV fitN; simp), HB.out⟩
  · have HK1 := Lib.hid hbk2
    have HK2 := Lib.hid hbe2
    have HK3 := Lib.hid hva2
    clear hke2 hbk2 hbe2 hva2
    unfold nmV at HOF
    simp only at HOF
    show Calls _ _ _ _ fun e w' => e = .returned (fitV (true, true, true, false, true, false) (lenB (mayB c) ke 0 c.kl) (lenB (mayB c) en 0 c.kl) (lenB (mayB c) va 0 c.vl) li) ∧ _
    generalize lenB (mayB c) ke 0 c.kl = b1 at HK1 ⊢
    generalize lenB (mayB c) en 0 c.kl = b2 at HK2 ⊢
    generalize lenB (mayB c) va 0 c.vl = b3 at HK3 ⊢
    go_enter Tryd.func25, Tryd.ntmps25
    go_upto_region 1 with (fail)
    generalize (w.alloc (.cells #[.int .i64 c.ta, .int .i64 c.ac, .int .i64 c.ke, .int .i64 c.de, .int .i64 c.ts, .int .i64 c.kl, .int .i64 c.vl, .int .i64 c.fa] 52)).alloc (.cells #[.int .u8 (kn : Int), .int .i64 tx, .string ke, .string en, .string va, .int .i64 li, .int .u8 (eg : Int)] 24) = w2 at *
    have x0 := HX.out.cell 0
    simp only [List.getElem?_toArray, List.getElem?_cons_zero, List.getElem?_cons_succ] at x0
    go_wp2_with fail
    refine HOF.out.mono ?_
    rintro e w3 ⟨rfl, hb⟩
    replace HC := Lib.hid (HC.out.later hb)
    replace HX := Lib.hid (HX.out.later hb)
    replace HB := Lib.hid (stepB HB.out hb)
    clear hb x0 HOF
    have hby : Below w3.heap.size w3 (w3.alloc (.cells #[.bool true, .bool true, .bool true, .bool false, .bool true, .bool false] 72)) := (Below.refl _ _).alloc (Nat.le_refl _) _
    have HN : Hid (Blk (w3.alloc (.cells #[.bool true, .bool true, .bool true, .bool false, .bool true, .bool false] 72)) w3.heap.size #[.bool true, .bool true, .bool true, .bool false, .bool true, .bool false] 72) := Blk.new _ _ _
    replace HC := Lib.hid (HC.out.later hby)
    replace HX := Lib.hid (HX.out.later hby)
    replace HB := Lib.hid (stepB HB.out hby)
    clear hby
    go_upto_region 2 with (fail)
    generalize w3.alloc (.cells #[.bool true, .bool true, .bool true, .bool false, .bool true, .bool false] 72) = W0 at *
    obtain ⟨pn, hpn⟩ : ∃ x, w3.heap.size = x := ⟨_, rfl⟩
    rw [hpn] at HN ⊢
    clear hpn
    have c0 := HC.out.cell 0
    have c1 := HC.out.cell 1
    have c2 := HC.out.cell 2
    have c3 := HC.out.cell 3
    have c4 := HC.out.cell 4
    have c5 := HC.out.cell 5
    have c6 := HC.out.cell 6
    have c7 := HC.out.cell 7
    have x0 := HX.out.cell 0
    have x1 := HX.out.cell 1
    have x2 := HX.out.cell 2
    have x3 := HX.out.cell 3
    have x4 := HX.out.cell 4
    have x5 := HX.out.cell 5
    have x6 := HX.out.cell 6
    have m0 := HN.out.cell 0
    have m1 := HN.out.cell 1
    have m2 := HN.out.cell 2
    have m3 := HN.out.cell 3
    have m4 := HN.out.cell 4
    have m5 := HN.out.cell 5
    simp only [List.getElem?_toArray, List.getElem?_cons_zero, List.getElem?_cons_succ] at c0 c1 c2 c3 c4 c5 c6 c7 x0 x1 x2 x3 x4 x5 x6 m0 m1 m2 m3 m4 m5
    go_wp2_with fail
    refine (HK1.out W0).mono ?_
    rintro e W1 ⟨rfl, hb⟩
    replace HC := Lib.hid (HC.out.later hb)
    replace HX := Lib.hid (HX.out.later hb)
    replace HN := Lib.hid (HN.out.later hb)
    replace HB := Lib.hid (stepB HB.out hb)
    clear hb
    clear c0 c1 c2 c3 c4 c5 c6 c7 x0 x1 x2 x3 x4 x5 x6 m0 m1 m2 m3 m4 m5
    have c0 := HC.out.cell 0
    have c1 := HC.out.cell 1
    have c2 := HC.out.cell 2
    have c3 := HC.out.cell 3
    have c4 := HC.out.cell 4
    have c5 := HC.out.cell 5
    have c6 := HC.out.cell 6
    have c7 := HC.out.cell 7
    have x0 := HX.out.cell 0
    have x1 := HX.out.cell 1
    have x2 := HX.out.cell 2
    have x3 := HX.out.cell 3
    have x4 := HX.out.cell 4
    have x5 := HX.out.cell 5
    have x6 := HX.out.cell 6
    have m0 := HN.out.cell 0
    have m1 := HN.out.cell 1
    have m2 := HN.out.cell 2
    have m3 := HN.out.cell 3
    have m4 := HN.out.cell 4
    have m5 := HN.out.cell 5
    simp only [List.getElem?_toArray, List.getElem?_cons_zero, List.getElem?_cons_succ] at c0 c1 c2 c3 c4 c5 c6 c7 x0 x1 x2 x3 x4 x5 x6 m0 m1 m2 m3 m4 m5
    cases b1
    · go_wp2
      go_ret
      exact ⟨by first | rfl | (unfold fitV fitN; simp), HB.out⟩
    · go_wp2_with fail
      refine (HK2.out W1).mono ?_
      rintro e W2 ⟨rfl, hb⟩
      replace HC := Lib.hid (HC.out.later hb)
      replace HX := Lib.hid (HX.out.later hb)
      replace HN := Lib.hid (HN.out.later hb)
      replace HB := Lib.hid (stepB HB.out hb)
      clear hb
      clear c0 c1 c2 c3 c4 c5 c6 c7 x0 x1 x2 x3 x4 x5 x6 m0 m1 m2 m3 m4 m5
      have c0 := HC.out.cell 0
      have c1 := HC.out.cell 1
      have c2 := HC.out.cell 2
      have c3 := HC.out.cell 3
      have c4 := HC.out.cell 4
      have c5 := HC.out.cell 5
      have c6 := HC.out.cell 6
      have c7 := HC.out.cell 7
      have x0 := HX.out.cell 0
      have x1 := HX.out.cell 1
      have x2 := HX.out.cell 2
      have x3 := HX.out.cell 3
      have x4 := HX.out.cell 4
      have x5 := HX.out.cell 5
      have x6 := HX.out.cell 6
      have m0 := HN.out.cell 0
      have m1 := HN.out.cell 1
      have m2 := HN.out.cell 2
      have m3 := HN.out.cell 3
      have m4 := HN.out.cell 4
      have m5 := HN.out.cell 5
      simp only [List.getElem?_toArray, List.getElem?_cons_zero, List.getElem?_cons_succ] at c0 c1 c2 c3 c4 c5 c6 c7 x0 x1 x2 x3 x4 x5 x6 m0 m1 m2 m3 m4 m5
      cases b2
      · go_wp2
        go_ret
        exact ⟨by first | rfl | (unfold fitV fitN; simp), HB.out⟩
      · by_cases l1 : li < 0
        · have d1 : decide (li < 0) = true := decide_eq_true l1
          go_wp2
          go_ret
          exact ⟨by first | rfl | (unfold fitV fitN; simp [d1]), HB.out⟩
        · have d1 : decide (li < 0) = false := decide_eq_false l1
          by_cases l2 : 128 < li
          · have d2 : decide (128 < li) = true := decide_eq_true l2
            go_wp2
            go_ret
            exact ⟨by first | rfl | (unfold fitV fitN; simp [d2]), HB.out⟩
          · have d2 : decide (128 < li) = false := decide_eq_false l2
            go_wp2
            go_ret
            exact ⟨by first | rfl | (unfold fitV fitN; simp [d1, d2]), HB.out⟩
  · have HK1 := Lib.hid hke2
    have HK2 := Lib.hid hbe2
    have HK3 := Lib.hid hva2
    clear hke2 hbk2 hbe2 hva2
    unfold nmV at HOF
    simp only at HOF
    show Calls _ _ _ _ fun e w' => e = .returned (fitV (true, false, false, false, false, false) (lenB (mayB c) ke 1 c.kl) (lenB (mayB c) en 1 c.kl) (lenB (mayB c) va 0 c.vl) li) ∧ _
    generalize lenB (mayB c) ke 1 c.kl = b1 at HK1 ⊢
    generalize lenB (mayB c) en 1 c.kl = b2
    generalize lenB (mayB c) va 0 c.vl = b3 at HK3 ⊢
    go_enter Tryd.func25, Tryd.ntmps25
    go_upto_region 1 with (fail)
    generalize (w.alloc (.cells #[.int .i64 c.ta, .int .i64 c.ac, .int .i64 c.ke, .int .i64 c.de, .int .i64 c.ts, .int .i64 c.kl, .int .i64 c.vl, .int .i64 c.fa] 52)).alloc (.cells #[.int .u8 (kn : Int), .int .i64 tx, .string ke, .string en, .string va, .int .i64 li, .int .u8 (eg : Int)] 24) = w2 at *
    have x0 := HX.out.cell 0
    simp only [List.getElem?_toArray, List.getElem?_cons_zero, List.getElem?_cons_succ] at x0
    go_wp2_with fail
    refine HOF.out.mono ?_
    rintro e w3 ⟨rfl, hb⟩
    replace HC := Lib.hid (HC.out.later hb)
    replace HX := Lib.hid (HX.out.later hb)
    replace HB := Lib.hid (stepB HB.out hb)
    clear hb x0 HOF
    have hby : Below w3.heap.size w3 (w3.alloc (.cells #[.bool true, .bool false, .bool false, .bool false, .bool false, .bool false] 72)) := (Below.refl _ _).alloc (Nat.le_refl _) _
    have HN : Hid (Blk (w3.alloc (.cells #[.bool true, .bool false, .bool false, .bool false, .bool false, .bool false] 72)) w3.heap.size #[.bool true, .bool false, .bool false, .bool false, .bool false, .bool false] 72) := Blk.new _ _ _
    replace HC := Lib.hid (HC.out.later hby)
    replace HX := Lib.hid (HX.out.later hby)
    replace HB := Lib.hid (stepB HB.out hby)
    clear hby
    go_upto_region 2 with (fail)
    generalize w3.alloc (.cells #[.bool true, .bool false, .bool false, .bool false, .bool false, .bool false] 72) = W0 at *
    obtain ⟨pn, hpn⟩ : ∃ x, w3.heap.size = x := ⟨_, rfl⟩
    rw [hpn] at HN ⊢
    clear hpn
    have c0 := HC.out.cell 0
    have c1 := HC.out.cell 1
    have c2 := HC.out.cell 2
    have c3 := HC.out.cell 3
    have c4 := HC.out.cell 4
    have c5 := HC.out.cell 5
    have c6 := HC.out.cell 6
    have c7 := HC.out.cell 7
    have x0 := HX.out.cell 0
    have x1 := HX.out.cell 1
    have x2 := HX.out.cell 2
    have x3 := HX.out.cell 3
    have x4 := HX.out.cell 4
    have x5 := HX.out.cell 5
    have x6 := HX.out.cell 6
    have m0 := HN.out.cell 0
    have m1 := HN.out.cell 1
    have m2 := HN.out.cell 2
    have m3 := HN.out.cell 3
    have m4 := HN.out.cell 4
    have m5 := HN.out.cell 5
    simp only [List.getElem?_toArray, List.getElem?_cons_zero, List.getElem?_cons_succ] at c0 c1 c2 c3 c4 c5 c6 c7 x0 x1 x2 x3 x4 x5 x6 m0 m1 m2 m3 m4 m5
    go_wp2
    go_ret
    exact ⟨by first | rfl | (unfold fitV fitN; simp), HB.out⟩
  · have HK1 := Lib.hid hke2
    have HK2 := Lib.hid hbe2
    have HK3 := Lib.hid hva2
    clear hke2 hbk2 hbe2 hva2
    unfold nmV at HOF
    simp only at HOF
    show Calls _ _ _ _ fun e w' => e = .returned (fitV (false, false, false, false, false, true) (lenB (mayB c) ke 1 c.kl) (lenB (mayB c) en 1 c.kl) (lenB (mayB c) va 0 c.vl) li) ∧ _
    generalize lenB (mayB c) ke 1 c.kl = b1 at HK1 ⊢
    generalize lenB (mayB c) en 1 c.kl = b2
    generalize lenB (mayB c) va 0 c.vl = b3 at HK3 ⊢
    go_enter Tryd.func25, Tryd.ntmps25
    go_upto_region 1 with (fail)
    generalize (w.alloc (.cells #[.int .i64 c.ta, .int .i64 c.ac, .int .i64 c.ke, .int .i64 c.de, .int .i64 c.ts, .int .i64 c.kl, .int .i64 c.vl, .int .i64 c.fa] 52)).alloc (.cells #[.int .u8 (kn : Int), .int .i64 tx, .string ke, .string en, .string va, .int .i64 li, .int .u8 (eg : Int)] 24) = w2 at *
    have x0 := HX.out.cell 0
    simp only [List.getElem?_toArray, List.getElem?_cons_zero, List.getElem?_cons_succ] at x0
    go_wp2_with fail
    refine HOF.out.mono ?_
    rintro e w3 ⟨rfl, hb⟩
    replace HC := Lib.hid (HC.out.later hb)
    replace HX := Lib.hid (HX.out.later hb)
    replace HB := Lib.hid (stepB HB.out hb)
    clear hb x0 HOF
    have hby : Below w3.heap.size w3 (w3.alloc (.cells #[.bool false, .bool false, .bool false, .bool false, .bool false, .bool true] 72)) := (Below.refl _ _).alloc (Nat.le_refl _) _
    have HN : Hid (Blk (w3.alloc (.cells #[.bool false, .bool false, .bool false, .bool false, .bool false, .bool true] 72)) w3.heap.size #[.bool false, .bool false, .bool false, .bool false, .bool false, .bool true] 72) := Blk.new _ _ _
    replace HC := Lib.hid (HC.out.later hby)
    replace HX := Lib.hid (HX.out.later hby)
    replace HB := Lib.hid (stepB HB.out hby)
    clear hby
    go_upto_region 2 with (fail)
    generalize w3.alloc (.cells #[.bool false, .bool false, .bool false, .bool false, .bool false, .bool true] 72) = W0 at *
    obtain ⟨pn, hpn⟩ : ∃ x, w3.heap.size = x := ⟨_, rfl⟩
    rw [hpn] at HN ⊢
    clear hpn
    have c0 := HC.out.cell 0
    have c1 := HC.out.cell 1
    have c2 := HC.out.cell 2
    have c3 := HC.out.cell 3
    have c4 := HC.out.cell 4
    have c5 := HC.out.cell 5
    have c6 := HC.out.cell 6
    have c7 := HC.out.cell 7
    have x0 := HX.out.cell 0
    have x1 := HX.out.cell 1
    have x2 := HX.out.cell 2
    have x3 := HX.out.cell 3
    have x4 := HX.out.cell 4
    have x5 := HX.out.cell 5
    have x6 := HX.out.cell 6
    have m0 := HN.out.cell 0
    have m1 := HN.out.cell 1
    have m2 := HN.out.cell 2
    have m3 := HN.out.cell 3
    have m4 := HN.out.cell 4
    have m5 := HN.out.cell 5
    simp only [List.getElem?_toArray, List.getElem?_cons_zero, List.getElem?_cons_succ] at c0 c1 c2 c3 c4 c5 c6 c7 x0 x1 x2 x3 x4 x5 x6 m0 m1 m2 m3 m4 m5
    go_wp2
    go_ret
    exact ⟨by first | rfl | (unfold fitV fitN; simp), HB.out⟩
end Go.Proofs.YtkgdmdcnhbaidaaDoor
