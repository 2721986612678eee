/-
A number of 8 bytes is two of 4, the upper one first, and one of 4 is two of 2, for any bytes and any place; no condition.
-/
import Derived.Test.YtlkmaompkkdacaaE
namespace Go.Proofs.Ytlkmaompkkdacaa.bitsHalves
open Go.ChangeShapes Go.WideShapes Go.ChangeAt Go.RowKit
set_option linter.unusedVariables false

theorem own : ownKnob Try.prog.godebug = none := by kernel_rfl
theorem laidOut : laidOutB Try.prog = true := by kernel_rfl
theorem cells5 : Try.prog.cellsOf 5 = 1 := by kernel_rfl

theorem halves8 (bs : List Int) (a : Nat) : getI bs a 8 = getI bs a 4 * 4294967296 + getI bs (a + 4) 4 := by
  simp only [getI_succ, show getI bs a 0 = 0 from rfl, show getI bs (a + 4) 0 = 0 from rfl, Nat.add_assoc, Nat.reduceAdd]
  omega
theorem halves4 (bs : List Int) (a : Nat) : getI bs a 4 = getI bs a 2 * 65536 + getI bs (a + 2) 2 := by
  simp only [getI_succ, show getI bs a 0 = 0 from rfl, show getI bs (a + 2) 0 = 0 from rfl, Nat.add_assoc, Nat.reduceAdd]
  omega
theorem getAt_of {bs : List Int} {n a wd : Nat} (hl : bs.length = n) (h : a + wd ≤ n) : getAt bs a wd = getI bs a wd := by
  unfold getAt; rw [if_pos]
  · simp
  · unfold inB; rw [hl]; exact decide_eq_true ⟨by omega, by omega⟩
theorem inB_of {n a wd : Nat} (h : a + wd ≤ n) : inB n a wd = true := by unfold inB; exact decide_eq_true ⟨by omega, by omega⟩
theorem get64_in (A : Option Addr) (n c a : Nat) (bs : List Int) (w : World) (rd : RdB w A n bs) (ib : isBytes bs) (mx : n ≤ 5000) (ha : a + 8 ≤ n) (p q r : Int) (hp : p = getI bs a 2) (hq : q = getI bs (a + 2) 2) (hr : r = getI bs (a + 4) 4) :
    Calls Try.prog 12 #[.slice A n c, .int .i64 (a : Int)] w fun e w' => e = .returned (.tuple #[.int .u64 ((p * 65536 + q) * 4294967296 + r), .bool true]) ∧ w = w' := by
  refine (Get64_any _ _ _ _ _ bs rd ib (by omega)).mono ?_
  rintro e w2 ⟨rfl, rfl⟩
  refine ⟨?_, rfl⟩
  rw [show inB n a 8 = true from inB_of (wd := 8) ha, show getAt bs a 8 = getI bs a 8 from getAt_of (wd := 8) rd.1 ha, halves8, halves4, ← hp, ← hq, ← hr]
theorem get32_in (A : Option Addr) (n c a : Nat) (bs : List Int) (w : World) (rd : RdB w A n bs) (ib : isBytes bs) (mx : n ≤ 5000) (ha : a + 8 ≤ n) (p q : Int) (hp : p = getI bs a 2) (hq : q = getI bs (a + 2) 2) :
    Calls Try.prog 16 #[.slice A n c, .int .i64 (a : Int)] w fun e w' => e = .returned (.tuple #[.int .u32 (p * 65536 + q), .bool true]) ∧ w = w' := by
  refine (Get32_any _ _ _ _ _ bs rd ib (by omega)).mono ?_
  rintro e w2 ⟨rfl, rfl⟩
  refine ⟨?_, rfl⟩
  rw [show inB n a 4 = true from inB_of (wd := 4) (by omega), show getAt bs a 4 = getI bs a 4 from getAt_of (wd := 4) rd.1 (by omega), halves4, ← hp, ← hq]
theorem get32_low (A : Option Addr) (n c a : Nat) (bs : List Int) (w : World) (rd : RdB w A n bs) (ib : isBytes bs) (mx : n ≤ 5000) (ha : a + 8 ≤ n) (r : Int) (hr : r = getI bs (a + 4) 4) :
    Calls Try.prog 16 #[.slice A n c, .int .i64 ((a : Int) + 4)] w fun e w' => e = .returned (.tuple #[.int .u32 r, .bool true]) ∧ w = w' := by
  refine (Get32_any _ _ _ _ _ bs rd ib (by omega)).mono ?_
  rintro e w2 ⟨rfl, rfl⟩
  refine ⟨?_, rfl⟩
  rw [show ((a : Int) + 4) = ((a + 4 : Nat) : Int) from by omega, show inB n ((a + 4 : Nat) : Int) 4 = true from inB_of (wd := 4) (by omega), show getAt bs ((a + 4 : Nat) : Int) 4 = getI bs (a + 4) 4 from getAt_of (wd := 4) rd.1 (by omega), ← hr]
theorem get16_in (A : Option Addr) (n c a : Nat) (bs : List Int) (w : World) (rd : RdB w A n bs) (ib : isBytes bs) (mx : n ≤ 5000) (ha : a + 2 ≤ n) (p : Int) (hp : p = getI bs a 2) :
    Calls Try.prog 15 #[.slice A n c, .int .i64 (a : Int)] w fun e w' => e = .returned (.tuple #[.int .u16 p, .bool true]) ∧ w = w' := by
  refine (Get16_any _ _ _ _ _ bs rd ib (by omega)).mono ?_
  rintro e w2 ⟨rfl, rfl⟩
  refine ⟨?_, rfl⟩
  rw [show inB n a 2 = true from inB_of (wd := 2) (by omega), show getAt bs a 2 = getI bs a 2 from getAt_of (wd := 2) rd.1 (by omega), ← hp]
theorem get16_low (A : Option Addr) (n c a : Nat) (bs : List Int) (w : World) (rd : RdB w A n bs) (ib : isBytes bs) (mx : n ≤ 5000) (ha : a + 8 ≤ n) (q : Int) (hq : q = getI bs (a + 2) 2) :
    Calls Try.prog 15 #[.slice A n c, .int .i64 ((a : Int) + 2)] w fun e w' => e = .returned (.tuple #[.int .u16 q, .bool true]) ∧ w = w' := by
  rw [show ((a : Int) + 2) = ((a + 2 : Nat) : Int) from by omega]
  exact get16_in A n c (a + 2) bs w rd ib mx (by omega) q hq
theorem get64_out (A : Option Addr) (n c : Nat) (at_ : Int) (bs : List Int) (w : World) (rd : RdB w A n bs) (ib : isBytes bs) (mx : n ≤ 5000) (hi : inB n at_ 8 = false) :
    Calls Try.prog 12 #[.slice A n c, .int .i64 at_] w fun e w' => ∃ x, e = .returned (.tuple #[.int .u64 x, .bool false]) ∧ w = w' := by
  refine (Get64_any _ _ _ _ _ bs rd ib (by omega)).mono ?_
  rintro e w2 ⟨rfl, rfl⟩
  exact ⟨_, by rw [hi], rfl⟩
set_option maxHeartbeats 1000000 in
theorem walk_in (A : Option Addr) (n c a : Nat) (bs : List Int) (w : World) (rd : RdB w A n bs) (ib : isBytes bs) (mx : n ≤ 5000) (ha : a + 8 ≤ n) :
    Calls Try.prog 9 #[.slice A n c, .int .i64 (a : Int)] w fun e w' => e = .returned (.bool true) ∧ Below w.heap.size w w' := by
  obtain ⟨p, hp⟩ : ∃ p, p = getI bs a 2 := ⟨_, rfl⟩
  obtain ⟨q, hq⟩ : ∃ p, p = getI bs (a + 2) 2 := ⟨_, rfl⟩
  obtain ⟨r, hr⟩ : ∃ p, p = getI bs (a + 4) 4 := ⟨_, rfl⟩
  have b1 : 0 ≤ p ∧ p < 65536 := by rw [hp]; exact getI_bound ib a 2
  have b2 : 0 ≤ q ∧ q < 65536 := by rw [hq]; exact getI_bound ib (a + 2) 2
  have b3 : 0 ≤ r ∧ r < 4294967296 := by rw [hr]; exact getI_bound ib (a + 4) 4
  have Hp := Lib.hid hp
  have Hq := Lib.hid hq
  have Hr := Lib.hid hr
  have Rd := Lib.hid rd
  have Ib := Lib.hid ib
  clear hp hq hr rd ib
  go_enter Try.func9, Try.ntmps9
  go_wp2_with fail
  refine (awake_any _).mono ?_
  rintro e w1 ⟨rfl, hb⟩
  have rd1 := Lib.hid (Rd.out.below hb)
  go_wp2_with fail
  refine (get64_in _ _ _ _ bs _ rd1.out Ib.out mx ha p q r Hp.out Hq.out Hr.out).mono ?_
  rintro e w2 ⟨rfl, rfl⟩
  go_wp2_with fail
  refine (get32_in _ _ _ _ bs _ rd1.out Ib.out mx ha p q Hp.out Hq.out).mono ?_
  rintro e w2 ⟨rfl, rfl⟩
  go_wp2_with fail
  refine (get32_low _ _ _ _ bs _ rd1.out Ib.out mx ha r Hr.out).mono ?_
  rintro e w2 ⟨rfl, rfl⟩
  go_wp2_with fail
  refine (get16_in _ _ _ _ bs _ rd1.out Ib.out mx (by omega) p Hp.out).mono ?_
  rintro e w2 ⟨rfl, rfl⟩
  go_wp2_with fail
  refine (get16_low _ _ _ _ bs _ rd1.out Ib.out mx ha q Hq.out).mono ?_
  rintro e w2 ⟨rfl, rfl⟩
  go_wp2_with fail
  go_ret
  exact ⟨rfl, hb⟩
set_option maxHeartbeats 1000000 in
theorem walk (A : Option Addr) (n c : Nat) (bs : List Int) (a1 : Int) (w1 : (Lit.int .i64 a1).wf = true) (w : World) (rd : RdB w A n bs) (ib : isBytes bs) (mx : n ≤ maxLen) (nl : A = none → c = 0) (bl : ∀ ad, A = some ad → 0 < n → ad.block < w.heap.size) :
    Calls Try.prog 9 #[.slice A n c, .int .i64 a1] w fun e w' => e = .returned (.bool true) ∧ Below w.heap.size w w' := by
  unfold maxLen at mx
  clear nl bl w1
  by_cases c1 : 5000 < n
  · clear rd
    go_enter Try.func9, Try.ntmps9
    go_wp2_with (go_at_call 11; refine (awake_any _).mono ?_; rintro e w1 ⟨rfl, hb⟩)
    go_ret
    exact ⟨rfl, hb⟩
  · by_cases c2 : 1000000 < a1
    · clear rd
      go_enter Try.func9, Try.ntmps9
      go_wp2_with (go_at_call 11; refine (awake_any _).mono ?_; rintro e w1 ⟨rfl, hb⟩)
      go_ret
      exact ⟨rfl, hb⟩
    · by_cases hi : inB n a1 8 = true
      · obtain ⟨a, rfl⟩ := Int.eq_ofNat_of_zero_le (inB_yes hi).1
        exact walk_in A n c a bs w rd ib (by omega) (by have := inB_yes hi; omega)
      · have hi' : inB n a1 8 = false := by simpa using hi
        have Hi := Lib.hid hi'
        have Rd := Lib.hid rd
        have Ib := Lib.hid ib
        clear rd ib hi hi'
        go_enter Try.func9, Try.ntmps9
        go_wp2_with fail
        refine (awake_any _).mono ?_
        rintro e w1 ⟨rfl, hb⟩
        have rd1 := Lib.hid (Rd.out.below hb)
        go_wp2_with fail
        refine (get64_out _ _ _ _ bs _ rd1.out Ib.out (by omega) Hi.out).mono ?_
        rintro e w2 ⟨x, rfl, rfl⟩
        go_wp2_with fail
        go_ret
        exact ⟨rfl, hb⟩


set_option maxRecDepth 100000 in
theorem lifted (os : Os) (started : os.Started) (H : Type) (enc : TypeId × Value → H) :
    ReturnsInHanded {} Try.checked os 9 .any (Rows.bitsHalvesSpec.pre6 enc Try.prog Try.f9 Rows.bitsHalvesRow.domain false) (Rows.bitsHalvesSpec.post enc Try.prog Try.f9 false true false false) := by
  refine returnsInHanded_of_change_sized (C := Try.checked) own started (by kernel_rfl) Try.func9
    (ChangeSpec.witness6 (enc := enc) (C := Try.checked) false ⟨#[], #[.slice none 0 0, .int .i64 0], []⟩ 8 (by kernel_rfl) (by kernel_rfl) (by kernel_rfl) (by kernel_rfl)) ?_
  intro W base args ds gs before hval0 hW _ hsz _
  have hval : ∀ (j : Nat) t v, Try.f9.params[j]? = some t → args[j]? = some v → Value.okWide Try.prog W .any base t v := hval0
  have hW' := hW
  obtain ⟨p, q, hA0, hV, hbef, _, _⟩ := hW
  have hA : DataW.TrodAll enc Try.prog W 0 (fun _ => true) true Try.f9.params.toList args.toList ds p := hA0
  rw [Try.params9] at hA hval
  obtain ⟨v0, vs0, d0, ds0, p0, q0, hargs, rfl, rfl, h0, r0⟩ := trodAll_cons hA
  obtain ⟨v1, vs1, d1, ds1, p1, q1, rfl, rfl, rfl, h1, r1⟩ := trodAll_cons r0
  obtain ⟨rfl, rfl, rfl⟩ := trodAll_nil r1
  obtain rfl : args = #[v0, v1] := by cases args; simp_all
  obtain ⟨rfl, rfl⟩ := trodVars_none hV
  obtain ⟨A0, n0, c0, bs0, rfl, rd0, ib0, mx0, nl0, bl0⟩ := open_u8 Try.underlying24 Try.underlying5 cells5 (hval 0 24 v0 rfl rfl) h0
  obtain ⟨a1, rfl, _, _, w1⟩ := open_int Try.underlying3 (hval 1 3 v1 rfl rfl) h1
  refine (walk A0 n0 c0 bs0 a1 w1 W rd0 ib0 mx0 nl0 bl0).mono fun e W' ⟨he, hb⟩ => ?_
  subst he
  exact ⟨_, rfl, law_post laidOut (of_decide_eq_true (by kernel_rfl)) rfl Try.underlying4 rfl rfl hW' hb⟩

theorem over : Rows.bitsHalvesRow.holds Try.pinned (OpenSpec.ofChange Rows.bitsHalvesSpec) :=
  OpenClaim.holds_of_wide 9 Try.f9 rfl rfl rfl rfl rfl rfl rfl ⟨rfl, rfl, rfl, rfl, rfl⟩ rfl rfl rfl rfl rfl (by kernel_rfl) Try.func9 (by kernel_rfl)
    (of_decide_eq_true (by kernel_rfl)) (by unfold Func.isWrapper; first | (rw [if_pos (by decide +kernel)]; kernel_rfl) | (rw [if_neg (by decide +kernel)]; exact ⟨rfl, rfl⟩))
    (fun os started H enc _ => lifted os started H enc)

end Go.Proofs.Ytlkmaompkkdacaa.bitsHalves
namespace Go.Proofs.Ytlkmaompkkdacaa
theorem bitsHalves_holds : Rows.BitsHalvesSaid := bitsHalves.over
end Go.Proofs.Ytlkmaompkkdacaa
