/-
What is done to a copy is not seen, nor the other way about. For any steps ahead, any of a copy, any of the latches.
-/
import Derived.Test.YtgjponobiplipaaQ4
import Derived.Test.YtgjponobiplipaaRows
namespace Go.Proofs.Ytgjponobiplipaa.latchCopies
open Go.ChangeShapes Go.WideShapes Go.ChangeAt Go.RowKit Go.Maps
set_option linter.unusedVariables false
set_option linter.unusedSimpArgs false

theorem own : ownKnob Try.prog.godebug = none := by kernel_rfl
theorem laidOut : laidOutB Try.prog = true := by kernel_rfl

set_option maxRecDepth 100000 in
set_option maxHeartbeats 4000000 in
theorem w_long (A : Option Addr) (n c : Nat) (A2 : Option Addr) (m c2 : Nat) (A3 : Option Addr) (o c3 : Nat) (w : World) (hn : 300 < n + m + o) (h1 : n ≤ 140737488355328) (h2 : m ≤ 140737488355328) (h3 : o ≤ 140737488355328) : Calls Try.prog 8 #[.slice A n c, .slice A2 m c2, .slice A3 o c3] w (fun e w' => e = .returned (.bool true) ∧ Below w.heap.size w w') := by
  have d1 : decide ((300 : Int) < (n : Int) + (m : Int) + (o : Int)) = true := decide_eq_true (by omega)
  have q1 : IntKind.i64.wrap ((n : Int) + (m : Int)) = (n : Int) + (m : Int) := IntWalk.i64_in _ (by omega)
  have q2 : IntKind.i64.wrap ((n : Int) + (m : Int) + (o : Int)) = (n : Int) + (m : Int) + (o : Int) := IntWalk.i64_in _ (by omega)
  clear h1 h2 h3
  go_enter Try.func8, Try.ntmps8
  go_wp2_with fail
  refine (awake_any _).mono ?_
  rintro x w1 ⟨rfl, hb⟩
  have HB1 := Lib.hid hb
  clear hb
  go_wp2
  go_ret
  exact ⟨rfl, HB1.out⟩
set_option maxRecDepth 100000 in
set_option maxHeartbeats 16000000 in
theorem w_main (A : Option Addr) (n c : Nat) (A2 : Option Addr) (m c2 : Nat) (A3 : Option Addr) (o c3 : Nat) (S S2 S3 : List Stp) (w : World) (hS : Steps w.heap.size w A n S) (hS2 : Steps w.heap.size w A2 m S2) (hS3 : Steps w.heap.size w A3 o S3) (hnA : A = none → n = 0 ∧ c = 0) (hnA2 : A2 = none → m = 0 ∧ c2 = 0) (hnA3 : A3 = none → o = 0 ∧ c3 = 0) (hn : ¬ 300 < n + m + o) : Calls Try.prog 8 #[.slice A n c, .slice A2 m c2, .slice A3 o c3] w (fun e w' => e = .returned (.bool true) ∧ Below w.heap.size w w') := by
  have d1 : decide ((300 : Int) < ((n + m + o : Nat) : Int)) = false := decide_eq_false (by omega)
  have q1 : IntKind.i64.wrap ((n : Int) + (m : Int)) = ((n + m : Nat) : Int) := (IntWalk.i64_in _ (by omega)).trans (by omega)
  have q2 : IntKind.i64.wrap (((n + m : Nat) : Int) + (o : Int)) = ((n + m + o : Nat) : Int) := (IntWalk.i64_in _ (by omega)).trans (by omega)
  have HOB := Lib.hid (all_app hS.all hS3.all)
  have HOD := Lib.hid (all_app hS.all hS2.all)
  have HO3 := Lib.hid hS3.all
  have HSL : Hid (S.length = n) := hS.1
  have HS := Lib.hid hS
  have HS2 := Lib.hid hS2
  have HS3 := Lib.hid hS3
  clear hS hS2 hS3
  go_enter Try.func8, Try.ntmps8
  go_wp2_with fail
  refine (awake_any _).mono ?_
  rintro x w1 ⟨rfl, hb⟩
  have HB1 := Lib.hid hb
  clear hb q1 q2
  go_wp2_with fail
  refine (run_any A n c S w1 ((HS.out.below HB1.out).mono HB1.out.size) (by omega)).mono ?_
  rintro x w2 ⟨pa, ba, rfl, ho, hb⟩
  have P2 := Lib.hid (ho.base HB1.out.size)
  have HB2 := Lib.hid (stepB HB1.out hb)
  have hC0 : (runC S [] n).length ≤ n := by have := run_len S [] n; simpa using this
  generalize hc0 : runC S [] n = C0 at *
  have HC0 := Lib.hid hc0
  clear ho hb HB1 hc0
  go_wp2_with fail
  refine (copy_any w.heap.size pa ba C0 _ P2.out).mono ?_
  rintro x w3 ⟨pc, bc, rfl, ho, hb⟩
  have hlt2 := P2.out.blt
  have HNE1 : Hid (ba ≠ bc) := by have h1 := ho.own.1; show ba ≠ bc; omega
  have HNE2 : Hid (bc ≠ ba) := by have h1 := ho.own.1; show bc ≠ ba; omega
  have PC := Lib.hid (ho.base HB2.out.size)
  have PA := Lib.hid (P2.out.later hb)
  have HB := Lib.hid (stepB HB2.out hb)
  clear ho hb HB2 P2 hlt2
  go_wp2
  go_loopw [9] (fun i wr => ∃ (k : Nat) (X : List Ct), k ≤ m ∧ i = .int .i64 k ∧ X = runC S2 C0 k ∧ LaAt wr w.heap.size pc bc X ∧ LaAt wr w.heap.size pa ba C0 ∧ Below w.heap.size w wr) (fun i _ => m - (intOf i).toNat)
  case atStart => exact ⟨0, C0, Nat.zero_le _, rfl, rfl, PC.out, PA.out, HB.out⟩
  case round =>
    obtain ⟨k, X, hk, rfl, hX, ho, hr, hb⟩ := hrel
    obtain ⟨wA, rfl⟩ : ∃ wA : World, wA = wr := ⟨_, rfl⟩
    have hl : X.length ≤ C0.length + k := by rw [hX]; exact run_len S2 C0 k
    have O0 := Lib.hid ho
    have R0 := Lib.hid hr
    have HB0 := Lib.hid hb
    have HX := Lib.hid hX
    clear ho hr hb PC PA HB hX
    by_cases hlt : k < m
    · have d2 : decide ((k : Int) < (m : Int)) = true := decide_eq_true (by omega)
      have wk : IntKind.i64.wrap ((k : Int) + 1) = (k : Int) + 1 := IntWalk.i64_in _ (by omega)
      obtain ⟨g, off, rfl, hg, hcell⟩ := (HS2.out.below HB0.out).2 (by omega)
      have i1 := sindex g off m c2 k (k : Int) rfl hlt
      obtain ⟨hc, hok⟩ := hcell k hlt
      obtain ⟨⟨d, z, t⟩, hx⟩ : ∃ x, S2.getD k stp0 = x := ⟨_, rfl⟩
      rw [hx] at hc hok
      have HN : Hid (runC S2 C0 (k + 1) = doC X (d, z, t)) := by show doC (runC S2 C0 k) (S2.getD k stp0) = _; rw [← HX.out, hx]
      obtain ⟨x0, x1, x2, x3⟩ := hc
      have hz : rg z := hok.1
      have ht : (Lit.int .i64 t).wf = true := hok.2
      have HCC : Hid (∀ W, LaAt W w.heap.size pc bc X → Calls Try.prog (if d then 12 else 11) #[.pointer (some ⟨pc, 0, none⟩), .agg #[.int .u8 (z / 18446744073709551616), .int .u64 (z % 18446744073709551616)], .int .i64 t] W (LEnd w.heap.size pc bc (doC X (d, z, t)) (.bool (doB X (d, z, t))) W)) := fun W h => do_any w.heap.size pc bc X (d, z, t) W h hok (by omega)
      simp only at x0 x1 x2 x3
      generalize z / 18446744073709551616 = zk at *
      generalize z % 18446744073709551616 = zi at *
      generalize doC X (d, z, t) = C2 at *
      generalize doB X (d, z, t) = r at *
      clear hcell hx hg hok
      cases d with
      | true =>
        have HCD := Lib.hid (HCC.out)
        simp only [if_true, Bool.false_eq_true, if_false] at HCD
        go_upto_region 9 with (fail)
        go_still_tail 11, (by kernel_rfl)
        change wpList _ _ _ _ _ wA.drew
        have hb3 : Below wA.heap.size wA wA.drew := Below.drew (Below.refl _ _)
        have O1 := Lib.hid (O0.out.later hb3)
        have R1 := Lib.hid (R0.out.later hb3)
        have HB1 := Lib.hid (stepB HB0.out hb3)
        clear hb3 x0 x1 x2 x3 O0 R0 HB0 i1
        generalize wA.drew = w3 at *
        go_wp2_with fail
        refine (HCD.out _ O1.out).mono ?_
        rintro x w4 ⟨rfl, ho, hg⟩
        have HB4 := Lib.hid (O1.out.below HB1.out hg)
        have R4 := Lib.hid (R1.out.other O1.out hg HNE1.out)
        have O4 := Lib.hid ho
        clear ho hg O1 R1 HB1 HCC HCD HX
        go_wp2
        go_roundw
        case rel => exact ⟨k + 1, C2, by omega, by go_num, HN.out.symm, O4.out, R4.out, HB4.out⟩
        case measure => simp [intOf]; omega
      | false =>
        have HCD := Lib.hid (HCC.out)
        simp only [if_true, Bool.false_eq_true, if_false] at HCD
        go_upto_region 10 with (fail)
        go_still_tail 11, (by kernel_rfl)
        change wpList _ _ _ _ _ wA.drew
        have hb3 : Below wA.heap.size wA wA.drew := Below.drew (Below.refl _ _)
        have O1 := Lib.hid (O0.out.later hb3)
        have R1 := Lib.hid (R0.out.later hb3)
        have HB1 := Lib.hid (stepB HB0.out hb3)
        clear hb3 x0 x1 x2 x3 O0 R0 HB0 i1
        generalize wA.drew = w3 at *
        go_wp2_with fail
        refine (HCD.out _ O1.out).mono ?_
        rintro x w4 ⟨rfl, ho, hg⟩
        have HB4 := Lib.hid (O1.out.below HB1.out hg)
        have R4 := Lib.hid (R1.out.other O1.out hg HNE1.out)
        have O4 := Lib.hid ho
        clear ho hg O1 R1 HB1 HCC HCD HX
        go_wp2
        go_roundw
        case rel => exact ⟨k + 1, C2, by omega, by go_num, HN.out.symm, O4.out, R4.out, HB4.out⟩
        case measure => simp [intOf]; omega
    · obtain rfl : m = k := by omega
      have d2 : decide ((m : Int) < (m : Int)) = false := decide_eq_false (by omega)
      have PC : Hid (LaAt wA w.heap.size pc bc (runC S2 C0 m)) := by rw [← HX.out]; exact O0.out
      have PA := R0
      have HB := HB0
      have hl2 : (runC S2 C0 m).length ≤ C0.length + m := run_len S2 C0 m
      clear O0 R0 HB0 HX hl
      generalize hca : runC S2 C0 m = CC at *
      have HCC := Lib.hid hca
      clear hca
      go_wp2
      go_loopw [10] (fun i wr => ∃ (k : Nat) (X : List Ct), k ≤ o ∧ i = .int .i64 k ∧ X = runC S3 C0 k ∧ LaAt wr w.heap.size pa ba X ∧ LaAt wr w.heap.size pc bc CC ∧ Below w.heap.size w wr) (fun i _ => o - (intOf i).toNat)
      case atStart => exact ⟨0, C0, Nat.zero_le _, rfl, rfl, PA.out, PC.out, HB.out⟩
      case round =>
        obtain ⟨k, X, hk, rfl, hX, ho, hr, hb⟩ := hrel
        obtain ⟨wA, rfl⟩ : ∃ wA : World, wA = wr := ⟨_, rfl⟩
        have hl : X.length ≤ C0.length + k := by rw [hX]; exact run_len S3 C0 k
        have O0 := Lib.hid ho
        have R0 := Lib.hid hr
        have HB0 := Lib.hid hb
        have HX := Lib.hid hX
        clear ho hr hb PA PC HB hX
        by_cases hlt : k < o
        · have d2 : decide ((k : Int) < (o : Int)) = true := decide_eq_true (by omega)
          have wk : IntKind.i64.wrap ((k : Int) + 1) = (k : Int) + 1 := IntWalk.i64_in _ (by omega)
          obtain ⟨g, off, rfl, hg, hcell⟩ := (HS3.out.below HB0.out).2 (by omega)
          have i1 := sindex g off o c3 k (k : Int) rfl hlt
          obtain ⟨hc, hok⟩ := hcell k hlt
          obtain ⟨⟨d, z, t⟩, hx⟩ : ∃ x, S3.getD k stp0 = x := ⟨_, rfl⟩
          rw [hx] at hc hok
          have HN : Hid (runC S3 C0 (k + 1) = doC X (d, z, t)) := by show doC (runC S3 C0 k) (S3.getD k stp0) = _; rw [← HX.out, hx]
          obtain ⟨x0, x1, x2, x3⟩ := hc
          have hz : rg z := hok.1
          have ht : (Lit.int .i64 t).wf = true := hok.2
          have HCC : Hid (∀ W, LaAt W w.heap.size pa ba X → Calls Try.prog (if d then 12 else 11) #[.pointer (some ⟨pa, 0, none⟩), .agg #[.int .u8 (z / 18446744073709551616), .int .u64 (z % 18446744073709551616)], .int .i64 t] W (LEnd w.heap.size pa ba (doC X (d, z, t)) (.bool (doB X (d, z, t))) W)) := fun W h => do_any w.heap.size pa ba X (d, z, t) W h hok (by omega)
          simp only at x0 x1 x2 x3
          generalize z / 18446744073709551616 = zk at *
          generalize z % 18446744073709551616 = zi at *
          generalize doC X (d, z, t) = C2 at *
          generalize doB X (d, z, t) = r at *
          clear hcell hx hg hok
          cases d with
          | true =>
            have HCD := Lib.hid (HCC.out)
            simp only [if_true, Bool.false_eq_true, if_false] at HCD
            go_upto_region 15 with (fail)
            go_still_tail 11, (by kernel_rfl)
            change wpList _ _ _ _ _ wA.drew
            have hb3 : Below wA.heap.size wA wA.drew := Below.drew (Below.refl _ _)
            have O1 := Lib.hid (O0.out.later hb3)
            have R1 := Lib.hid (R0.out.later hb3)
            have HB1 := Lib.hid (stepB HB0.out hb3)
            clear hb3 x0 x1 x2 x3 O0 R0 HB0 i1
            generalize wA.drew = w3 at *
            go_wp2_with fail
            refine (HCD.out _ O1.out).mono ?_
            rintro x w4 ⟨rfl, ho, hg⟩
            have HB4 := Lib.hid (O1.out.below HB1.out hg)
            have R4 := Lib.hid (R1.out.other O1.out hg HNE2.out)
            have O4 := Lib.hid ho
            clear ho hg O1 R1 HB1 HCC HCD HX
            go_wp2
            go_roundw
            case rel => exact ⟨k + 1, C2, by omega, by go_num, HN.out.symm, O4.out, R4.out, HB4.out⟩
            case measure => simp [intOf]; omega
          | false =>
            have HCD := Lib.hid (HCC.out)
            simp only [if_true, Bool.false_eq_true, if_false] at HCD
            go_upto_region 16 with (fail)
            go_still_tail 11, (by kernel_rfl)
            change wpList _ _ _ _ _ wA.drew
            have hb3 : Below wA.heap.size wA wA.drew := Below.drew (Below.refl _ _)
            have O1 := Lib.hid (O0.out.later hb3)
            have R1 := Lib.hid (R0.out.later hb3)
            have HB1 := Lib.hid (stepB HB0.out hb3)
            clear hb3 x0 x1 x2 x3 O0 R0 HB0 i1
            generalize wA.drew = w3 at *
            go_wp2_with fail
            refine (HCD.out _ O1.out).mono ?_
            rintro x w4 ⟨rfl, ho, hg⟩
            have HB4 := Lib.hid (O1.out.below HB1.out hg)
            have R4 := Lib.hid (R1.out.other O1.out hg HNE2.out)
            have O4 := Lib.hid ho
            clear ho hg O1 R1 HB1 HCC HCD HX
            go_wp2
            go_roundw
            case rel => exact ⟨k + 1, C2, by omega, by go_num, HN.out.symm, O4.out, R4.out, HB4.out⟩
            case measure => simp [intOf]; omega
        · obtain rfl : o = k := by omega
          have d2 : decide ((o : Int) < (o : Int)) = false := decide_eq_false (by omega)
          have PA : Hid (LaAt wA w.heap.size pa ba (runC S3 C0 o)) := by rw [← HX.out]; exact O0.out
          have PC := R0
          have HB := HB0
          have hl3 : (runC S3 C0 o).length ≤ C0.length + o := run_len S3 C0 o
          clear O0 R0 HB0 HX hl
          generalize hca : runC S3 C0 o = CA at *
          have HCA := Lib.hid hca
          clear hca
          have HQB : Hid (runC (S ++ S3) [] (n + o) = CA) := by show _ = _; rw [← HCA.out, ← HC0.out, ← HSL.out]; exact run_right S S3 [] o
          have HQD : Hid (runC (S ++ S2) [] (n + m) = CC) := by show _ = _; rw [← HCC.out, ← HC0.out, ← HSL.out]; exact run_right S S2 [] m
          clear HCA HCC HC0
          have hbf : Below wA.heap.size wA (wA.alloc (.cells #[] 45)) := (Below.refl _ _).alloc (Nat.le_refl _) _
          have HRW : Hid (SOwn (wA.alloc (.cells #[] 45)) w.heap.size (.slice (some ⟨wA.heap.size, 0, none⟩) 0 0) 0 []) := SOwn.fresh wA HB.out.size rfl
          replace PA := Lib.hid (PA.out.later hbf)
          replace PC := Lib.hid (PC.out.later hbf)
          replace HB := Lib.hid (stepB HB.out hbf)
          clear hbf
          go_wp2_with (at_builtin; refine append_st rfl (.tmp 111) (.tmp 112) rfl w.heap.size _ 0 [] rfl HRW.out A n c S rfl ((HS.out.below HB.out).mono HB.out.size) hnA (by omega) HB.out.size ?_; intro v6 w6 ho6)
          intro hg6
          replace PA := Lib.hid (PA.out.row HRW.out hg6)
          replace PC := Lib.hid (PC.out.row HRW.out hg6)
          replace HB : Hid (Below w.heap.size w w6) := HB.out.grown hg6 HB.out.size (fun j e => (HRW.out.lt j e).1)
          replace HRW := Lib.hid ho6
          obtain ⟨A6, c6, rfl, _, hn6⟩ := ho6.sl
          clear ho6 hg6
          have e6 : 0 + n = n := Nat.zero_add n
          rw [e6, List.nil_append] at HRW
          rw [e6]
          go_wp2_with (at_builtin; refine append_st rfl (.tmp 113) (.tmp 114) rfl w.heap.size _ n S rfl HRW.out A3 o c3 S3 rfl ((HS3.out.below HB.out).mono HB.out.size) hnA3 (by omega) HB.out.size ?_; intro v7 w7 ho7)
          intro hg7
          replace PA := Lib.hid (PA.out.row HRW.out hg7)
          replace PC := Lib.hid (PC.out.row HRW.out hg7)
          replace HB : Hid (Below w.heap.size w w7) := HB.out.grown hg7 HB.out.size (fun j e => (HRW.out.lt j e).1)
          replace HRW := Lib.hid ho7
          obtain ⟨A7, c7, rfl, _, hn7⟩ := ho7.sl
          clear ho7 hg7
          go_wp2_with fail
          refine (run_any A7 (n + o) c7 (S ++ S3) w7 (HRW.out.steps HOB.out) (by omega)).mono ?_
          rintro x w8 ⟨pb, bb, rfl, ho, hb⟩
          rw [HQB.out] at ho
          have PB := Lib.hid (ho.base HB.out.size)
          replace PA := Lib.hid (PA.out.later hb)
          replace PC := Lib.hid (PC.out.later hb)
          replace HB := Lib.hid (stepB HB.out hb)
          clear ho hb HRW
          have hbf : Below w8.heap.size w8 (w8.alloc (.cells #[] 45)) := (Below.refl _ _).alloc (Nat.le_refl _) _
          have HRW : Hid (SOwn (w8.alloc (.cells #[] 45)) w.heap.size (.slice (some ⟨w8.heap.size, 0, none⟩) 0 0) 0 []) := SOwn.fresh w8 HB.out.size rfl
          replace PA := Lib.hid (PA.out.later hbf)
          replace PC := Lib.hid (PC.out.later hbf)
          replace PB := Lib.hid (PB.out.later hbf)
          replace HB := Lib.hid (stepB HB.out hbf)
          clear hbf
          go_wp2_with (at_builtin; refine append_st rfl (.tmp 117) (.tmp 118) rfl w.heap.size _ 0 [] rfl HRW.out A n c S rfl ((HS.out.below HB.out).mono HB.out.size) hnA (by omega) HB.out.size ?_; intro v9 w9 ho9)
          intro hg9
          replace PA := Lib.hid (PA.out.row HRW.out hg9)
          replace PC := Lib.hid (PC.out.row HRW.out hg9)
          replace PB := Lib.hid (PB.out.row HRW.out hg9)
          replace HB : Hid (Below w.heap.size w w9) := HB.out.grown hg9 HB.out.size (fun j e => (HRW.out.lt j e).1)
          replace HRW := Lib.hid ho9
          obtain ⟨A9, c9, rfl, _, hn9⟩ := ho9.sl
          clear ho9 hg9
          rw [e6, List.nil_append] at HRW
          rw [e6]
          go_wp2_with (at_builtin; refine append_st rfl (.tmp 119) (.tmp 120) rfl w.heap.size _ n S rfl HRW.out A2 m c2 S2 rfl ((HS2.out.below HB.out).mono HB.out.size) hnA2 (by omega) HB.out.size ?_; intro v10 w10 ho10)
          intro hg10
          replace PA := Lib.hid (PA.out.row HRW.out hg10)
          replace PC := Lib.hid (PC.out.row HRW.out hg10)
          replace PB := Lib.hid (PB.out.row HRW.out hg10)
          replace HB : Hid (Below w.heap.size w w10) := HB.out.grown hg10 HB.out.size (fun j e => (HRW.out.lt j e).1)
          replace HRW := Lib.hid ho10
          obtain ⟨A10, c10, rfl, _, hn10⟩ := ho10.sl
          clear ho10 hg10
          go_wp2_with fail
          refine (run_any A10 (n + m) c10 (S ++ S2) w10 (HRW.out.steps HOD.out) (by omega)).mono ?_
          rintro x w11 ⟨pd, bd, rfl, ho, hb⟩
          rw [HQD.out] at ho
          have PD := Lib.hid (ho.base HB.out.size)
          replace PA := Lib.hid (PA.out.later hb)
          replace PC := Lib.hid (PC.out.later hb)
          replace PB := Lib.hid (PB.out.later hb)
          replace HB := Lib.hid (stepB HB.out hb)
          clear ho hb HRW
          have hbf : Below w11.heap.size w11 (w11.alloc (.cells #[] 45)) := (Below.refl _ _).alloc (Nat.le_refl _) _
          have HRW : Hid (SOwn (w11.alloc (.cells #[] 45)) w.heap.size (.slice (some ⟨w11.heap.size, 0, none⟩) 0 0) 0 []) := SOwn.fresh w11 HB.out.size rfl
          replace PA := Lib.hid (PA.out.later hbf)
          replace PC := Lib.hid (PC.out.later hbf)
          replace PB := Lib.hid (PB.out.later hbf)
          replace PD := Lib.hid (PD.out.later hbf)
          replace HB := Lib.hid (stepB HB.out hbf)
          clear hbf
          go_wp2_with (at_builtin; refine append_st rfl (.tmp 123) (.tmp 124) rfl w.heap.size _ 0 [] rfl HRW.out A n c S rfl ((HS.out.below HB.out).mono HB.out.size) hnA (by omega) HB.out.size ?_; intro v13 w13 ho13)
          intro hg13
          replace PA := Lib.hid (PA.out.row HRW.out hg13)
          replace PC := Lib.hid (PC.out.row HRW.out hg13)
          replace PB := Lib.hid (PB.out.row HRW.out hg13)
          replace PD := Lib.hid (PD.out.row HRW.out hg13)
          replace HB : Hid (Below w.heap.size w w13) := HB.out.grown hg13 HB.out.size (fun j e => (HRW.out.lt j e).1)
          replace HRW := Lib.hid ho13
          obtain ⟨A13, c13, rfl, _, hn13⟩ := ho13.sl
          clear ho13 hg13
          rw [e6, List.nil_append] at HRW
          rw [e6]
          go_wp2_with (at_builtin; refine append_st rfl (.tmp 125) (.tmp 126) rfl w.heap.size _ n S rfl HRW.out A2 m c2 S2 rfl ((HS2.out.below HB.out).mono HB.out.size) hnA2 (by omega) HB.out.size ?_; intro v14 w14 ho14)
          intro hg14
          replace PA := Lib.hid (PA.out.row HRW.out hg14)
          replace PC := Lib.hid (PC.out.row HRW.out hg14)
          replace PB := Lib.hid (PB.out.row HRW.out hg14)
          replace PD := Lib.hid (PD.out.row HRW.out hg14)
          replace HB : Hid (Below w.heap.size w w14) := HB.out.grown hg14 HB.out.size (fun j e => (HRW.out.lt j e).1)
          replace HRW := Lib.hid ho14
          obtain ⟨A14, c14, rfl, _, hn14⟩ := ho14.sl
          clear ho14 hg14
          go_wp2_with (at_builtin; refine append_st rfl (.tmp 127) (.tmp 128) rfl w.heap.size _ (n + m) (S ++ S2) rfl HRW.out A3 o c3 S3 rfl ((HS3.out.below HB.out).mono HB.out.size) hnA3 (by omega) HB.out.size ?_; intro v15 w15 ho15)
          intro hg15
          replace PA := Lib.hid (PA.out.row HRW.out hg15)
          replace PC := Lib.hid (PC.out.row HRW.out hg15)
          replace PB := Lib.hid (PB.out.row HRW.out hg15)
          replace PD := Lib.hid (PD.out.row HRW.out hg15)
          replace HB : Hid (Below w.heap.size w w15) := HB.out.grown hg15 HB.out.size (fun j e => (HRW.out.lt j e).1)
          replace HRW := Lib.hid ho15
          obtain ⟨A15, c15, rfl, _, hn15⟩ := ho15.sl
          clear ho15 hg15
          have HALL := Lib.hid (HRW.out.steps (all_app HOD.out HO3.out))
          clear HRW HQB HQD
          go_wp2
          go_loopw [14] (fun i wr => ∃ k : Nat, k ≤ n + m + o ∧ i = .int .i64 k ∧ Below w15.heap.size w15 wr) (fun i _ => n + m + o - (intOf i).toNat)
          case atStart => exact ⟨0, Nat.zero_le _, rfl, Below.refl _ _⟩
          case round =>
            obtain ⟨k, hk, rfl, hb⟩ := hrel
            obtain ⟨wA, rfl⟩ : ∃ wA : World, wA = wr := ⟨_, rfl⟩
            replace PA := Lib.hid (PA.out.later hb)
            replace PC := Lib.hid (PC.out.later hb)
            replace PB := Lib.hid (PB.out.later hb)
            replace PD := Lib.hid (PD.out.later hb)
            have HW := Lib.hid (stepB HB.out hb)
            have HQ := Lib.hid hb
            clear hb
            by_cases hlt : k < n + m + o
            · have d2 : decide ((k : Int) < ((n + m + o : Nat) : Int)) = true := decide_eq_true (by omega)
              have wk : IntKind.i64.wrap ((k : Int) + 1) = (k : Int) + 1 := IntWalk.i64_in _ (by omega)
              obtain ⟨g, off, rfl, hg, hcell⟩ := HALL.out.2 (by omega)
              have i1 := sindex g off (n + m + o) c15 k (k : Int) rfl hlt
              obtain ⟨hc, hok⟩ := hcell k hlt
              obtain ⟨⟨dd, y, ty⟩, hx⟩ : ∃ x, ((S ++ S2) ++ S3).getD k stp0 = x := ⟨_, rfl⟩
              rw [hx] at hc hok
              have hy : rg y := hok.1
              have KC : Hid (∀ W, Below w15.heap.size w15 W → W.cell? ⟨g, off + k * 4 + 1, none⟩ = some (.int .u8 (y / 18446744073709551616)) ∧ W.cell? ⟨g, off + k * 4 + 2, none⟩ = some (.int .u64 (y % 18446744073709551616))) := fun W hb => ⟨(hb.cell (p := ⟨g, off + k * 4 + 1, none⟩) hg).trans hc.c1, (hb.cell (p := ⟨g, off + k * 4 + 2, none⟩) hg).trans hc.c2⟩
              obtain ⟨x1, x2⟩ := KC.out _ HQ.out
              have HA : Hid (∀ W, LaAt W w.heap.size pa ba CA → Calls Try.prog 9 #[.pointer (some ⟨pa, 0, none⟩), .agg #[.int .u8 (y / 18446744073709551616), .int .u64 (y % 18446744073709551616)]] W fun x w' => x = .returned (.tuple #[.int .i64 (ofC CA y), .bool (isC CA y)]) ∧ Below W.heap.size W w') := fun W h => owner_any w.heap.size pa ba _ y W h hy
              have HB : Hid (∀ W, LaAt W w.heap.size pb bb CA → Calls Try.prog 9 #[.pointer (some ⟨pb, 0, none⟩), .agg #[.int .u8 (y / 18446744073709551616), .int .u64 (y % 18446744073709551616)]] W fun x w' => x = .returned (.tuple #[.int .i64 (ofC CA y), .bool (isC CA y)]) ∧ Below W.heap.size W w') := fun W h => owner_any w.heap.size pb bb _ y W h hy
              have HC : Hid (∀ W, LaAt W w.heap.size pc bc CC → Calls Try.prog 9 #[.pointer (some ⟨pc, 0, none⟩), .agg #[.int .u8 (y / 18446744073709551616), .int .u64 (y % 18446744073709551616)]] W fun x w' => x = .returned (.tuple #[.int .i64 (ofC CC y), .bool (isC CC y)]) ∧ Below W.heap.size W w') := fun W h => owner_any w.heap.size pc bc _ y W h hy
              have HD : Hid (∀ W, LaAt W w.heap.size pd bd CC → Calls Try.prog 9 #[.pointer (some ⟨pd, 0, none⟩), .agg #[.int .u8 (y / 18446744073709551616), .int .u64 (y % 18446744073709551616)]] W fun x w' => x = .returned (.tuple #[.int .i64 (ofC CC y), .bool (isC CC y)]) ∧ Below W.heap.size W w') := fun W h => owner_any w.heap.size pd bd _ y W h hy
              have e1 : (ofC CA y != ofC CA y) = false := by simp
              have e2 : (isC CA y != isC CA y) = false := by simp
              have e3 : (ofC CC y != ofC CC y) = false := by simp
              have e4 : (isC CC y != isC CC y) = false := by simp
              generalize ofC CA y = oa at *
              generalize isC CA y = ia at *
              generalize ofC CC y = oc at *
              generalize isC CC y = ic at *
              generalize y / 18446744073709551616 = yk at *
              generalize y % 18446744073709551616 = yi at *
              clear hcell hx hok hc hg
              go_wp2_with fail
              refine (HA.out _ PA.out).mono ?_
              rintro x wq0 ⟨rfl, hb⟩
              replace PA := Lib.hid (PA.out.later hb)
              replace PC := Lib.hid (PC.out.later hb)
              replace PB := Lib.hid (PB.out.later hb)
              replace PD := Lib.hid (PD.out.later hb)
              replace HQ := Lib.hid (stepB HQ.out hb)
              clear x1 x2
              obtain ⟨x1, x2⟩ := KC.out _ HQ.out
              clear hb HA
              go_wp2_with fail
              refine (HB.out _ PB.out).mono ?_
              rintro x wq1 ⟨rfl, hb⟩
              replace PA := Lib.hid (PA.out.later hb)
              replace PC := Lib.hid (PC.out.later hb)
              replace PB := Lib.hid (PB.out.later hb)
              replace PD := Lib.hid (PD.out.later hb)
              replace HQ := Lib.hid (stepB HQ.out hb)
              clear x1 x2
              obtain ⟨x1, x2⟩ := KC.out _ HQ.out
              clear hb HB
              go_wp2_with fail
              refine (HC.out _ PC.out).mono ?_
              rintro x wq2 ⟨rfl, hb⟩
              replace PA := Lib.hid (PA.out.later hb)
              replace PC := Lib.hid (PC.out.later hb)
              replace PB := Lib.hid (PB.out.later hb)
              replace PD := Lib.hid (PD.out.later hb)
              replace HQ := Lib.hid (stepB HQ.out hb)
              clear x1 x2
              obtain ⟨x1, x2⟩ := KC.out _ HQ.out
              clear hb HC
              go_wp2_with fail
              refine (HD.out _ PD.out).mono ?_
              rintro x wq3 ⟨rfl, hb⟩
              replace PA := Lib.hid (PA.out.later hb)
              replace PC := Lib.hid (PC.out.later hb)
              replace PB := Lib.hid (PB.out.later hb)
              replace PD := Lib.hid (PD.out.later hb)
              replace HQ := Lib.hid (stepB HQ.out hb)
              clear x1 x2
              obtain ⟨x1, x2⟩ := KC.out _ HQ.out
              clear hb HD
              clear x1 x2 i1
              go_wp2
              go_roundw
              case rel => exact ⟨k + 1, by omega, by go_num, HQ.out⟩
              case measure => simp [intOf]; omega
            · obtain rfl : k = n + m + o := by omega
              have d2 : decide (((n + m + o : Nat) : Int) < ((n + m + o : Nat) : Int)) = false := decide_eq_false (by omega)
              have da : ((CA.length : Int) == (CA.length : Int)) = true := by simp
              have dc : ((CC.length : Int) == (CC.length : Int)) = true := by simp
              go_wp2_with fail
              refine (all_any w.heap.size pa ba CA _ PA.out).mono ?_
              rintro x _ ⟨rfl, rfl⟩
              go_wp2_with fail
              refine (all_any w.heap.size pb bb CA _ PB.out).mono ?_
              rintro x _ ⟨rfl, rfl⟩
              go_wp2_with fail
              refine (all_any w.heap.size pc bc CC _ PC.out).mono ?_
              rintro x _ ⟨rfl, rfl⟩
              go_wp2_with fail
              refine (all_any w.heap.size pd bd CC _ PD.out).mono ?_
              rintro x _ ⟨rfl, rfl⟩
              go_wp2
              go_ret
              exact ⟨rfl, HW.out⟩
theorem walk (A : Option Addr) (n c : Nat) (A2 : Option Addr) (m c2 : Nat) (A3 : Option Addr) (o c3 : Nat) (S S2 S3 : List Stp) (w : World) (hS : Steps w.heap.size w A n S) (hS2 : Steps w.heap.size w A2 m S2) (hS3 : Steps w.heap.size w A3 o S3) (hnA : A = none → n = 0 ∧ c = 0) (hnA2 : A2 = none → m = 0 ∧ c2 = 0) (hnA3 : A3 = none → o = 0 ∧ c3 = 0) (h1 : n ≤ 140737488355328) (h2 : m ≤ 140737488355328) (h3 : o ≤ 140737488355328) : Calls Try.prog 8 #[.slice A n c, .slice A2 m c2, .slice A3 o c3] w (fun e w' => e = .returned (.bool true) ∧ Below w.heap.size w w') := by
  by_cases hn : 300 < n + m + o
  · exact w_long A n c A2 m c2 A3 o c3 w hn h1 h2 h3
  · exact w_main A n c A2 m c2 A3 o c3 S S2 S3 w hS hS2 hS3 hnA hnA2 hnA3 hn


set_option maxRecDepth 100000 in
theorem lifted (os : Os) (started : os.Started) (H : Type) (enc : TypeId × Value → H) :
    ReturnsInHanded {} Try.checked os 8 .any (Rows.latchCopiesSpec.pre6 enc Try.prog Try.f8 Rows.latchCopiesRow.domain false) (Rows.latchCopiesSpec.post enc Try.prog Try.f8 false true false false) := by
  refine returnsInHanded_of_change_sized (C := Try.checked) own started (by kernel_rfl) Try.func8
    (ChangeSpec.witness6 (enc := enc) (C := Try.checked) false ⟨#[], #[.slice none 0 0, .slice none 0 0, .slice none 0 0], []⟩ 8 (by kernel_rfl) (by kernel_rfl) (by kernel_rfl) (by kernel_rfl)) ?_
  intro W base args ds gs before hval0 hW _ hsz _
  have hval : ∀ (j : Nat) t v, Try.f8.params[j]? = some t → args[j]? = some v → Value.okWide Try.prog W .any base t v := hval0
  have hW' := hW
  obtain ⟨p, q, hA0, hV, hbef, _, _⟩ := hW
  have hA : DataW.TrodAll enc Try.prog W 0 (fun _ => true) true Try.f8.params.toList args.toList ds p := hA0
  rw [Try.params8] at hA hval
  obtain ⟨v0, vs0, d0, ds0, p0, q0, hargs, rfl, rfl, h0, r0⟩ := trodAll_cons hA
  obtain ⟨v1, vs1, d1, ds1, p1, q1, rfl, rfl, rfl, h1, r1⟩ := trodAll_cons r0
  obtain ⟨v2, vs2, d2, ds2, p2, q2, rfl, rfl, rfl, h2, r2⟩ := trodAll_cons r1
  obtain ⟨rfl, rfl, rfl⟩ := trodAll_nil r2
  obtain rfl : args = #[v0, v1, v2] := by cases args; simp_all
  obtain ⟨rfl, rfl⟩ := trodVars_none hV
  obtain ⟨A0, n0, c0, S0, rfl, st0, mx0, _, nl0⟩ := open_steps (hval 0 38 v0 rfl rfl) h0
  have wt0 := len_weight h0 (weight_at (ts := Try.f8.params.toList) hsz (j := 0) (by rw [Try.params8]; rfl) rfl)
  obtain ⟨A1, n1, c1, S1, rfl, st1, mx1, _, nl1⟩ := open_steps (hval 1 38 v1 rfl rfl) h1
  have wt1 := len_weight h1 (weight_at (ts := Try.f8.params.toList) hsz (j := 1) (by rw [Try.params8]; rfl) rfl)
  obtain ⟨A2, n2, c2, S2, rfl, st2, mx2, _, nl2⟩ := open_steps (hval 2 38 v2 rfl rfl) h2
  have wt2 := len_weight h2 (weight_at (ts := Try.f8.params.toList) hsz (j := 2) (by rw [Try.params8]; rfl) rfl)
  refine (walk A0 n0 c0 A1 n1 c1 A2 n2 c2 S0 S1 S2 W st0 st1 st2 nl0 nl1 nl2 wt0 wt1 wt2).mono fun e W' ⟨he, hb⟩ => ?_
  subst he
  exact ⟨_, rfl, law_post laidOut (of_decide_eq_true (by kernel_rfl)) rfl Try.underlying4 rfl rfl hW' hb⟩

theorem over : Rows.latchCopiesRow.holds Try.pinned (OpenSpec.ofChange Rows.latchCopiesSpec) :=
  OpenClaim.holds_of_wide 8 Try.f8 rfl rfl rfl rfl rfl rfl rfl ⟨rfl, rfl, rfl, rfl, rfl⟩ rfl rfl rfl rfl rfl (by kernel_rfl) Try.func8 (by kernel_rfl)
    (of_decide_eq_true (by kernel_rfl)) (by unfold Func.isWrapper; first | (rw [if_pos (by decide +kernel)]; kernel_rfl) | (rw [if_neg (by decide +kernel)]; exact ⟨rfl, rfl⟩))
    (fun os started H enc _ => lifted os started H enc)

end Go.Proofs.Ytgjponobiplipaa.latchCopies
namespace Go.Proofs.Ytgjponobiplipaa
theorem latchCopies_holds : Rows.LatchCopiesSaid := latchCopies.over
end Go.Proofs.Ytgjponobiplipaa
