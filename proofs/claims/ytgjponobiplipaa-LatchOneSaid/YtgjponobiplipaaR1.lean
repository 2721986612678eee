/-
A latch has one holder at most: the last one that had it by Try, and did not drop it since. For any steps, any latch.
-/
import Derived.Test.YtgjponobiplipaaQ
import Derived.Test.YtgjponobiplipaaRows
import Derived.Deep.LoopGhost
namespace Go.Proofs.Ytgjponobiplipaa.latchOne
open Go.ChangeShapes Go.WideShapes Go.ChangeAt Go.RowKit Go.Maps
set_option linter.unusedVariables false
set_option linter.unusedSimpArgs false

theorem own : ownKnob Try.prog.godebug = none := by kernel_rfl
theorem laidOut : laidOutB Try.prog = true := by kernel_rfl

set_option maxRecDepth 100000 in
set_option maxHeartbeats 4000000 in
theorem w_long (A : Option Addr) (n c : Nat) (z : Int) (w : World) (hn : 300 < n) : Calls Try.prog 5 #[.slice A n c, nmv z] w (fun e w' => e = .returned (.bool true) ∧ Below w.heap.size w w') := by
  have d1 : decide ((300 : Int) < (n : Int)) = true := decide_eq_true (by omega)
  have HB0 : Hid (Below w.heap.size w (w.alloc (.cells #[.int .u8 (z / 18446744073709551616), .int .u64 (z % 18446744073709551616)] 27))) := (Below.refl _ _).alloc (Nat.le_refl _) _
  unfold nmv
  go_enter Try.func5, Try.ntmps5
  go_wp2_with fail
  refine (awake_any _).mono ?_
  rintro x w1 ⟨rfl, hb⟩
  have HB1 := Lib.hid (stepB HB0.out hb)
  clear hb HB0
  go_wp2
  go_ret
  exact ⟨rfl, HB1.out⟩
/-- what the law's own book says behind a step: task, held -/
def bookH (h : Bool) (d e did : Bool) : Bool := if d then (if e && did then false else h) else (if e && did then true else h)
set_option maxRecDepth 100000 in
set_option maxHeartbeats 16000000 in
theorem w_main (A : Option Addr) (n c : Nat) (z : Int) (S : List Stp) (w : World) (hS : Steps w.heap.size w A n S) (hz : rg z) (hn : ¬ 300 < n) : Calls Try.prog 5 #[.slice A n c, nmv z] w (fun e w' => e = .returned (.bool true) ∧ Below w.heap.size w w') := by
  have d1 : decide ((300 : Int) < (n : Int)) = false := decide_eq_false (by omega)
  have HS := Lib.hid hS
  have hb0 : Below w.heap.size w (w.alloc (.cells #[.int .u8 (z / 18446744073709551616), .int .u64 (z % 18446744073709551616)] 27)) := (Below.refl _ _).alloc (Nat.le_refl _) _
  have HB0 := Lib.hid hb0
  have HX0 := Lib.hid (Blk.new w #[.int .u8 (z / 18446744073709551616), .int .u64 (z % 18446744073709551616)] 27)
  clear hS hb0
  unfold nmv
  go_enter Try.func5, Try.ntmps5
  go_wp2_with fail
  refine (awake_any _).mono ?_
  rintro x w1 ⟨rfl, hb⟩
  have HB1 := Lib.hid (stepB HB0.out hb)
  have HX1 := Lib.hid (HX0.out.later hb)
  clear hb HB0 HX0
  go_wp2_with fail
  refine (new_any w1).mono ?_
  rintro x w2 ⟨rfl, ho, hb⟩
  have O2 := Lib.hid (ho.base HB1.out.size)
  have X2 := Lib.hid (HX1.out.later hb)
  have HB2 := Lib.hid (stepB HB1.out hb)
  clear ho hb HB1 HX1
  generalize w1.heap.size + 1 = p at *
  generalize w1.heap.size = b at *
  go_wp2
  go_loopw [6, 7, 8] (fun tv hv i wr => ∃ (k : Nat) (C : List Ct) (tk : Int), k ≤ n ∧ i = .int .i64 k ∧ tv = .int .i64 tk ∧ hv = .bool (isC C z) ∧ (isC C z = true → ofC C z = tk) ∧ C.length ≤ k ∧ LaAt wr w.heap.size p b C ∧ Blk wr w.heap.size #[.int .u8 (z / 18446744073709551616), .int .u64 (z % 18446744073709551616)] 27 ∧ Below w.heap.size w wr) (fun _ _ i _ => n - (intOf i).toNat)
  case atStart => exact ⟨0, [], 0, Nat.zero_le _, rfl, rfl, rfl, (fun h => by cases h), Nat.le_refl _, O2.out, X2.out, HB2.out⟩
  case round =>
    obtain ⟨k, C, tk, hk, rfl, rfl, rfl, htk, hl, ho, hx, hb⟩ := hrel
    have O0 := Lib.hid ho
    have X0 := Lib.hid hx
    have HB0 := Lib.hid hb
    have HTK := Lib.hid htk
    clear ho hx hb O2 X2 HB2 htk
    by_cases hlt : k < n
    · have d2 : decide ((k : Int) < (n : Int)) = true := decide_eq_true (by omega)
      have wk : IntKind.i64.wrap ((k : Int) + 1) = (k : Int) + 1 := IntWalk.i64_in _ (by omega)
      obtain ⟨g, off, rfl, hg, hcell⟩ := (HS.out.below HB0.out).2 (by omega)
      have i1 := sindex g off n c k (k : Int) rfl hlt
      obtain ⟨hc, hok⟩ := hcell k hlt
      obtain ⟨⟨d, y, t⟩, hx⟩ : ∃ x, S.getD k stp0 = x := ⟨_, rfl⟩
      rw [hx] at hc hok
      obtain ⟨x0, x1, x2, x3⟩ := hc
      have hy : rg y := hok.1
      have ht : (Lit.int .i64 t).wf = true := hok.2
      simp only at x0 x1 x2 x3
      have hbs : Below wr.heap.size wr (wr.alloc (.cells #[.bool d, .int .u8 (y / 18446744073709551616), .int .u64 (y % 18446744073709551616), .int .i64 t] 45)) := (Below.refl _ _).alloc (Nat.le_refl _) _
      have O1 := Lib.hid (O0.out.later hbs)
      have X1 := Lib.hid (X0.out.later hbs)
      have Y1 := Lib.hid (Blk.new wr #[.bool d, .int .u8 (y / 18446744073709551616), .int .u64 (y % 18446744073709551616), .int .i64 t] 45)
      have HB1 := Lib.hid (stepB HB0.out hbs)
      have HEQ := fun W => eq_nm y z W
      clear hcell hx hg hok hbs O0 X0 HB0
      cases d with
      | true =>
        by_cases hne : y = z
        · subst hne
          by_cases hh : isC C y = true
          · by_cases hq : tk = t
            ·
              obtain ⟨e1, e2, e3⟩ := (view_drop HTK.out).1 hh hq
              have HCC : Hid (Calls Try.prog 12 #[.pointer (some ⟨p, 0, none⟩), .agg #[.int .u8 (y / 18446744073709551616), .int .u64 (y % 18446744073709551616)], .int .i64 t] (wr.alloc (.cells #[.bool true, .int .u8 (y / 18446744073709551616), .int .u64 (y % 18446744073709551616), .int .i64 t] 45)) (LEnd w.heap.size p b (dropS C y t) (.bool true) (wr.alloc (.cells #[.bool true, .int .u8 (y / 18446744073709551616), .int .u64 (y % 18446744073709551616), .int .i64 t] 45)))) := by
                have h := drop_any w.heap.size p b C y t _ O1.out hy
                rw [e1] at h
                exact h
              have HOW : Hid (∀ W, LaAt W w.heap.size p b (dropS C y t) → Calls Try.prog 9 #[.pointer (some ⟨p, 0, none⟩), .agg #[.int .u8 (y / 18446744073709551616), .int .u64 (y % 18446744073709551616)]] W fun x w' => x = .returned (.tuple #[.int .i64 0, .bool false]) ∧ Below W.heap.size W w') := fun W h => by
                have h := owner_any w.heap.size p b _ y W h hz
                rw [e2, e3] at h
                exact h
              have HE2 := Lib.hid e2
              have HE3 := Lib.hid e3
              have HLEN : Hid ((dropS C y t).length ≤ k + 1) := by have h2 : (dropS C y t).length ≤ C.length + 1 := do_len C (true, y, t); show _ ≤ _; omega
              have dq : (tk == t) = true := by rw [beq_iff_eq]; exact hq
              have qe : ∀ W, (binOp BinOp.eql 27 (.agg #[.int .u8 (y / 18446744073709551616), .int .u64 (y % 18446744073709551616)]) (.agg #[.int .u8 (y / 18446744073709551616), .int .u64 (y % 18446744073709551616)])).run Try.prog W = .ok (.bool true) W := fun W => by rw [eq_nm]; simp
              clear e1 e2 e3 HEQ 
              rw [hh]
              have HQ := Lib.hid hq
              clear hq
              have HHH := Lib.hid hh
              clear hh 
              generalize dropS C y t = C2 at *
              generalize hyk : y / 18446744073709551616 = yk at *
              generalize hyi : y % 18446744073709551616 = yi at *
              clear hyk hyi
              go_wp2_with fail
              refine (HCC.out).mono ?_
              rintro x w3 ⟨rfl, ho, hg⟩
              have L3 := Lib.hid ho
              have X3 := Lib.hid (X1.out.mp O1.out hg)
              have Y3 := Lib.hid (Y1.out.mp O1.out hg)
              have HB3 := Lib.hid (O1.out.below HB1.out hg)
              have a0 := X3.out.cell 0
              have a1 := X3.out.cell 1
              have b0 := Y3.out.cell 0
              have b1 := Y3.out.cell 1
              have b2 := Y3.out.cell 2
              have b3 := Y3.out.cell 3
              simp only [List.getElem?_toArray, List.getElem?_cons_zero, List.getElem?_cons_succ] at a0 a1 b0 b1 b2 b3
              clear ho hg O1 X1 Y1 HB1 HCC x0 x1 x2 x3 i1
              go_wp2_with fail
              refine (HOW.out _ L3.out).mono ?_
              rintro x w4 ⟨rfl, hb⟩
              have L4 := Lib.hid (L3.out.later hb)
              have X4 := Lib.hid (X3.out.later hb)
              have HB4 := Lib.hid (stepB HB3.out hb)
              clear hb L3 X3 Y3 HB3 HOW a0 a1 b0 b1 b2 b3 qe
              go_wp2
              go_roundw
              case rel =>
                refine ⟨k + 1, C2, tk, by omega, ?_⟩
                and_intros
                all_goals first | exact HLEN.out | exact L4.out | exact X4.out | exact HB4.out | rfl | trivial | (intro h; (rw [HE2.out] at h; cases h)) | go_num | (rw [HE2.out]) | exact HE2.out | exact HE2.out.symm
              case measure => simp [intOf]; omega
            ·
              obtain ⟨e1, e2, e3⟩ := (view_drop HTK.out).2.1 hh hq
              have HCC : Hid (Calls Try.prog 12 #[.pointer (some ⟨p, 0, none⟩), .agg #[.int .u8 (y / 18446744073709551616), .int .u64 (y % 18446744073709551616)], .int .i64 t] (wr.alloc (.cells #[.bool true, .int .u8 (y / 18446744073709551616), .int .u64 (y % 18446744073709551616), .int .i64 t] 45)) (LEnd w.heap.size p b (dropS C y t) (.bool false) (wr.alloc (.cells #[.bool true, .int .u8 (y / 18446744073709551616), .int .u64 (y % 18446744073709551616), .int .i64 t] 45)))) := by
                have h := drop_any w.heap.size p b C y t _ O1.out hy
                rw [e1] at h
                exact h
              have HOW : Hid (∀ W, LaAt W w.heap.size p b (dropS C y t) → Calls Try.prog 9 #[.pointer (some ⟨p, 0, none⟩), .agg #[.int .u8 (y / 18446744073709551616), .int .u64 (y % 18446744073709551616)]] W fun x w' => x = .returned (.tuple #[.int .i64 tk, .bool true]) ∧ Below W.heap.size W w') := fun W h => by
                have h := owner_any w.heap.size p b _ y W h hz
                rw [e2, e3] at h
                exact h
              have HE2 := Lib.hid e2
              have HE3 := Lib.hid e3
              have HLEN : Hid ((dropS C y t).length ≤ k + 1) := by have h2 : (dropS C y t).length ≤ C.length + 1 := do_len C (true, y, t); show _ ≤ _; omega
              have dq : (tk == t) = false := ieq_no hq
              have qe : ∀ W, (binOp BinOp.eql 27 (.agg #[.int .u8 (y / 18446744073709551616), .int .u64 (y % 18446744073709551616)]) (.agg #[.int .u8 (y / 18446744073709551616), .int .u64 (y % 18446744073709551616)])).run Try.prog W = .ok (.bool true) W := fun W => by rw [eq_nm]; simp
              clear e1 e2 e3 HEQ 
              rw [hh]
              clear hq
              have HHH := Lib.hid hh
              clear hh 
              generalize dropS C y t = C2 at *
              generalize hyk : y / 18446744073709551616 = yk at *
              generalize hyi : y % 18446744073709551616 = yi at *
              clear hyk hyi
              go_wp2_with fail
              refine (HCC.out).mono ?_
              rintro x w3 ⟨rfl, ho, hg⟩
              have L3 := Lib.hid ho
              have X3 := Lib.hid (X1.out.mp O1.out hg)
              have Y3 := Lib.hid (Y1.out.mp O1.out hg)
              have HB3 := Lib.hid (O1.out.below HB1.out hg)
              have a0 := X3.out.cell 0
              have a1 := X3.out.cell 1
              have b0 := Y3.out.cell 0
              have b1 := Y3.out.cell 1
              have b2 := Y3.out.cell 2
              have b3 := Y3.out.cell 3
              simp only [List.getElem?_toArray, List.getElem?_cons_zero, List.getElem?_cons_succ] at a0 a1 b0 b1 b2 b3
              clear ho hg O1 X1 Y1 HB1 HCC x0 x1 x2 x3 i1
              go_wp2_with fail
              refine (HOW.out _ L3.out).mono ?_
              rintro x w4 ⟨rfl, hb⟩
              have L4 := Lib.hid (L3.out.later hb)
              have X4 := Lib.hid (X3.out.later hb)
              have HB4 := Lib.hid (stepB HB3.out hb)
              clear hb L3 X3 Y3 HB3 HOW a0 a1 b0 b1 b2 b3 qe
              go_wp2
              go_roundw
              case rel =>
                refine ⟨k + 1, C2, tk, by omega, ?_⟩
                and_intros
                all_goals first | exact HLEN.out | exact L4.out | exact X4.out | exact HB4.out | rfl | trivial | (intro h; exact HE3.out) | go_num | (rw [HE2.out]) | exact HE2.out | exact HE2.out.symm
              case measure => simp [intOf]; omega
          · have hh : isC C y = false := by simpa using hh
            obtain ⟨e1, e2, e3⟩ := (view_drop HTK.out).2.2 hh
            have HCC : Hid (Calls Try.prog 12 #[.pointer (some ⟨p, 0, none⟩), .agg #[.int .u8 (y / 18446744073709551616), .int .u64 (y % 18446744073709551616)], .int .i64 t] (wr.alloc (.cells #[.bool true, .int .u8 (y / 18446744073709551616), .int .u64 (y % 18446744073709551616), .int .i64 t] 45)) (LEnd w.heap.size p b (dropS C y t) (.bool false) (wr.alloc (.cells #[.bool true, .int .u8 (y / 18446744073709551616), .int .u64 (y % 18446744073709551616), .int .i64 t] 45)))) := by
              have h := drop_any w.heap.size p b C y t _ O1.out hy
              rw [e1] at h
              exact h
            have HOW : Hid (∀ W, LaAt W w.heap.size p b (dropS C y t) → Calls Try.prog 9 #[.pointer (some ⟨p, 0, none⟩), .agg #[.int .u8 (y / 18446744073709551616), .int .u64 (y % 18446744073709551616)]] W fun x w' => x = .returned (.tuple #[.int .i64 0, .bool false]) ∧ Below W.heap.size W w') := fun W h => by
              have h := owner_any w.heap.size p b _ y W h hz
              rw [e2, e3] at h
              exact h
            have HE2 := Lib.hid e2
            have HE3 := Lib.hid e3
            have HLEN : Hid ((dropS C y t).length ≤ k + 1) := by have h2 : (dropS C y t).length ≤ C.length + 1 := do_len C (true, y, t); show _ ≤ _; omega
            have qe : ∀ W, (binOp BinOp.eql 27 (.agg #[.int .u8 (y / 18446744073709551616), .int .u64 (y % 18446744073709551616)]) (.agg #[.int .u8 (y / 18446744073709551616), .int .u64 (y % 18446744073709551616)])).run Try.prog W = .ok (.bool true) W := fun W => by rw [eq_nm]; simp
            clear e1 e2 e3 HEQ 
            rw [hh]
            have HHH := Lib.hid hh
            clear hh 
            generalize dropS C y t = C2 at *
            generalize hyk : y / 18446744073709551616 = yk at *
            generalize hyi : y % 18446744073709551616 = yi at *
            clear hyk hyi
            go_wp2_with fail
            refine (HCC.out).mono ?_
            rintro x w3 ⟨rfl, ho, hg⟩
            have L3 := Lib.hid ho
            have X3 := Lib.hid (X1.out.mp O1.out hg)
            have Y3 := Lib.hid (Y1.out.mp O1.out hg)
            have HB3 := Lib.hid (O1.out.below HB1.out hg)
            have a0 := X3.out.cell 0
            have a1 := X3.out.cell 1
            have b0 := Y3.out.cell 0
            have b1 := Y3.out.cell 1
            have b2 := Y3.out.cell 2
            have b3 := Y3.out.cell 3
            simp only [List.getElem?_toArray, List.getElem?_cons_zero, List.getElem?_cons_succ] at a0 a1 b0 b1 b2 b3
            clear ho hg O1 X1 Y1 HB1 HCC x0 x1 x2 x3 i1
            go_wp2_with fail
            refine (HOW.out _ L3.out).mono ?_
            rintro x w4 ⟨rfl, hb⟩
            have L4 := Lib.hid (L3.out.later hb)
            have X4 := Lib.hid (X3.out.later hb)
            have HB4 := Lib.hid (stepB HB3.out hb)
            clear hb L3 X3 Y3 HB3 HOW a0 a1 b0 b1 b2 b3 qe
            go_wp2
            go_roundw
            case rel =>
              refine ⟨k + 1, C2, tk, by omega, ?_⟩
              and_intros
              all_goals first | exact HLEN.out | exact L4.out | exact X4.out | exact HB4.out | rfl | trivial | (intro h; (rw [HE2.out] at h; cases h)) | go_num | (rw [HE2.out]) | exact HE2.out | exact HE2.out.symm
            case measure => simp [intOf]; omega
        · by_cases hh : isC C z = true
          ·
            have hd0 := do_is C (true, y, t) hne
            have e2 : isC (dropS C y t) z = true := hd0.1.trans hh
            have e3 : ofC (dropS C y t) z = tk := hd0.2.trans (HTK.out hh)
            obtain ⟨did, e1⟩ : ∃ x, dropB C y t = x := ⟨_, rfl⟩
            have HCC : Hid (Calls Try.prog 12 #[.pointer (some ⟨p, 0, none⟩), .agg #[.int .u8 (y / 18446744073709551616), .int .u64 (y % 18446744073709551616)], .int .i64 t] (wr.alloc (.cells #[.bool true, .int .u8 (y / 18446744073709551616), .int .u64 (y % 18446744073709551616), .int .i64 t] 45)) (LEnd w.heap.size p b (dropS C y t) (.bool did) (wr.alloc (.cells #[.bool true, .int .u8 (y / 18446744073709551616), .int .u64 (y % 18446744073709551616), .int .i64 t] 45)))) := by
              have h := drop_any w.heap.size p b C y t _ O1.out hy
              rw [e1] at h
              exact h
            have HOW : Hid (∀ W, LaAt W w.heap.size p b (dropS C y t) → Calls Try.prog 9 #[.pointer (some ⟨p, 0, none⟩), .agg #[.int .u8 (z / 18446744073709551616), .int .u64 (z % 18446744073709551616)]] W fun x w' => x = .returned (.tuple #[.int .i64 tk, .bool true]) ∧ Below W.heap.size W w') := fun W h => by
              have h := owner_any w.heap.size p b _ z W h hz
              rw [e2, e3] at h
              exact h
            have HE2 := Lib.hid e2
            have HE3 := Lib.hid e3
            have HLEN : Hid ((dropS C y t).length ≤ k + 1) := by have h2 : (dropS C y t).length ≤ C.length + 1 := do_len C (true, y, t); show _ ≤ _; omega
            have qe : ∀ W, (binOp BinOp.eql 27 (.agg #[.int .u8 (y / 18446744073709551616), .int .u64 (y % 18446744073709551616)]) (.agg #[.int .u8 (z / 18446744073709551616), .int .u64 (z % 18446744073709551616)])).run Try.prog W = .ok (.bool false) W := fun W => by rw [eq_nm]; rw [decide_eq_false hne]
            clear e1 e2 e3 HEQ hd0 
            rw [hh]
            have HHH := Lib.hid hh
            clear hh hne
            generalize dropS C y t = C2 at *
            generalize hyk : y / 18446744073709551616 = yk at *
            generalize hyi : y % 18446744073709551616 = yi at *
            generalize hzk : z / 18446744073709551616 = zk at *
            generalize hzi : z % 18446744073709551616 = zi at *
            clear hzk hzi
            clear hyk hyi
            go_wp2_with fail
            refine (HCC.out).mono ?_
            rintro x w3 ⟨rfl, ho, hg⟩
            have L3 := Lib.hid ho
            have X3 := Lib.hid (X1.out.mp O1.out hg)
            have Y3 := Lib.hid (Y1.out.mp O1.out hg)
            have HB3 := Lib.hid (O1.out.below HB1.out hg)
            have a0 := X3.out.cell 0
            have a1 := X3.out.cell 1
            have b0 := Y3.out.cell 0
            have b1 := Y3.out.cell 1
            have b2 := Y3.out.cell 2
            have b3 := Y3.out.cell 3
            simp only [List.getElem?_toArray, List.getElem?_cons_zero, List.getElem?_cons_succ] at a0 a1 b0 b1 b2 b3
            clear ho hg O1 X1 Y1 HB1 HCC x0 x1 x2 x3 i1
            go_wp2_with fail
            refine (HOW.out _ L3.out).mono ?_
            rintro x w4 ⟨rfl, hb⟩
            have L4 := Lib.hid (L3.out.later hb)
            have X4 := Lib.hid (X3.out.later hb)
            have HB4 := Lib.hid (stepB HB3.out hb)
            clear hb L3 X3 Y3 HB3 HOW a0 a1 b0 b1 b2 b3 qe
            go_wp2
            go_roundw
            case rel =>
              refine ⟨k + 1, C2, tk, by omega, ?_⟩
              and_intros
              all_goals first | exact HLEN.out | exact L4.out | exact X4.out | exact HB4.out | rfl | trivial | (intro h; exact HE3.out) | go_num | (rw [HE2.out]) | exact HE2.out | exact HE2.out.symm
            case measure => simp [intOf]; omega
          · have hh : isC C z = false := by simpa using hh
            have hd0 := do_is C (true, y, t) hne
            have e2 : isC (dropS C y t) z = false := hd0.1.trans hh
            have e3 : ofC (dropS C y t) z = 0 := hd0.2.trans (of_none0 hh)
            obtain ⟨did, e1⟩ : ∃ x, dropB C y t = x := ⟨_, rfl⟩
            have HCC : Hid (Calls Try.prog 12 #[.pointer (some ⟨p, 0, none⟩), .agg #[.int .u8 (y / 18446744073709551616), .int .u64 (y % 18446744073709551616)], .int .i64 t] (wr.alloc (.cells #[.bool true, .int .u8 (y / 18446744073709551616), .int .u64 (y % 18446744073709551616), .int .i64 t] 45)) (LEnd w.heap.size p b (dropS C y t) (.bool did) (wr.alloc (.cells #[.bool true, .int .u8 (y / 18446744073709551616), .int .u64 (y % 18446744073709551616), .int .i64 t] 45)))) := by
              have h := drop_any w.heap.size p b C y t _ O1.out hy
              rw [e1] at h
              exact h
            have HOW : Hid (∀ W, LaAt W w.heap.size p b (dropS C y t) → Calls Try.prog 9 #[.pointer (some ⟨p, 0, none⟩), .agg #[.int .u8 (z / 18446744073709551616), .int .u64 (z % 18446744073709551616)]] W fun x w' => x = .returned (.tuple #[.int .i64 0, .bool false]) ∧ Below W.heap.size W w') := fun W h => by
              have h := owner_any w.heap.size p b _ z W h hz
              rw [e2, e3] at h
              exact h
            have HE2 := Lib.hid e2
            have HE3 := Lib.hid e3
            have HLEN : Hid ((dropS C y t).length ≤ k + 1) := by have h2 : (dropS C y t).length ≤ C.length + 1 := do_len C (true, y, t); show _ ≤ _; omega
            have qe : ∀ W, (binOp BinOp.eql 27 (.agg #[.int .u8 (y / 18446744073709551616), .int .u64 (y % 18446744073709551616)]) (.agg #[.int .u8 (z / 18446744073709551616), .int .u64 (z % 18446744073709551616)])).run Try.prog W = .ok (.bool false) W := fun W => by rw [eq_nm]; rw [decide_eq_false hne]
            clear e1 e2 e3 HEQ hd0 
            rw [hh]
            have HHH := Lib.hid hh
            clear hh hne
            generalize dropS C y t = C2 at *
            generalize hyk : y / 18446744073709551616 = yk at *
            generalize hyi : y % 18446744073709551616 = yi at *
            generalize hzk : z / 18446744073709551616 = zk at *
            generalize hzi : z % 18446744073709551616 = zi at *
            clear hzk hzi
            clear hyk hyi
            go_wp2_with fail
            refine (HCC.out).mono ?_
            rintro x w3 ⟨rfl, ho, hg⟩
            have L3 := Lib.hid ho
            have X3 := Lib.hid (X1.out.mp O1.out hg)
            have Y3 := Lib.hid (Y1.out.mp O1.out hg)
            have HB3 := Lib.hid (O1.out.below HB1.out hg)
            have a0 := X3.out.cell 0
            have a1 := X3.out.cell 1
            have b0 := Y3.out.cell 0
            have b1 := Y3.out.cell 1
            have b2 := Y3.out.cell 2
            have b3 := Y3.out.cell 3
            simp only [List.getElem?_toArray, List.getElem?_cons_zero, List.getElem?_cons_succ] at a0 a1 b0 b1 b2 b3
            clear ho hg O1 X1 Y1 HB1 HCC x0 x1 x2 x3 i1
            go_wp2_with fail
            refine (HOW.out _ L3.out).mono ?_
            rintro x w4 ⟨rfl, hb⟩
            have L4 := Lib.hid (L3.out.later hb)
            have X4 := Lib.hid (X3.out.later hb)
            have HB4 := Lib.hid (stepB HB3.out hb)
            clear hb L3 X3 Y3 HB3 HOW a0 a1 b0 b1 b2 b3 qe
            go_wp2
            go_roundw
            case rel =>
              refine ⟨k + 1, C2, tk, by omega, ?_⟩
              and_intros
              all_goals first | exact HLEN.out | exact L4.out | exact X4.out | exact HB4.out | rfl | trivial | (intro h; (rw [HE2.out] at h; cases h)) | go_num | (rw [HE2.out]) | exact HE2.out | exact HE2.out.symm
            case measure => simp [intOf]; omega
      | false =>
        by_cases hne : y = z
        · subst hne
          by_cases hh : isC C y = true
          · by_cases hq : tk = t
            ·
              obtain ⟨e1, e2, e3⟩ := (view_try HTK.out).1 hh hq
              have HCC : Hid (Calls Try.prog 11 #[.pointer (some ⟨p, 0, none⟩), .agg #[.int .u8 (y / 18446744073709551616), .int .u64 (y % 18446744073709551616)], .int .i64 t] (wr.alloc (.cells #[.bool false, .int .u8 (y / 18446744073709551616), .int .u64 (y % 18446744073709551616), .int .i64 t] 45)) (LEnd w.heap.size p b (tryS C y t) (.bool true) (wr.alloc (.cells #[.bool false, .int .u8 (y / 18446744073709551616), .int .u64 (y % 18446744073709551616), .int .i64 t] 45)))) := by
                have h := try_any w.heap.size p b C y t _ O1.out hy ht (by omega)
                rw [e1] at h
                exact h
              have HOW : Hid (∀ W, LaAt W w.heap.size p b (tryS C y t) → Calls Try.prog 9 #[.pointer (some ⟨p, 0, none⟩), .agg #[.int .u8 (y / 18446744073709551616), .int .u64 (y % 18446744073709551616)]] W fun x w' => x = .returned (.tuple #[.int .i64 tk, .bool true]) ∧ Below W.heap.size W w') := fun W h => by
                have h := owner_any w.heap.size p b _ y W h hz
                rw [e2, e3] at h
                exact h
              have HE2 := Lib.hid e2
              have HE3 := Lib.hid e3
              have HLEN : Hid ((tryS C y t).length ≤ k + 1) := by have h2 : (tryS C y t).length ≤ C.length + 1 := do_len C (false, y, t); show _ ≤ _; omega
              have dq : (tk == t) = true := by rw [beq_iff_eq]; exact hq
              have qe : ∀ W, (binOp BinOp.eql 27 (.agg #[.int .u8 (y / 18446744073709551616), .int .u64 (y % 18446744073709551616)]) (.agg #[.int .u8 (y / 18446744073709551616), .int .u64 (y % 18446744073709551616)])).run Try.prog W = .ok (.bool true) W := fun W => by rw [eq_nm]; simp
              clear e1 e2 e3 HEQ 
              rw [hh]
              have HQ := Lib.hid hq
              clear hq
              have HHH := Lib.hid hh
              clear hh 
              generalize tryS C y t = C2 at *
              generalize hyk : y / 18446744073709551616 = yk at *
              generalize hyi : y % 18446744073709551616 = yi at *
              clear hyk hyi
              go_wp2_with fail
              refine (HCC.out).mono ?_
              rintro x w3 ⟨rfl, ho, hg⟩
              have L3 := Lib.hid ho
              have X3 := Lib.hid (X1.out.mp O1.out hg)
              have Y3 := Lib.hid (Y1.out.mp O1.out hg)
              have HB3 := Lib.hid (O1.out.below HB1.out hg)
              have a0 := X3.out.cell 0
              have a1 := X3.out.cell 1
              have b0 := Y3.out.cell 0
              have b1 := Y3.out.cell 1
              have b2 := Y3.out.cell 2
              have b3 := Y3.out.cell 3
              simp only [List.getElem?_toArray, List.getElem?_cons_zero, List.getElem?_cons_succ] at a0 a1 b0 b1 b2 b3
              clear ho hg O1 X1 Y1 HB1 HCC x0 x1 x2 x3 i1
              go_wp2_with fail
              refine (HOW.out _ L3.out).mono ?_
              rintro x w4 ⟨rfl, hb⟩
              have L4 := Lib.hid (L3.out.later hb)
              have X4 := Lib.hid (X3.out.later hb)
              have HB4 := Lib.hid (stepB HB3.out hb)
              clear hb L3 X3 Y3 HB3 HOW a0 a1 b0 b1 b2 b3 qe
              go_wp2
              go_roundw
              case rel =>
                refine ⟨k + 1, C2, t, by omega, ?_⟩
                and_intros
                all_goals first | exact HLEN.out | exact L4.out | exact X4.out | exact HB4.out | rfl | trivial | (intro h; (rw [HE3.out]; exact HQ.out)) | go_num | (rw [HE2.out]) | exact HE2.out | exact HE2.out.symm
              case measure => simp [intOf]; omega
            ·
              obtain ⟨e1, e2, e3⟩ := (view_try HTK.out).2.1 hh hq
              have HCC : Hid (Calls Try.prog 11 #[.pointer (some ⟨p, 0, none⟩), .agg #[.int .u8 (y / 18446744073709551616), .int .u64 (y % 18446744073709551616)], .int .i64 t] (wr.alloc (.cells #[.bool false, .int .u8 (y / 18446744073709551616), .int .u64 (y % 18446744073709551616), .int .i64 t] 45)) (LEnd w.heap.size p b (tryS C y t) (.bool false) (wr.alloc (.cells #[.bool false, .int .u8 (y / 18446744073709551616), .int .u64 (y % 18446744073709551616), .int .i64 t] 45)))) := by
                have h := try_any w.heap.size p b C y t _ O1.out hy ht (by omega)
                rw [e1] at h
                exact h
              have HOW : Hid (∀ W, LaAt W w.heap.size p b (tryS C y t) → Calls Try.prog 9 #[.pointer (some ⟨p, 0, none⟩), .agg #[.int .u8 (y / 18446744073709551616), .int .u64 (y % 18446744073709551616)]] W fun x w' => x = .returned (.tuple #[.int .i64 tk, .bool true]) ∧ Below W.heap.size W w') := fun W h => by
                have h := owner_any w.heap.size p b _ y W h hz
                rw [e2, e3] at h
                exact h
              have HE2 := Lib.hid e2
              have HE3 := Lib.hid e3
              have HLEN : Hid ((tryS C y t).length ≤ k + 1) := by have h2 : (tryS C y t).length ≤ C.length + 1 := do_len C (false, y, t); show _ ≤ _; omega
              have dq : (tk == t) = false := ieq_no hq
              have qe : ∀ W, (binOp BinOp.eql 27 (.agg #[.int .u8 (y / 18446744073709551616), .int .u64 (y % 18446744073709551616)]) (.agg #[.int .u8 (y / 18446744073709551616), .int .u64 (y % 18446744073709551616)])).run Try.prog W = .ok (.bool true) W := fun W => by rw [eq_nm]; simp
              clear e1 e2 e3 HEQ 
              rw [hh]
              clear hq
              have HHH := Lib.hid hh
              clear hh 
              generalize tryS C y t = C2 at *
              generalize hyk : y / 18446744073709551616 = yk at *
              generalize hyi : y % 18446744073709551616 = yi at *
              clear hyk hyi
              go_wp2_with fail
              refine (HCC.out).mono ?_
              rintro x w3 ⟨rfl, ho, hg⟩
              have L3 := Lib.hid ho
              have X3 := Lib.hid (X1.out.mp O1.out hg)
              have Y3 := Lib.hid (Y1.out.mp O1.out hg)
              have HB3 := Lib.hid (O1.out.below HB1.out hg)
              have a0 := X3.out.cell 0
              have a1 := X3.out.cell 1
              have b0 := Y3.out.cell 0
              have b1 := Y3.out.cell 1
              have b2 := Y3.out.cell 2
              have b3 := Y3.out.cell 3
              simp only [List.getElem?_toArray, List.getElem?_cons_zero, List.getElem?_cons_succ] at a0 a1 b0 b1 b2 b3
              clear ho hg O1 X1 Y1 HB1 HCC x0 x1 x2 x3 i1
              go_wp2_with fail
              refine (HOW.out _ L3.out).mono ?_
              rintro x w4 ⟨rfl, hb⟩
              have L4 := Lib.hid (L3.out.later hb)
              have X4 := Lib.hid (X3.out.later hb)
              have HB4 := Lib.hid (stepB HB3.out hb)
              clear hb L3 X3 Y3 HB3 HOW a0 a1 b0 b1 b2 b3 qe
              go_wp2
              go_roundw
              case rel =>
                refine ⟨k + 1, C2, tk, by omega, ?_⟩
                and_intros
                all_goals first | exact HLEN.out | exact L4.out | exact X4.out | exact HB4.out | rfl | trivial | (intro h; exact HE3.out) | go_num | (rw [HE2.out]) | exact HE2.out | exact HE2.out.symm
              case measure => simp [intOf]; omega
          · have hh : isC C y = false := by simpa using hh
            obtain ⟨e1, e2, e3⟩ := (view_try HTK.out).2.2 hh
            have HCC : Hid (Calls Try.prog 11 #[.pointer (some ⟨p, 0, none⟩), .agg #[.int .u8 (y / 18446744073709551616), .int .u64 (y % 18446744073709551616)], .int .i64 t] (wr.alloc (.cells #[.bool false, .int .u8 (y / 18446744073709551616), .int .u64 (y % 18446744073709551616), .int .i64 t] 45)) (LEnd w.heap.size p b (tryS C y t) (.bool true) (wr.alloc (.cells #[.bool false, .int .u8 (y / 18446744073709551616), .int .u64 (y % 18446744073709551616), .int .i64 t] 45)))) := by
              have h := try_any w.heap.size p b C y t _ O1.out hy ht (by omega)
              rw [e1] at h
              exact h
            have HOW : Hid (∀ W, LaAt W w.heap.size p b (tryS C y t) → Calls Try.prog 9 #[.pointer (some ⟨p, 0, none⟩), .agg #[.int .u8 (y / 18446744073709551616), .int .u64 (y % 18446744073709551616)]] W fun x w' => x = .returned (.tuple #[.int .i64 t, .bool true]) ∧ Below W.heap.size W w') := fun W h => by
              have h := owner_any w.heap.size p b _ y W h hz
              rw [e2, e3] at h
              exact h
            have HE2 := Lib.hid e2
            have HE3 := Lib.hid e3
            have HLEN : Hid ((tryS C y t).length ≤ k + 1) := by have h2 : (tryS C y t).length ≤ C.length + 1 := do_len C (false, y, t); show _ ≤ _; omega
            have qe : ∀ W, (binOp BinOp.eql 27 (.agg #[.int .u8 (y / 18446744073709551616), .int .u64 (y % 18446744073709551616)]) (.agg #[.int .u8 (y / 18446744073709551616), .int .u64 (y % 18446744073709551616)])).run Try.prog W = .ok (.bool true) W := fun W => by rw [eq_nm]; simp
            clear e1 e2 e3 HEQ 
            rw [hh]
            have HHH := Lib.hid hh
            clear hh 
            generalize tryS C y t = C2 at *
            generalize hyk : y / 18446744073709551616 = yk at *
            generalize hyi : y % 18446744073709551616 = yi at *
            clear hyk hyi
            go_wp2_with fail
            refine (HCC.out).mono ?_
            rintro x w3 ⟨rfl, ho, hg⟩
            have L3 := Lib.hid ho
            have X3 := Lib.hid (X1.out.mp O1.out hg)
            have Y3 := Lib.hid (Y1.out.mp O1.out hg)
            have HB3 := Lib.hid (O1.out.below HB1.out hg)
            have a0 := X3.out.cell 0
            have a1 := X3.out.cell 1
            have b0 := Y3.out.cell 0
            have b1 := Y3.out.cell 1
            have b2 := Y3.out.cell 2
            have b3 := Y3.out.cell 3
            simp only [List.getElem?_toArray, List.getElem?_cons_zero, List.getElem?_cons_succ] at a0 a1 b0 b1 b2 b3
            clear ho hg O1 X1 Y1 HB1 HCC x0 x1 x2 x3 i1
            go_wp2_with fail
            refine (HOW.out _ L3.out).mono ?_
            rintro x w4 ⟨rfl, hb⟩
            have L4 := Lib.hid (L3.out.later hb)
            have X4 := Lib.hid (X3.out.later hb)
            have HB4 := Lib.hid (stepB HB3.out hb)
            clear hb L3 X3 Y3 HB3 HOW a0 a1 b0 b1 b2 b3 qe
            go_wp2
            go_roundw
            case rel =>
              refine ⟨k + 1, C2, t, by omega, ?_⟩
              and_intros
              all_goals first | exact HLEN.out | exact L4.out | exact X4.out | exact HB4.out | rfl | trivial | (intro h; exact HE3.out) | go_num | (rw [HE2.out]) | exact HE2.out | exact HE2.out.symm
            case measure => simp [intOf]; omega
        · by_cases hh : isC C z = true
          ·
            have hd0 := do_is C (false, y, t) hne
            have e2 : isC (tryS C y t) z = true := hd0.1.trans hh
            have e3 : ofC (tryS C y t) z = tk := hd0.2.trans (HTK.out hh)
            obtain ⟨did, e1⟩ : ∃ x, tryB C y t = x := ⟨_, rfl⟩
            have HCC : Hid (Calls Try.prog 11 #[.pointer (some ⟨p, 0, none⟩), .agg #[.int .u8 (y / 18446744073709551616), .int .u64 (y % 18446744073709551616)], .int .i64 t] (wr.alloc (.cells #[.bool false, .int .u8 (y / 18446744073709551616), .int .u64 (y % 18446744073709551616), .int .i64 t] 45)) (LEnd w.heap.size p b (tryS C y t) (.bool did) (wr.alloc (.cells #[.bool false, .int .u8 (y / 18446744073709551616), .int .u64 (y % 18446744073709551616), .int .i64 t] 45)))) := by
              have h := try_any w.heap.size p b C y t _ O1.out hy ht (by omega)
              rw [e1] at h
              exact h
            have HOW : Hid (∀ W, LaAt W w.heap.size p b (tryS C y t) → Calls Try.prog 9 #[.pointer (some ⟨p, 0, none⟩), .agg #[.int .u8 (z / 18446744073709551616), .int .u64 (z % 18446744073709551616)]] W fun x w' => x = .returned (.tuple #[.int .i64 tk, .bool true]) ∧ Below W.heap.size W w') := fun W h => by
              have h := owner_any w.heap.size p b _ z W h hz
              rw [e2, e3] at h
              exact h
            have HE2 := Lib.hid e2
            have HE3 := Lib.hid e3
            have HLEN : Hid ((tryS C y t).length ≤ k + 1) := by have h2 : (tryS C y t).length ≤ C.length + 1 := do_len C (false, y, t); show _ ≤ _; omega
            have qe : ∀ W, (binOp BinOp.eql 27 (.agg #[.int .u8 (y / 18446744073709551616), .int .u64 (y % 18446744073709551616)]) (.agg #[.int .u8 (z / 18446744073709551616), .int .u64 (z % 18446744073709551616)])).run Try.prog W = .ok (.bool false) W := fun W => by rw [eq_nm]; rw [decide_eq_false hne]
            clear e1 e2 e3 HEQ hd0 
            rw [hh]
            have HHH := Lib.hid hh
            clear hh hne
            generalize tryS C y t = C2 at *
            generalize hyk : y / 18446744073709551616 = yk at *
            generalize hyi : y % 18446744073709551616 = yi at *
            generalize hzk : z / 18446744073709551616 = zk at *
            generalize hzi : z % 18446744073709551616 = zi at *
            clear hzk hzi
            clear hyk hyi
            go_wp2_with fail
            refine (HCC.out).mono ?_
            rintro x w3 ⟨rfl, ho, hg⟩
            have L3 := Lib.hid ho
            have X3 := Lib.hid (X1.out.mp O1.out hg)
            have Y3 := Lib.hid (Y1.out.mp O1.out hg)
            have HB3 := Lib.hid (O1.out.below HB1.out hg)
            have a0 := X3.out.cell 0
            have a1 := X3.out.cell 1
            have b0 := Y3.out.cell 0
            have b1 := Y3.out.cell 1
            have b2 := Y3.out.cell 2
            have b3 := Y3.out.cell 3
            simp only [List.getElem?_toArray, List.getElem?_cons_zero, List.getElem?_cons_succ] at a0 a1 b0 b1 b2 b3
            clear ho hg O1 X1 Y1 HB1 HCC x0 x1 x2 x3 i1
            go_wp2_with fail
            refine (HOW.out _ L3.out).mono ?_
            rintro x w4 ⟨rfl, hb⟩
            have L4 := Lib.hid (L3.out.later hb)
            have X4 := Lib.hid (X3.out.later hb)
            have HB4 := Lib.hid (stepB HB3.out hb)
            clear hb L3 X3 Y3 HB3 HOW a0 a1 b0 b1 b2 b3 qe
            go_wp2
            go_roundw
            case rel =>
              refine ⟨k + 1, C2, tk, by omega, ?_⟩
              and_intros
              all_goals first | exact HLEN.out | exact L4.out | exact X4.out | exact HB4.out | rfl | trivial | (intro h; exact HE3.out) | go_num | (rw [HE2.out]) | exact HE2.out | exact HE2.out.symm
            case measure => simp [intOf]; omega
          · have hh : isC C z = false := by simpa using hh
            have hd0 := do_is C (false, y, t) hne
            have e2 : isC (tryS C y t) z = false := hd0.1.trans hh
            have e3 : ofC (tryS C y t) z = 0 := hd0.2.trans (of_none0 hh)
            obtain ⟨did, e1⟩ : ∃ x, tryB C y t = x := ⟨_, rfl⟩
            have HCC : Hid (Calls Try.prog 11 #[.pointer (some ⟨p, 0, none⟩), .agg #[.int .u8 (y / 18446744073709551616), .int .u64 (y % 18446744073709551616)], .int .i64 t] (wr.alloc (.cells #[.bool false, .int .u8 (y / 18446744073709551616), .int .u64 (y % 18446744073709551616), .int .i64 t] 45)) (LEnd w.heap.size p b (tryS C y t) (.bool did) (wr.alloc (.cells #[.bool false, .int .u8 (y / 18446744073709551616), .int .u64 (y % 18446744073709551616), .int .i64 t] 45)))) := by
              have h := try_any w.heap.size p b C y t _ O1.out hy ht (by omega)
              rw [e1] at h
              exact h
            have HOW : Hid (∀ W, LaAt W w.heap.size p b (tryS C y t) → Calls Try.prog 9 #[.pointer (some ⟨p, 0, none⟩), .agg #[.int .u8 (z / 18446744073709551616), .int .u64 (z % 18446744073709551616)]] W fun x w' => x = .returned (.tuple #[.int .i64 0, .bool false]) ∧ Below W.heap.size W w') := fun W h => by
              have h := owner_any w.heap.size p b _ z W h hz
              rw [e2, e3] at h
              exact h
            have HE2 := Lib.hid e2
            have HE3 := Lib.hid e3
            have HLEN : Hid ((tryS C y t).length ≤ k + 1) := by have h2 : (tryS C y t).length ≤ C.length + 1 := do_len C (false, y, t); show _ ≤ _; omega
            have qe : ∀ W, (binOp BinOp.eql 27 (.agg #[.int .u8 (y / 18446744073709551616), .int .u64 (y % 18446744073709551616)]) (.agg #[.int .u8 (z / 18446744073709551616), .int .u64 (z % 18446744073709551616)])).run Try.prog W = .ok (.bool false) W := fun W => by rw [eq_nm]; rw [decide_eq_false hne]
            clear e1 e2 e3 HEQ hd0 
            rw [hh]
            have HHH := Lib.hid hh
            clear hh hne
            generalize tryS C y t = C2 at *
            generalize hyk : y / 18446744073709551616 = yk at *
            generalize hyi : y % 18446744073709551616 = yi at *
            generalize hzk : z / 18446744073709551616 = zk at *
            generalize hzi : z % 18446744073709551616 = zi at *
            clear hzk hzi
            clear hyk hyi
            go_wp2_with fail
            refine (HCC.out).mono ?_
            rintro x w3 ⟨rfl, ho, hg⟩
            have L3 := Lib.hid ho
            have X3 := Lib.hid (X1.out.mp O1.out hg)
            have Y3 := Lib.hid (Y1.out.mp O1.out hg)
            have HB3 := Lib.hid (O1.out.below HB1.out hg)
            have a0 := X3.out.cell 0
            have a1 := X3.out.cell 1
            have b0 := Y3.out.cell 0
            have b1 := Y3.out.cell 1
            have b2 := Y3.out.cell 2
            have b3 := Y3.out.cell 3
            simp only [List.getElem?_toArray, List.getElem?_cons_zero, List.getElem?_cons_succ] at a0 a1 b0 b1 b2 b3
            clear ho hg O1 X1 Y1 HB1 HCC x0 x1 x2 x3 i1
            go_wp2_with fail
            refine (HOW.out _ L3.out).mono ?_
            rintro x w4 ⟨rfl, hb⟩
            have L4 := Lib.hid (L3.out.later hb)
            have X4 := Lib.hid (X3.out.later hb)
            have HB4 := Lib.hid (stepB HB3.out hb)
            clear hb L3 X3 Y3 HB3 HOW a0 a1 b0 b1 b2 b3 qe
            go_wp2
            go_roundw
            case rel =>
              refine ⟨k + 1, C2, tk, by omega, ?_⟩
              and_intros
              all_goals first | exact HLEN.out | exact L4.out | exact X4.out | exact HB4.out | rfl | trivial | (intro h; (rw [HE2.out] at h; cases h)) | go_num | (rw [HE2.out]) | exact HE2.out | exact HE2.out.symm
            case measure => simp [intOf]; omega
    · obtain rfl : k = n := by omega
      have d2 : decide ((k : Int) < (k : Int)) = false := decide_eq_false (by omega)
      go_wp2
      go_ret
      exact ⟨rfl, HB0.out⟩
theorem walk (A : Option Addr) (n c : Nat) (z : Int) (S : List Stp) (w : World) (hS : Steps w.heap.size w A n S) (hz : rg z) : Calls Try.prog 5 #[.slice A n c, nmv z] w (fun e w' => e = .returned (.bool true) ∧ Below w.heap.size w w') := by
  by_cases hn : 300 < n
  · exact w_long A n c z w hn
  · exact w_main A n c z S w hS hz hn


set_option maxRecDepth 100000 in
theorem lifted (os : Os) (started : os.Started) (H : Type) (enc : TypeId × Value → H) :
    ReturnsInHanded {} Try.checked os 5 .any (Rows.latchOneSpec.pre6 enc Try.prog Try.f5 Rows.latchOneRow.domain false) (Rows.latchOneSpec.post enc Try.prog Try.f5 false true false false) := by
  refine returnsInHanded_of_change_sized (C := Try.checked) own started (by kernel_rfl) Try.func5
    (ChangeSpec.witness6 (enc := enc) (C := Try.checked) false ⟨#[], #[.slice none 0 0, .agg #[.int .u8 0, .int .u64 0]], []⟩ 8 (by kernel_rfl) (by kernel_rfl) (by kernel_rfl) (by kernel_rfl)) ?_
  intro W base args ds gs before hval0 hW _ hsz _
  have hval : ∀ (j : Nat) t v, Try.f5.params[j]? = some t → args[j]? = some v → Value.okWide Try.prog W .any base t v := hval0
  have hW' := hW
  obtain ⟨p, q, hA0, hV, hbef, _, _⟩ := hW
  have hA : DataW.TrodAll enc Try.prog W 0 (fun _ => true) true Try.f5.params.toList args.toList ds p := hA0
  rw [Try.params5] at hA hval
  obtain ⟨v0, vs0, d0, ds0, p0, q0, hargs, rfl, rfl, h0, r0⟩ := trodAll_cons hA
  obtain ⟨v1, vs1, d1, ds1, p1, q1, rfl, rfl, rfl, h1, r1⟩ := trodAll_cons r0
  obtain ⟨rfl, rfl, rfl⟩ := trodAll_nil r1
  obtain rfl : args = #[v0, v1] := by cases args; simp_all
  obtain ⟨rfl, rfl⟩ := trodVars_none hV
  obtain ⟨A0, n0, c0, S0, rfl, st0, mx0, _, _⟩ := open_steps (hval 0 38 v0 rfl rfl) h0
  obtain ⟨z1, rfl, hz1⟩ := open_nm (hval 1 27 v1 rfl rfl) h1
  refine (walk A0 n0 c0 z1 S0 W st0 hz1).mono fun e W' ⟨he, hb⟩ => ?_
  subst he
  exact ⟨_, rfl, law_post laidOut (of_decide_eq_true (by kernel_rfl)) rfl Try.underlying4 rfl rfl hW' hb⟩

theorem over : Rows.latchOneRow.holds Try.pinned (OpenSpec.ofChange Rows.latchOneSpec) :=
  OpenClaim.holds_of_wide 5 Try.f5 rfl rfl rfl rfl rfl rfl rfl ⟨rfl, rfl, rfl, rfl, rfl⟩ rfl rfl rfl rfl rfl (by kernel_rfl) Try.func5 (by kernel_rfl)
    (of_decide_eq_true (by kernel_rfl)) (by unfold Func.isWrapper; first | (rw [if_pos (by decide +kernel)]; kernel_rfl) | (rw [if_neg (by decide +kernel)]; exact ⟨rfl, rfl⟩))
    (fun os started H enc _ => lifted os started H enc)

end Go.Proofs.Ytgjponobiplipaa.latchOne
namespace Go.Proofs.Ytgjponobiplipaa
theorem latchOne_holds : Rows.LatchOneSaid := latchOne.over
end Go.Proofs.Ytgjponobiplipaa
