/-
What answers no changes nothing; what is done to one latch changes no other one. For any steps, any step.
-/
import Derived.Test.YtgjponobiplipaaQ2
import Derived.Test.YtgjponobiplipaaRows
import Derived.Deep.LoopGhost
namespace Go.Proofs.Ytgjponobiplipaa.latchOthers
open Go.ChangeShapes Go.WideShapes Go.ChangeAt Go.RowKit Go.Maps
set_option linter.unusedVariables false
set_option linter.unusedSimpArgs false

theorem own : ownKnob Try.prog.godebug = none := by kernel_rfl
theorem laidOut : laidOutB Try.prog = true := by kernel_rfl

set_option maxRecDepth 100000 in
set_option maxHeartbeats 4000000 in
theorem w_long (A : Option Addr) (n c : Nat) (s : Stp) (w : World) (hn : 300 < n) : Calls Try.prog 6 #[.slice A n c, .agg #[.bool s.1, .int .u8 (s.2.1 / 18446744073709551616), .int .u64 (s.2.1 % 18446744073709551616), .int .i64 s.2.2]] w (fun e w' => e = .returned (.bool true) ∧ Below w.heap.size w w') := by
  have d1 : decide ((300 : Int) < (n : Int)) = true := decide_eq_true (by omega)
  have HB0 : Hid (Below w.heap.size w (w.alloc (.cells #[.bool s.1, .int .u8 (s.2.1 / 18446744073709551616), .int .u64 (s.2.1 % 18446744073709551616), .int .i64 s.2.2] 45))) := (Below.refl _ _).alloc (Nat.le_refl _) _
  go_enter Try.func6, Try.ntmps6
  go_wp2_with fail
  refine (awake_any _).mono ?_
  rintro x w1 ⟨rfl, hb⟩
  have HB1 := Lib.hid (stepB HB0.out hb)
  clear hb HB0
  go_wp2
  go_ret
  exact ⟨rfl, HB1.out⟩
set_option maxRecDepth 100000 in
set_option maxHeartbeats 16000000 in
theorem w_main (A : Option Addr) (n c : Nat) (s : Stp) (S : List Stp) (w : World) (hS : Steps w.heap.size w A n S) (hs : StpOk s) (hn : ¬ 300 < n) : Calls Try.prog 6 #[.slice A n c, .agg #[.bool s.1, .int .u8 (s.2.1 / 18446744073709551616), .int .u64 (s.2.1 % 18446744073709551616), .int .i64 s.2.2]] w (fun e w' => e = .returned (.bool true) ∧ Below w.heap.size w w') := by
  have d1 : decide ((300 : Int) < (n : Int)) = false := decide_eq_false (by omega)
  have HS := Lib.hid hS
  obtain ⟨d, z, t⟩ := s
  have hz : rg z := hs.1
  have ht : (Lit.int .i64 t).wf = true := hs.2
  simp only
  have hb0 : Below w.heap.size w (w.alloc (.cells #[.bool d, .int .u8 (z / 18446744073709551616), .int .u64 (z % 18446744073709551616), .int .i64 t] 45)) := (Below.refl _ _).alloc (Nat.le_refl _) _
  have HB0 := Lib.hid hb0
  have HX0 := Lib.hid (Blk.new w #[.bool d, .int .u8 (z / 18446744073709551616), .int .u64 (z % 18446744073709551616), .int .i64 t] 45)
  clear hS hb0 hs
  go_enter Try.func6, Try.ntmps6
  go_wp2_with fail
  refine (awake_any _).mono ?_
  rintro x w1 ⟨rfl, hb⟩
  have HB1 := Lib.hid (stepB HB0.out hb)
  have HX1 := Lib.hid (HX0.out.later hb)
  clear hb HB0 HX0
  go_wp2_with fail
  refine (run_any A n c S w1 ((HS.out.below HB1.out).mono HB1.out.size) (by omega)).mono ?_
  rintro x w2 ⟨p, b, rfl, ho, hb⟩
  have P2 := Lib.hid (ho.base HB1.out.size)
  have X2 := Lib.hid (HX1.out.later hb)
  have HB2 := Lib.hid (stepB HB1.out hb)
  clear ho hb HB1 HX1
  go_wp2_with fail
  refine (run_any A n c S w2 ((HS.out.below HB2.out).mono HB2.out.size) (by omega)).mono ?_
  rintro x w3 ⟨p2, b2, rfl, ho, hb⟩
  have HNE : Hid (b2 ≠ b) := by have h1 := ho.own.1; have h2 := P2.out.blt; show b2 ≠ b; omega
  have P3 := Lib.hid (P2.out.later hb)
  have Q3 := Lib.hid (ho.base HB2.out.size)
  have X3 := Lib.hid (X2.out.later hb)
  have HB3 := Lib.hid (stepB HB2.out hb)
  have hCl : (runC S [] n).length ≤ n := by have := run_len S [] n; simpa using this
  generalize runC S [] n = C at *
  clear ho hb HB2 X2 P2
  have s0 := X3.out.cell 0
  have s1 := X3.out.cell 1
  have s2 := X3.out.cell 2
  have s3 := X3.out.cell 3
  simp only [List.getElem?_toArray, List.getElem?_cons_zero, List.getElem?_cons_succ] at s0 s1 s2 s3
  cases d with
  | true =>
    obtain ⟨C2, hC2⟩ : ∃ X, doC C (true, z, t) = X := ⟨_, rfl⟩
    have HCC0 : Hid (∀ v, doB C (true, z, t) = v → Calls Try.prog 12 #[.pointer (some ⟨p2, 0, none⟩), .agg #[.int .u8 (z / 18446744073709551616), .int .u64 (z % 18446744073709551616)], .int .i64 t] w3 (LEnd w.heap.size p2 b2 C2 (.bool v) w3)) := fun v hv => by
      have h := do_any w.heap.size p2 b2 C (true, z, t) w3 Q3.out ⟨hz, ht⟩ (by omega)
      rw [hC2, hv] at h
      exact h
    by_cases hdid : doB C (true, z, t) = true
    · have HCC := Lib.hid (HCC0.out _ hdid)
      clear HCC0
      have HDN : Hid (∀ y, y ≠ z → isC C2 y = isC C y ∧ ofC C2 y = ofC C y) := fun y hy => by
        have h := do_is C (true, z, t) (z := y) (fun e => hy e.symm); rw [hC2] at h; exact h
      have HIS : Hid (isC C2 z = false) := by have h := do_yes hdid; rw [hC2] at h; exact h
      have HC2 := Lib.hid hC2
      clear hC2 hdid
      go_wp2_with fail
      refine (HCC.out).mono ?_
      rintro x w4 ⟨rfl, ho, hg⟩
      have P4 := Lib.hid (P3.out.other Q3.out hg (fun e => HNE.out e.symm))
      have X4 := Lib.hid (X3.out.mp Q3.out hg)
      have HB4 := Lib.hid (Q3.out.below HB3.out hg)
      have Q4 := Lib.hid ho
      clear ho hg P3 X3 HB3 Q3 HCC s0 s1 s2 s3
      go_wp2
      go_loopw [8] (fun i wr => ∃ k : Nat, k ≤ n ∧ i = .int .i64 k ∧ Below w4.heap.size w4 wr) (fun i _ => n - (intOf i).toNat)
      case atStart => exact ⟨0, Nat.zero_le _, rfl, Below.refl _ _⟩
      case round =>
        obtain ⟨k, hk, rfl, hb⟩ := hrel
        have P5 := Lib.hid (P4.out.later hb)
        have Q5 := Lib.hid (Q4.out.later hb)
        have X5 := Lib.hid (X4.out.later hb)
        have HB5 := Lib.hid hb
        have HBW := Lib.hid (stepB HB4.out hb)
        clear hb
        by_cases hlt : k < n
        · have d2 : decide ((k : Int) < (n : Int)) = true := decide_eq_true (by omega)
          have wk : IntKind.i64.wrap ((k : Int) + 1) = (k : Int) + 1 := IntWalk.i64_in _ (by omega)
          obtain ⟨g, off, rfl, hg, hcell⟩ := (HS.out.below HBW.out).2 (by omega)
          have i1 := sindex g off n c k (k : Int) rfl hlt
          obtain ⟨hc, hok⟩ := hcell k hlt
          obtain ⟨⟨dd, y, ty⟩, hx⟩ : ∃ x, S.getD k stp0 = x := ⟨_, rfl⟩
          rw [hx] at hc hok
          have HCL := Lib.hid hc
          obtain ⟨x0, x1, x2, x3⟩ := hc
          have hy : rg y := hok.1
          simp only at x0 x1 x2 x3
          have KC : Hid (∀ W, Below wr.heap.size wr W → W.cell? ⟨g, off + k * 4 + 1, none⟩ = some (.int .u8 (y / 18446744073709551616)) ∧ W.cell? ⟨g, off + k * 4 + 2, none⟩ = some (.int .u64 (y % 18446744073709551616))) := fun W hb => ⟨(hb.cell (p := ⟨g, off + k * 4 + 1, none⟩) (lt_of_cell x1)).trans x1, (hb.cell (p := ⟨g, off + k * 4 + 2, none⟩) (lt_of_cell x2)).trans x2⟩
          have HO1 : Hid (∀ W, LaAt W w.heap.size p b C → Calls Try.prog 9 #[.pointer (some ⟨p, 0, none⟩), .agg #[.int .u8 (y / 18446744073709551616), .int .u64 (y % 18446744073709551616)]] W fun x w' => x = .returned (.tuple #[.int .i64 (ofC C y), .bool (isC C y)]) ∧ Below W.heap.size W w') := fun W h => owner_any w.heap.size p b _ y W h hy
          have HO2 : Hid (∀ W, LaAt W w.heap.size p2 b2 C2 → Calls Try.prog 9 #[.pointer (some ⟨p2, 0, none⟩), .agg #[.int .u8 (y / 18446744073709551616), .int .u64 (y % 18446744073709551616)]] W fun x w' => x = .returned (.tuple #[.int .i64 (ofC C2 y), .bool (isC C2 y)]) ∧ Below W.heap.size W w') := fun W h => owner_any w.heap.size p2 b2 _ y W h hy
          clear hcell hx hg hok HCL
          by_cases hyz : y = z
          · subst hyz
            generalize ofC C2 y = o2 at *
            generalize isC C2 y = i2 at *
            have qe : ∀ W, (binOp BinOp.neq 27 (.agg #[.int .u8 (y / 18446744073709551616), .int .u64 (y % 18446744073709551616)]) (.agg #[.int .u8 (y / 18446744073709551616), .int .u64 (y % 18446744073709551616)])).run Try.prog W = .ok (.bool false) W := fun W => by rw [ne_nm]; simp
            have s1 := X5.out.cell 1
            have s2 := X5.out.cell 2
            simp only [List.getElem?_toArray, List.getElem?_cons_zero, List.getElem?_cons_succ] at s1 s2
            generalize ofC C y = oy at *
            generalize isC C y = iy at *
            generalize hyk : y / 18446744073709551616 = yk at *
            generalize hyi : y % 18446744073709551616 = yi at *
            clear hyk hyi
            go_wp2_with fail
            refine (HO1.out _ P5.out).mono ?_
            rintro x w6 ⟨rfl, hb⟩
            have P6 := Lib.hid (P5.out.later hb)
            have Q6 := Lib.hid (Q5.out.later hb)
            have X6 := Lib.hid (X5.out.later hb)
            have HB6 := Lib.hid (stepB HB5.out hb)
            obtain ⟨x1', x2'⟩ := KC.out _ hb
            have HBK := Lib.hid hb
            clear hb P5 X5 HB5 HO1 s1 s2 x0 x1 x2 x3
            go_wp2_with fail
            refine (HO2.out _ Q6.out).mono ?_
            rintro x w7 ⟨rfl, hb⟩
            have X7 := Lib.hid (X6.out.later hb)
            have HB7 := Lib.hid (stepB HB6.out hb)
            obtain ⟨x1, x2⟩ := KC.out _ (stepB HBK.out hb)
            have s1 := X7.out.cell 1
            have s2 := X7.out.cell 2
            simp only [List.getElem?_toArray, List.getElem?_cons_zero, List.getElem?_cons_succ] at s1 s2
            clear hb P6 Q6 X6 HB6 HO2 x1' x2' HBK KC
            go_wp2
            go_quiet (fail)
            clear s1 s2 x1 x2 qe i1
            go_wp2
            go_roundw
            case rel => exact ⟨k + 1, by omega, by go_num, below_drewN HB7.out nq⟩
            case measure => simp [intOf]; omega
          ·
            have hdn := HDN.out y hyz
            rw [hdn.1, hdn.2] at HO2
            clear hdn
            have da : (ofC C y != ofC C y) = false := by simp
            have db : (isC C y != isC C y) = false := by simp
            have qe : ∀ W, (binOp BinOp.neq 27 (.agg #[.int .u8 (y / 18446744073709551616), .int .u64 (y % 18446744073709551616)]) (.agg #[.int .u8 (z / 18446744073709551616), .int .u64 (z % 18446744073709551616)])).run Try.prog W = .ok (.bool true) W := fun W => by rw [ne_nm]; rw [decide_eq_false hyz]; rfl
            have s1 := X5.out.cell 1
            have s2 := X5.out.cell 2
            simp only [List.getElem?_toArray, List.getElem?_cons_zero, List.getElem?_cons_succ] at s1 s2
            generalize ofC C y = oy at *
            generalize isC C y = iy at *
            generalize hyk : y / 18446744073709551616 = yk at *
            generalize hyi : y % 18446744073709551616 = yi at *
            clear hyk hyi
            generalize hzk : z / 18446744073709551616 = zk at *
            generalize hzi : z % 18446744073709551616 = zi at *
            clear hzk hzi hyz
            go_wp2_with fail
            refine (HO1.out _ P5.out).mono ?_
            rintro x w6 ⟨rfl, hb⟩
            have P6 := Lib.hid (P5.out.later hb)
            have Q6 := Lib.hid (Q5.out.later hb)
            have X6 := Lib.hid (X5.out.later hb)
            have HB6 := Lib.hid (stepB HB5.out hb)
            obtain ⟨x1', x2'⟩ := KC.out _ hb
            have HBK := Lib.hid hb
            clear hb P5 X5 HB5 HO1 s1 s2 x0 x1 x2 x3
            go_wp2_with fail
            refine (HO2.out _ Q6.out).mono ?_
            rintro x w7 ⟨rfl, hb⟩
            have X7 := Lib.hid (X6.out.later hb)
            have HB7 := Lib.hid (stepB HB6.out hb)
            obtain ⟨x1, x2⟩ := KC.out _ (stepB HBK.out hb)
            have s1 := X7.out.cell 1
            have s2 := X7.out.cell 2
            simp only [List.getElem?_toArray, List.getElem?_cons_zero, List.getElem?_cons_succ] at s1 s2
            clear hb P6 Q6 X6 HB6 HO2 x1' x2' HBK KC
            go_wp2
            go_quiet (fail)
            clear s1 s2 x1 x2 qe i1
            go_wp2
            go_roundw
            case rel => exact ⟨k + 1, by omega, by go_num, below_drewN HB7.out nq⟩
            case measure => simp [intOf]; omega
        · obtain rfl : k = n := by omega
          have d2 : decide ((k : Int) < (k : Int)) = false := decide_eq_false (by omega)
          have HOW : Hid (∀ W, LaAt W w.heap.size p2 b2 C2 → Calls Try.prog 9 #[.pointer (some ⟨p2, 0, none⟩), .agg #[.int .u8 (z / 18446744073709551616), .int .u64 (z % 18446744073709551616)]] W fun x w' => x = .returned (.tuple #[.int .i64 (ofC C2 z), .bool (isC C2 z)]) ∧ Below W.heap.size W w') := fun W h => owner_any w.heap.size p2 b2 _ z W h hz
          have s0 := X5.out.cell 0
          have s1 := X5.out.cell 1
          have s2 := X5.out.cell 2
          simp only [List.getElem?_toArray, List.getElem?_cons_zero, List.getElem?_cons_succ] at s0 s1 s2
          have his := HIS.out
          rw [his] at HOW
          clear P4 Q4 X4 HB4 his
          generalize ofC C2 z = oz at *
          skip
          generalize z / 18446744073709551616 = zk at *
          generalize z % 18446744073709551616 = zi at *
          go_wp2_with fail
          refine (HOW.out _ Q5.out).mono ?_
          rintro x w6 ⟨rfl, hb⟩
          have P6 := Lib.hid (P5.out.later hb)
          have Q6 := Lib.hid (Q5.out.later hb)
          have X6 := Lib.hid (X5.out.later hb)
          have HB6 := Lib.hid (stepB HBW.out hb)
          have s0' := X6.out.cell 0
          simp only [List.getElem?_toArray, List.getElem?_cons_zero] at s0'
          clear hb P5 Q5 X5 HB5 HBW HOW s0 s1 s2
          go_wp2
          go_ret
          exact ⟨rfl, HB6.out⟩
    · have hdid : doB C (true, z, t) = false := by simpa using hdid
      have HCC := Lib.hid (HCC0.out _ hdid)
      clear HCC0
      have HDN : Hid (∀ y, isC C2 y = isC C y ∧ ofC C2 y = ofC C y) := fun y => by
        rw [← hC2, do_no hdid]; exact ⟨rfl, rfl⟩
      have HLN : Hid (C2.length = C.length) := by show _ = _; rw [← hC2, do_no hdid]
      have HC2 := Lib.hid hC2
      clear hC2 hdid
      go_wp2_with fail
      refine (HCC.out).mono ?_
      rintro x w4 ⟨rfl, ho, hg⟩
      have P4 := Lib.hid (P3.out.other Q3.out hg (fun e => HNE.out e.symm))
      have X4 := Lib.hid (X3.out.mp Q3.out hg)
      have HB4 := Lib.hid (Q3.out.below HB3.out hg)
      have Q4 := Lib.hid ho
      clear ho hg P3 X3 HB3 Q3 HCC s0 s1 s2 s3
      go_wp2
      go_loopw [8] (fun i wr => ∃ k : Nat, k ≤ n ∧ i = .int .i64 k ∧ Below w4.heap.size w4 wr) (fun i _ => n - (intOf i).toNat)
      case atStart => exact ⟨0, Nat.zero_le _, rfl, Below.refl _ _⟩
      case round =>
        obtain ⟨k, hk, rfl, hb⟩ := hrel
        have P5 := Lib.hid (P4.out.later hb)
        have Q5 := Lib.hid (Q4.out.later hb)
        have X5 := Lib.hid (X4.out.later hb)
        have HB5 := Lib.hid hb
        have HBW := Lib.hid (stepB HB4.out hb)
        clear hb
        by_cases hlt : k < n
        · have d2 : decide ((k : Int) < (n : Int)) = true := decide_eq_true (by omega)
          have wk : IntKind.i64.wrap ((k : Int) + 1) = (k : Int) + 1 := IntWalk.i64_in _ (by omega)
          obtain ⟨g, off, rfl, hg, hcell⟩ := (HS.out.below HBW.out).2 (by omega)
          have i1 := sindex g off n c k (k : Int) rfl hlt
          obtain ⟨hc, hok⟩ := hcell k hlt
          obtain ⟨⟨dd, y, ty⟩, hx⟩ : ∃ x, S.getD k stp0 = x := ⟨_, rfl⟩
          rw [hx] at hc hok
          have HCL := Lib.hid hc
          obtain ⟨x0, x1, x2, x3⟩ := hc
          have hy : rg y := hok.1
          simp only at x0 x1 x2 x3
          have KC : Hid (∀ W, Below wr.heap.size wr W → W.cell? ⟨g, off + k * 4 + 1, none⟩ = some (.int .u8 (y / 18446744073709551616)) ∧ W.cell? ⟨g, off + k * 4 + 2, none⟩ = some (.int .u64 (y % 18446744073709551616))) := fun W hb => ⟨(hb.cell (p := ⟨g, off + k * 4 + 1, none⟩) (lt_of_cell x1)).trans x1, (hb.cell (p := ⟨g, off + k * 4 + 2, none⟩) (lt_of_cell x2)).trans x2⟩
          have HO1 : Hid (∀ W, LaAt W w.heap.size p b C → Calls Try.prog 9 #[.pointer (some ⟨p, 0, none⟩), .agg #[.int .u8 (y / 18446744073709551616), .int .u64 (y % 18446744073709551616)]] W fun x w' => x = .returned (.tuple #[.int .i64 (ofC C y), .bool (isC C y)]) ∧ Below W.heap.size W w') := fun W h => owner_any w.heap.size p b _ y W h hy
          have HO2 : Hid (∀ W, LaAt W w.heap.size p2 b2 C2 → Calls Try.prog 9 #[.pointer (some ⟨p2, 0, none⟩), .agg #[.int .u8 (y / 18446744073709551616), .int .u64 (y % 18446744073709551616)]] W fun x w' => x = .returned (.tuple #[.int .i64 (ofC C2 y), .bool (isC C2 y)]) ∧ Below W.heap.size W w') := fun W h => owner_any w.heap.size p2 b2 _ y W h hy
          clear hcell hx hg hok HCL
          by_cases hyz : y = z
          · subst hyz
            have hdn := HDN.out y
            rw [hdn.1, hdn.2] at HO2
            clear hdn
            have da : (ofC C y != ofC C y) = false := by simp
            have db : (isC C y != isC C y) = false := by simp
            have qe : ∀ W, (binOp BinOp.neq 27 (.agg #[.int .u8 (y / 18446744073709551616), .int .u64 (y % 18446744073709551616)]) (.agg #[.int .u8 (y / 18446744073709551616), .int .u64 (y % 18446744073709551616)])).run Try.prog W = .ok (.bool false) W := fun W => by rw [ne_nm]; simp
            have s1 := X5.out.cell 1
            have s2 := X5.out.cell 2
            simp only [List.getElem?_toArray, List.getElem?_cons_zero, List.getElem?_cons_succ] at s1 s2
            generalize ofC C y = oy at *
            generalize isC C y = iy at *
            generalize hyk : y / 18446744073709551616 = yk at *
            generalize hyi : y % 18446744073709551616 = yi at *
            clear hyk hyi
            go_wp2_with fail
            refine (HO1.out _ P5.out).mono ?_
            rintro x w6 ⟨rfl, hb⟩
            have P6 := Lib.hid (P5.out.later hb)
            have Q6 := Lib.hid (Q5.out.later hb)
            have X6 := Lib.hid (X5.out.later hb)
            have HB6 := Lib.hid (stepB HB5.out hb)
            obtain ⟨x1', x2'⟩ := KC.out _ hb
            have HBK := Lib.hid hb
            clear hb P5 X5 HB5 HO1 s1 s2 x0 x1 x2 x3
            go_wp2_with fail
            refine (HO2.out _ Q6.out).mono ?_
            rintro x w7 ⟨rfl, hb⟩
            have X7 := Lib.hid (X6.out.later hb)
            have HB7 := Lib.hid (stepB HB6.out hb)
            obtain ⟨x1, x2⟩ := KC.out _ (stepB HBK.out hb)
            have s1 := X7.out.cell 1
            have s2 := X7.out.cell 2
            simp only [List.getElem?_toArray, List.getElem?_cons_zero, List.getElem?_cons_succ] at s1 s2
            clear hb P6 Q6 X6 HB6 HO2 x1' x2' HBK KC
            go_wp2
            go_quiet (fail)
            clear s1 s2 x1 x2 qe i1
            go_wp2
            go_roundw
            case rel => exact ⟨k + 1, by omega, by go_num, below_drewN HB7.out nq⟩
            case measure => simp [intOf]; omega
          ·
            have hdn := HDN.out y
            rw [hdn.1, hdn.2] at HO2
            clear hdn
            have da : (ofC C y != ofC C y) = false := by simp
            have db : (isC C y != isC C y) = false := by simp
            have qe : ∀ W, (binOp BinOp.neq 27 (.agg #[.int .u8 (y / 18446744073709551616), .int .u64 (y % 18446744073709551616)]) (.agg #[.int .u8 (z / 18446744073709551616), .int .u64 (z % 18446744073709551616)])).run Try.prog W = .ok (.bool true) W := fun W => by rw [ne_nm]; rw [decide_eq_false hyz]; rfl
            have s1 := X5.out.cell 1
            have s2 := X5.out.cell 2
            simp only [List.getElem?_toArray, List.getElem?_cons_zero, List.getElem?_cons_succ] at s1 s2
            generalize ofC C y = oy at *
            generalize isC C y = iy at *
            generalize hyk : y / 18446744073709551616 = yk at *
            generalize hyi : y % 18446744073709551616 = yi at *
            clear hyk hyi
            generalize hzk : z / 18446744073709551616 = zk at *
            generalize hzi : z % 18446744073709551616 = zi at *
            clear hzk hzi hyz
            go_wp2_with fail
            refine (HO1.out _ P5.out).mono ?_
            rintro x w6 ⟨rfl, hb⟩
            have P6 := Lib.hid (P5.out.later hb)
            have Q6 := Lib.hid (Q5.out.later hb)
            have X6 := Lib.hid (X5.out.later hb)
            have HB6 := Lib.hid (stepB HB5.out hb)
            obtain ⟨x1', x2'⟩ := KC.out _ hb
            have HBK := Lib.hid hb
            clear hb P5 X5 HB5 HO1 s1 s2 x0 x1 x2 x3
            go_wp2_with fail
            refine (HO2.out _ Q6.out).mono ?_
            rintro x w7 ⟨rfl, hb⟩
            have X7 := Lib.hid (X6.out.later hb)
            have HB7 := Lib.hid (stepB HB6.out hb)
            obtain ⟨x1, x2⟩ := KC.out _ (stepB HBK.out hb)
            have s1 := X7.out.cell 1
            have s2 := X7.out.cell 2
            simp only [List.getElem?_toArray, List.getElem?_cons_zero, List.getElem?_cons_succ] at s1 s2
            clear hb P6 Q6 X6 HB6 HO2 x1' x2' HBK KC
            go_wp2
            go_quiet (fail)
            clear s1 s2 x1 x2 qe i1
            go_wp2
            go_roundw
            case rel => exact ⟨k + 1, by omega, by go_num, below_drewN HB7.out nq⟩
            case measure => simp [intOf]; omega
        · obtain rfl : k = n := by omega
          have d2 : decide ((k : Int) < (k : Int)) = false := decide_eq_false (by omega)
          have HOW : Hid (∀ W, LaAt W w.heap.size p2 b2 C2 → Calls Try.prog 9 #[.pointer (some ⟨p2, 0, none⟩), .agg #[.int .u8 (z / 18446744073709551616), .int .u64 (z % 18446744073709551616)]] W fun x w' => x = .returned (.tuple #[.int .i64 (ofC C2 z), .bool (isC C2 z)]) ∧ Below W.heap.size W w') := fun W h => owner_any w.heap.size p2 b2 _ z W h hz
          have s0 := X5.out.cell 0
          have s1 := X5.out.cell 1
          have s2 := X5.out.cell 2
          simp only [List.getElem?_toArray, List.getElem?_cons_zero, List.getElem?_cons_succ] at s0 s1 s2
          skip
          skip
          clear P4 Q4 X4 HB4 
          generalize ofC C2 z = oz at *
          generalize isC C2 z = iz at *
          generalize z / 18446744073709551616 = zk at *
          generalize z % 18446744073709551616 = zi at *
          go_wp2_with fail
          refine (HOW.out _ Q5.out).mono ?_
          rintro x w6 ⟨rfl, hb⟩
          have P6 := Lib.hid (P5.out.later hb)
          have Q6 := Lib.hid (Q5.out.later hb)
          have X6 := Lib.hid (X5.out.later hb)
          have HB6 := Lib.hid (stepB HBW.out hb)
          have s0' := X6.out.cell 0
          simp only [List.getElem?_toArray, List.getElem?_cons_zero] at s0'
          clear hb P5 Q5 X5 HB5 HBW HOW s0 s1 s2
          go_wp2_with fail
          refine (all_any w.heap.size p b C _ P6.out).mono ?_
          rintro x _ ⟨rfl, rfl⟩
          go_wp2_with fail
          refine (all_any w.heap.size p2 b2 C2 _ Q6.out).mono ?_
          rintro x _ ⟨rfl, rfl⟩
          rw [HLN.out]
          have dl : ((C.length : Int) == (C.length : Int)) = true := by simp
          go_wp2
          go_ret
          exact ⟨rfl, HB6.out⟩
  | false =>
    obtain ⟨C2, hC2⟩ : ∃ X, doC C (false, z, t) = X := ⟨_, rfl⟩
    have HCC0 : Hid (∀ v, doB C (false, z, t) = v → Calls Try.prog 11 #[.pointer (some ⟨p2, 0, none⟩), .agg #[.int .u8 (z / 18446744073709551616), .int .u64 (z % 18446744073709551616)], .int .i64 t] w3 (LEnd w.heap.size p2 b2 C2 (.bool v) w3)) := fun v hv => by
      have h := do_any w.heap.size p2 b2 C (false, z, t) w3 Q3.out ⟨hz, ht⟩ (by omega)
      rw [hC2, hv] at h
      exact h
    by_cases hdid : doB C (false, z, t) = true
    · have HCC := Lib.hid (HCC0.out _ hdid)
      clear HCC0
      have HDN : Hid (∀ y, y ≠ z → isC C2 y = isC C y ∧ ofC C2 y = ofC C y) := fun y hy => by
        have h := do_is C (false, z, t) (z := y) (fun e => hy e.symm); rw [hC2] at h; exact h
      have HIS : Hid (isC C2 z = true) := by have h := do_yes hdid; rw [hC2] at h; exact h
      have HC2 := Lib.hid hC2
      clear hC2 hdid
      go_wp2_with fail
      refine (HCC.out).mono ?_
      rintro x w4 ⟨rfl, ho, hg⟩
      have P4 := Lib.hid (P3.out.other Q3.out hg (fun e => HNE.out e.symm))
      have X4 := Lib.hid (X3.out.mp Q3.out hg)
      have HB4 := Lib.hid (Q3.out.below HB3.out hg)
      have Q4 := Lib.hid ho
      clear ho hg P3 X3 HB3 Q3 HCC s0 s1 s2 s3
      go_wp2
      go_loopw [8] (fun i wr => ∃ k : Nat, k ≤ n ∧ i = .int .i64 k ∧ Below w4.heap.size w4 wr) (fun i _ => n - (intOf i).toNat)
      case atStart => exact ⟨0, Nat.zero_le _, rfl, Below.refl _ _⟩
      case round =>
        obtain ⟨k, hk, rfl, hb⟩ := hrel
        have P5 := Lib.hid (P4.out.later hb)
        have Q5 := Lib.hid (Q4.out.later hb)
        have X5 := Lib.hid (X4.out.later hb)
        have HB5 := Lib.hid hb
        have HBW := Lib.hid (stepB HB4.out hb)
        clear hb
        by_cases hlt : k < n
        · have d2 : decide ((k : Int) < (n : Int)) = true := decide_eq_true (by omega)
          have wk : IntKind.i64.wrap ((k : Int) + 1) = (k : Int) + 1 := IntWalk.i64_in _ (by omega)
          obtain ⟨g, off, rfl, hg, hcell⟩ := (HS.out.below HBW.out).2 (by omega)
          have i1 := sindex g off n c k (k : Int) rfl hlt
          obtain ⟨hc, hok⟩ := hcell k hlt
          obtain ⟨⟨dd, y, ty⟩, hx⟩ : ∃ x, S.getD k stp0 = x := ⟨_, rfl⟩
          rw [hx] at hc hok
          have HCL := Lib.hid hc
          obtain ⟨x0, x1, x2, x3⟩ := hc
          have hy : rg y := hok.1
          simp only at x0 x1 x2 x3
          have KC : Hid (∀ W, Below wr.heap.size wr W → W.cell? ⟨g, off + k * 4 + 1, none⟩ = some (.int .u8 (y / 18446744073709551616)) ∧ W.cell? ⟨g, off + k * 4 + 2, none⟩ = some (.int .u64 (y % 18446744073709551616))) := fun W hb => ⟨(hb.cell (p := ⟨g, off + k * 4 + 1, none⟩) (lt_of_cell x1)).trans x1, (hb.cell (p := ⟨g, off + k * 4 + 2, none⟩) (lt_of_cell x2)).trans x2⟩
          have HO1 : Hid (∀ W, LaAt W w.heap.size p b C → Calls Try.prog 9 #[.pointer (some ⟨p, 0, none⟩), .agg #[.int .u8 (y / 18446744073709551616), .int .u64 (y % 18446744073709551616)]] W fun x w' => x = .returned (.tuple #[.int .i64 (ofC C y), .bool (isC C y)]) ∧ Below W.heap.size W w') := fun W h => owner_any w.heap.size p b _ y W h hy
          have HO2 : Hid (∀ W, LaAt W w.heap.size p2 b2 C2 → Calls Try.prog 9 #[.pointer (some ⟨p2, 0, none⟩), .agg #[.int .u8 (y / 18446744073709551616), .int .u64 (y % 18446744073709551616)]] W fun x w' => x = .returned (.tuple #[.int .i64 (ofC C2 y), .bool (isC C2 y)]) ∧ Below W.heap.size W w') := fun W h => owner_any w.heap.size p2 b2 _ y W h hy
          clear hcell hx hg hok HCL
          by_cases hyz : y = z
          · subst hyz
            generalize ofC C2 y = o2 at *
            generalize isC C2 y = i2 at *
            have qe : ∀ W, (binOp BinOp.neq 27 (.agg #[.int .u8 (y / 18446744073709551616), .int .u64 (y % 18446744073709551616)]) (.agg #[.int .u8 (y / 18446744073709551616), .int .u64 (y % 18446744073709551616)])).run Try.prog W = .ok (.bool false) W := fun W => by rw [ne_nm]; simp
            have s1 := X5.out.cell 1
            have s2 := X5.out.cell 2
            simp only [List.getElem?_toArray, List.getElem?_cons_zero, List.getElem?_cons_succ] at s1 s2
            generalize ofC C y = oy at *
            generalize isC C y = iy at *
            generalize hyk : y / 18446744073709551616 = yk at *
            generalize hyi : y % 18446744073709551616 = yi at *
            clear hyk hyi
            go_wp2_with fail
            refine (HO1.out _ P5.out).mono ?_
            rintro x w6 ⟨rfl, hb⟩
            have P6 := Lib.hid (P5.out.later hb)
            have Q6 := Lib.hid (Q5.out.later hb)
            have X6 := Lib.hid (X5.out.later hb)
            have HB6 := Lib.hid (stepB HB5.out hb)
            obtain ⟨x1', x2'⟩ := KC.out _ hb
            have HBK := Lib.hid hb
            clear hb P5 X5 HB5 HO1 s1 s2 x0 x1 x2 x3
            go_wp2_with fail
            refine (HO2.out _ Q6.out).mono ?_
            rintro x w7 ⟨rfl, hb⟩
            have X7 := Lib.hid (X6.out.later hb)
            have HB7 := Lib.hid (stepB HB6.out hb)
            obtain ⟨x1, x2⟩ := KC.out _ (stepB HBK.out hb)
            have s1 := X7.out.cell 1
            have s2 := X7.out.cell 2
            simp only [List.getElem?_toArray, List.getElem?_cons_zero, List.getElem?_cons_succ] at s1 s2
            clear hb P6 Q6 X6 HB6 HO2 x1' x2' HBK KC
            go_wp2
            go_quiet (fail)
            clear s1 s2 x1 x2 qe i1
            go_wp2
            go_roundw
            case rel => exact ⟨k + 1, by omega, by go_num, below_drewN HB7.out nq⟩
            case measure => simp [intOf]; omega
          ·
            have hdn := HDN.out y hyz
            rw [hdn.1, hdn.2] at HO2
            clear hdn
            have da : (ofC C y != ofC C y) = false := by simp
            have db : (isC C y != isC C y) = false := by simp
            have qe : ∀ W, (binOp BinOp.neq 27 (.agg #[.int .u8 (y / 18446744073709551616), .int .u64 (y % 18446744073709551616)]) (.agg #[.int .u8 (z / 18446744073709551616), .int .u64 (z % 18446744073709551616)])).run Try.prog W = .ok (.bool true) W := fun W => by rw [ne_nm]; rw [decide_eq_false hyz]; rfl
            have s1 := X5.out.cell 1
            have s2 := X5.out.cell 2
            simp only [List.getElem?_toArray, List.getElem?_cons_zero, List.getElem?_cons_succ] at s1 s2
            generalize ofC C y = oy at *
            generalize isC C y = iy at *
            generalize hyk : y / 18446744073709551616 = yk at *
            generalize hyi : y % 18446744073709551616 = yi at *
            clear hyk hyi
            generalize hzk : z / 18446744073709551616 = zk at *
            generalize hzi : z % 18446744073709551616 = zi at *
            clear hzk hzi hyz
            go_wp2_with fail
            refine (HO1.out _ P5.out).mono ?_
            rintro x w6 ⟨rfl, hb⟩
            have P6 := Lib.hid (P5.out.later hb)
            have Q6 := Lib.hid (Q5.out.later hb)
            have X6 := Lib.hid (X5.out.later hb)
            have HB6 := Lib.hid (stepB HB5.out hb)
            obtain ⟨x1', x2'⟩ := KC.out _ hb
            have HBK := Lib.hid hb
            clear hb P5 X5 HB5 HO1 s1 s2 x0 x1 x2 x3
            go_wp2_with fail
            refine (HO2.out _ Q6.out).mono ?_
            rintro x w7 ⟨rfl, hb⟩
            have X7 := Lib.hid (X6.out.later hb)
            have HB7 := Lib.hid (stepB HB6.out hb)
            obtain ⟨x1, x2⟩ := KC.out _ (stepB HBK.out hb)
            have s1 := X7.out.cell 1
            have s2 := X7.out.cell 2
            simp only [List.getElem?_toArray, List.getElem?_cons_zero, List.getElem?_cons_succ] at s1 s2
            clear hb P6 Q6 X6 HB6 HO2 x1' x2' HBK KC
            go_wp2
            go_quiet (fail)
            clear s1 s2 x1 x2 qe i1
            go_wp2
            go_roundw
            case rel => exact ⟨k + 1, by omega, by go_num, below_drewN HB7.out nq⟩
            case measure => simp [intOf]; omega
        · obtain rfl : k = n := by omega
          have d2 : decide ((k : Int) < (k : Int)) = false := decide_eq_false (by omega)
          have HOW : Hid (∀ W, LaAt W w.heap.size p2 b2 C2 → Calls Try.prog 9 #[.pointer (some ⟨p2, 0, none⟩), .agg #[.int .u8 (z / 18446744073709551616), .int .u64 (z % 18446744073709551616)]] W fun x w' => x = .returned (.tuple #[.int .i64 (ofC C2 z), .bool (isC C2 z)]) ∧ Below W.heap.size W w') := fun W h => owner_any w.heap.size p2 b2 _ z W h hz
          have s0 := X5.out.cell 0
          have s1 := X5.out.cell 1
          have s2 := X5.out.cell 2
          simp only [List.getElem?_toArray, List.getElem?_cons_zero, List.getElem?_cons_succ] at s0 s1 s2
          have his := HIS.out
          rw [his] at HOW
          clear P4 Q4 X4 HB4 his
          generalize ofC C2 z = oz at *
          skip
          generalize z / 18446744073709551616 = zk at *
          generalize z % 18446744073709551616 = zi at *
          go_wp2_with fail
          refine (HOW.out _ Q5.out).mono ?_
          rintro x w6 ⟨rfl, hb⟩
          have P6 := Lib.hid (P5.out.later hb)
          have Q6 := Lib.hid (Q5.out.later hb)
          have X6 := Lib.hid (X5.out.later hb)
          have HB6 := Lib.hid (stepB HBW.out hb)
          have s0' := X6.out.cell 0
          simp only [List.getElem?_toArray, List.getElem?_cons_zero] at s0'
          clear hb P5 Q5 X5 HB5 HBW HOW s0 s1 s2
          go_wp2
          go_ret
          exact ⟨rfl, HB6.out⟩
    · have hdid : doB C (false, z, t) = false := by simpa using hdid
      have HCC := Lib.hid (HCC0.out _ hdid)
      clear HCC0
      have HDN : Hid (∀ y, isC C2 y = isC C y ∧ ofC C2 y = ofC C y) := fun y => by
        rw [← hC2, do_no hdid]; exact ⟨rfl, rfl⟩
      have HLN : Hid (C2.length = C.length) := by show _ = _; rw [← hC2, do_no hdid]
      have HC2 := Lib.hid hC2
      clear hC2 hdid
      go_wp2_with fail
      refine (HCC.out).mono ?_
      rintro x w4 ⟨rfl, ho, hg⟩
      have P4 := Lib.hid (P3.out.other Q3.out hg (fun e => HNE.out e.symm))
      have X4 := Lib.hid (X3.out.mp Q3.out hg)
      have HB4 := Lib.hid (Q3.out.below HB3.out hg)
      have Q4 := Lib.hid ho
      clear ho hg P3 X3 HB3 Q3 HCC s0 s1 s2 s3
      go_wp2
      go_loopw [8] (fun i wr => ∃ k : Nat, k ≤ n ∧ i = .int .i64 k ∧ Below w4.heap.size w4 wr) (fun i _ => n - (intOf i).toNat)
      case atStart => exact ⟨0, Nat.zero_le _, rfl, Below.refl _ _⟩
      case round =>
        obtain ⟨k, hk, rfl, hb⟩ := hrel
        have P5 := Lib.hid (P4.out.later hb)
        have Q5 := Lib.hid (Q4.out.later hb)
        have X5 := Lib.hid (X4.out.later hb)
        have HB5 := Lib.hid hb
        have HBW := Lib.hid (stepB HB4.out hb)
        clear hb
        by_cases hlt : k < n
        · have d2 : decide ((k : Int) < (n : Int)) = true := decide_eq_true (by omega)
          have wk : IntKind.i64.wrap ((k : Int) + 1) = (k : Int) + 1 := IntWalk.i64_in _ (by omega)
          obtain ⟨g, off, rfl, hg, hcell⟩ := (HS.out.below HBW.out).2 (by omega)
          have i1 := sindex g off n c k (k : Int) rfl hlt
          obtain ⟨hc, hok⟩ := hcell k hlt
          obtain ⟨⟨dd, y, ty⟩, hx⟩ : ∃ x, S.getD k stp0 = x := ⟨_, rfl⟩
          rw [hx] at hc hok
          have HCL := Lib.hid hc
          obtain ⟨x0, x1, x2, x3⟩ := hc
          have hy : rg y := hok.1
          simp only at x0 x1 x2 x3
          have KC : Hid (∀ W, Below wr.heap.size wr W → W.cell? ⟨g, off + k * 4 + 1, none⟩ = some (.int .u8 (y / 18446744073709551616)) ∧ W.cell? ⟨g, off + k * 4 + 2, none⟩ = some (.int .u64 (y % 18446744073709551616))) := fun W hb => ⟨(hb.cell (p := ⟨g, off + k * 4 + 1, none⟩) (lt_of_cell x1)).trans x1, (hb.cell (p := ⟨g, off + k * 4 + 2, none⟩) (lt_of_cell x2)).trans x2⟩
          have HO1 : Hid (∀ W, LaAt W w.heap.size p b C → Calls Try.prog 9 #[.pointer (some ⟨p, 0, none⟩), .agg #[.int .u8 (y / 18446744073709551616), .int .u64 (y % 18446744073709551616)]] W fun x w' => x = .returned (.tuple #[.int .i64 (ofC C y), .bool (isC C y)]) ∧ Below W.heap.size W w') := fun W h => owner_any w.heap.size p b _ y W h hy
          have HO2 : Hid (∀ W, LaAt W w.heap.size p2 b2 C2 → Calls Try.prog 9 #[.pointer (some ⟨p2, 0, none⟩), .agg #[.int .u8 (y / 18446744073709551616), .int .u64 (y % 18446744073709551616)]] W fun x w' => x = .returned (.tuple #[.int .i64 (ofC C2 y), .bool (isC C2 y)]) ∧ Below W.heap.size W w') := fun W h => owner_any w.heap.size p2 b2 _ y W h hy
          clear hcell hx hg hok HCL
          by_cases hyz : y = z
          · subst hyz
            have hdn := HDN.out y
            rw [hdn.1, hdn.2] at HO2
            clear hdn
            have da : (ofC C y != ofC C y) = false := by simp
            have db : (isC C y != isC C y) = false := by simp
            have qe : ∀ W, (binOp BinOp.neq 27 (.agg #[.int .u8 (y / 18446744073709551616), .int .u64 (y % 18446744073709551616)]) (.agg #[.int .u8 (y / 18446744073709551616), .int .u64 (y % 18446744073709551616)])).run Try.prog W = .ok (.bool false) W := fun W => by rw [ne_nm]; simp
            have s1 := X5.out.cell 1
            have s2 := X5.out.cell 2
            simp only [List.getElem?_toArray, List.getElem?_cons_zero, List.getElem?_cons_succ] at s1 s2
            generalize ofC C y = oy at *
            generalize isC C y = iy at *
            generalize hyk : y / 18446744073709551616 = yk at *
            generalize hyi : y % 18446744073709551616 = yi at *
            clear hyk hyi
            go_wp2_with fail
            refine (HO1.out _ P5.out).mono ?_
            rintro x w6 ⟨rfl, hb⟩
            have P6 := Lib.hid (P5.out.later hb)
            have Q6 := Lib.hid (Q5.out.later hb)
            have X6 := Lib.hid (X5.out.later hb)
            have HB6 := Lib.hid (stepB HB5.out hb)
            obtain ⟨x1', x2'⟩ := KC.out _ hb
            have HBK := Lib.hid hb
            clear hb P5 X5 HB5 HO1 s1 s2 x0 x1 x2 x3
            go_wp2_with fail
            refine (HO2.out _ Q6.out).mono ?_
            rintro x w7 ⟨rfl, hb⟩
            have X7 := Lib.hid (X6.out.later hb)
            have HB7 := Lib.hid (stepB HB6.out hb)
            obtain ⟨x1, x2⟩ := KC.out _ (stepB HBK.out hb)
            have s1 := X7.out.cell 1
            have s2 := X7.out.cell 2
            simp only [List.getElem?_toArray, List.getElem?_cons_zero, List.getElem?_cons_succ] at s1 s2
            clear hb P6 Q6 X6 HB6 HO2 x1' x2' HBK KC
            go_wp2
            go_quiet (fail)
            clear s1 s2 x1 x2 qe i1
            go_wp2
            go_roundw
            case rel => exact ⟨k + 1, by omega, by go_num, below_drewN HB7.out nq⟩
            case measure => simp [intOf]; omega
          ·
            have hdn := HDN.out y
            rw [hdn.1, hdn.2] at HO2
            clear hdn
            have da : (ofC C y != ofC C y) = false := by simp
            have db : (isC C y != isC C y) = false := by simp
            have qe : ∀ W, (binOp BinOp.neq 27 (.agg #[.int .u8 (y / 18446744073709551616), .int .u64 (y % 18446744073709551616)]) (.agg #[.int .u8 (z / 18446744073709551616), .int .u64 (z % 18446744073709551616)])).run Try.prog W = .ok (.bool true) W := fun W => by rw [ne_nm]; rw [decide_eq_false hyz]; rfl
            have s1 := X5.out.cell 1
            have s2 := X5.out.cell 2
            simp only [List.getElem?_toArray, List.getElem?_cons_zero, List.getElem?_cons_succ] at s1 s2
            generalize ofC C y = oy at *
            generalize isC C y = iy at *
            generalize hyk : y / 18446744073709551616 = yk at *
            generalize hyi : y % 18446744073709551616 = yi at *
            clear hyk hyi
            generalize hzk : z / 18446744073709551616 = zk at *
            generalize hzi : z % 18446744073709551616 = zi at *
            clear hzk hzi hyz
            go_wp2_with fail
            refine (HO1.out _ P5.out).mono ?_
            rintro x w6 ⟨rfl, hb⟩
            have P6 := Lib.hid (P5.out.later hb)
            have Q6 := Lib.hid (Q5.out.later hb)
            have X6 := Lib.hid (X5.out.later hb)
            have HB6 := Lib.hid (stepB HB5.out hb)
            obtain ⟨x1', x2'⟩ := KC.out _ hb
            have HBK := Lib.hid hb
            clear hb P5 X5 HB5 HO1 s1 s2 x0 x1 x2 x3
            go_wp2_with fail
            refine (HO2.out _ Q6.out).mono ?_
            rintro x w7 ⟨rfl, hb⟩
            have X7 := Lib.hid (X6.out.later hb)
            have HB7 := Lib.hid (stepB HB6.out hb)
            obtain ⟨x1, x2⟩ := KC.out _ (stepB HBK.out hb)
            have s1 := X7.out.cell 1
            have s2 := X7.out.cell 2
            simp only [List.getElem?_toArray, List.getElem?_cons_zero, List.getElem?_cons_succ] at s1 s2
            clear hb P6 Q6 X6 HB6 HO2 x1' x2' HBK KC
            go_wp2
            go_quiet (fail)
            clear s1 s2 x1 x2 qe i1
            go_wp2
            go_roundw
            case rel => exact ⟨k + 1, by omega, by go_num, below_drewN HB7.out nq⟩
            case measure => simp [intOf]; omega
        · obtain rfl : k = n := by omega
          have d2 : decide ((k : Int) < (k : Int)) = false := decide_eq_false (by omega)
          have HOW : Hid (∀ W, LaAt W w.heap.size p2 b2 C2 → Calls Try.prog 9 #[.pointer (some ⟨p2, 0, none⟩), .agg #[.int .u8 (z / 18446744073709551616), .int .u64 (z % 18446744073709551616)]] W fun x w' => x = .returned (.tuple #[.int .i64 (ofC C2 z), .bool (isC C2 z)]) ∧ Below W.heap.size W w') := fun W h => owner_any w.heap.size p2 b2 _ z W h hz
          have s0 := X5.out.cell 0
          have s1 := X5.out.cell 1
          have s2 := X5.out.cell 2
          simp only [List.getElem?_toArray, List.getElem?_cons_zero, List.getElem?_cons_succ] at s0 s1 s2
          skip
          skip
          clear P4 Q4 X4 HB4 
          generalize ofC C2 z = oz at *
          generalize isC C2 z = iz at *
          generalize z / 18446744073709551616 = zk at *
          generalize z % 18446744073709551616 = zi at *
          go_wp2_with fail
          refine (HOW.out _ Q5.out).mono ?_
          rintro x w6 ⟨rfl, hb⟩
          have P6 := Lib.hid (P5.out.later hb)
          have Q6 := Lib.hid (Q5.out.later hb)
          have X6 := Lib.hid (X5.out.later hb)
          have HB6 := Lib.hid (stepB HBW.out hb)
          have s0' := X6.out.cell 0
          simp only [List.getElem?_toArray, List.getElem?_cons_zero] at s0'
          clear hb P5 Q5 X5 HB5 HBW HOW s0 s1 s2
          go_wp2_with fail
          refine (all_any w.heap.size p b C _ P6.out).mono ?_
          rintro x _ ⟨rfl, rfl⟩
          go_wp2_with fail
          refine (all_any w.heap.size p2 b2 C2 _ Q6.out).mono ?_
          rintro x _ ⟨rfl, rfl⟩
          rw [HLN.out]
          have dl : ((C.length : Int) == (C.length : Int)) = true := by simp
          go_wp2
          go_ret
          exact ⟨rfl, HB6.out⟩
theorem walk (A : Option Addr) (n c : Nat) (s : Stp) (S : List Stp) (w : World) (hS : Steps w.heap.size w A n S) (hs : StpOk s) : Calls Try.prog 6 #[.slice A n c, .agg (stv s).toArray] w (fun e w' => e = .returned (.bool true) ∧ Below w.heap.size w w') := by
  show Calls Try.prog 6 #[.slice A n c, .agg #[.bool s.1, .int .u8 (s.2.1 / 18446744073709551616), .int .u64 (s.2.1 % 18446744073709551616), .int .i64 s.2.2]] w _
  by_cases hn : 300 < n
  · exact w_long A n c s w hn
  · exact w_main A n c s S w hS hs hn


set_option maxRecDepth 100000 in
theorem lifted (os : Os) (started : os.Started) (H : Type) (enc : TypeId × Value → H) :
    ReturnsInHanded {} Try.checked os 6 .any (Rows.latchOthersSpec.pre6 enc Try.prog Try.f6 Rows.latchOthersRow.domain false) (Rows.latchOthersSpec.post enc Try.prog Try.f6 false true false false) := by
  refine returnsInHanded_of_change_sized (C := Try.checked) own started (by kernel_rfl) Try.func6
    (ChangeSpec.witness6 (enc := enc) (C := Try.checked) false ⟨#[], #[.slice none 0 0, .agg #[.bool false, .int .u8 0, .int .u64 0, .int .i64 0]], []⟩ 8 (by kernel_rfl) (by kernel_rfl) (by kernel_rfl) (by kernel_rfl)) ?_
  intro W base args ds gs before hval0 hW _ hsz _
  have hval : ∀ (j : Nat) t v, Try.f6.params[j]? = some t → args[j]? = some v → Value.okWide Try.prog W .any base t v := hval0
  have hW' := hW
  obtain ⟨p, q, hA0, hV, hbef, _, _⟩ := hW
  have hA : DataW.TrodAll enc Try.prog W 0 (fun _ => true) true Try.f6.params.toList args.toList ds p := hA0
  rw [Try.params6] at hA hval
  obtain ⟨v0, vs0, d0, ds0, p0, q0, hargs, rfl, rfl, h0, r0⟩ := trodAll_cons hA
  obtain ⟨v1, vs1, d1, ds1, p1, q1, rfl, rfl, rfl, h1, r1⟩ := trodAll_cons r0
  obtain ⟨rfl, rfl, rfl⟩ := trodAll_nil r1
  obtain rfl : args = #[v0, v1] := by cases args; simp_all
  obtain ⟨rfl, rfl⟩ := trodVars_none hV
  obtain ⟨A0, n0, c0, S0, rfl, st0, mx0, _, _⟩ := open_steps (hval 0 38 v0 rfl rfl) h0
  obtain ⟨s1, rfl, hs1⟩ := open_step (hval 1 45 v1 rfl rfl) h1
  refine (walk A0 n0 c0 s1 S0 W st0 hs1).mono fun e W' ⟨he, hb⟩ => ?_
  subst he
  exact ⟨_, rfl, law_post laidOut (of_decide_eq_true (by kernel_rfl)) rfl Try.underlying4 rfl rfl hW' hb⟩

theorem over : Rows.latchOthersRow.holds Try.pinned (OpenSpec.ofChange Rows.latchOthersSpec) :=
  OpenClaim.holds_of_wide 6 Try.f6 rfl rfl rfl rfl rfl rfl rfl ⟨rfl, rfl, rfl, rfl, rfl⟩ rfl rfl rfl rfl rfl (by kernel_rfl) Try.func6 (by kernel_rfl)
    (of_decide_eq_true (by kernel_rfl)) (by unfold Func.isWrapper; first | (rw [if_pos (by decide +kernel)]; kernel_rfl) | (rw [if_neg (by decide +kernel)]; exact ⟨rfl, rfl⟩))
    (fun os started H enc _ => lifted os started H enc)

end Go.Proofs.Ytgjponobiplipaa.latchOthers
namespace Go.Proofs.Ytgjponobiplipaa
theorem latchOthers_holds : Rows.LatchOthersSaid := latchOthers.over
end Go.Proofs.Ytgjponobiplipaa
