/-
Whatever is tried, and dropped, each answer is the document's, and who holds what; a copy goes its own way. For any steps.
-/
import Derived.Test.YtgjponobiplipaaP5
import Derived.Test.YtgjponobiplipaaRows
import Derived.Deep.LoopGhost
import Derived.Deep.RegionHeld3
namespace Go.Proofs.Ytgjponobiplipaa.latchPlays
open Go.ChangeShapes Go.WideShapes Go.ChangeAt Go.RowKit Go.Maps
set_option linter.unusedVariables false
set_option linter.unusedSimpArgs false

macro "nsl_" : tactic => `(tactic| first
  | assumption
  | exact NSl.later (by assumption) (dr _)
  | exact NSl.later (by assumption) (by assumption)
  | exact NSl.later (NSl.later (by assumption) (dr _)) (by assumption)
  | exact NSl.later (NSl.later (by assumption) (by assumption)) (dr _)
  | exact NSl.later (NSl.later (NSl.later (by assumption) (dr _)) (by assumption)) (dr _)
  | exact NSl.later (NSl.later (by assumption) (by assumption)) (by assumption)
  | exact NSl.later (NSl.later (NSl.later (by assumption) (dr _)) (by assumption)) (by assumption)
  | exact NSl.later (NSl.later (NSl.later (by assumption) (by assumption)) (dr _)) (by assumption)
  | exact NSl.later (NSl.later (NSl.later (NSl.later (by assumption) (dr _)) (by assumption)) (dr _)) (by assumption))
theorem own : ownKnob Try.prog.godebug = none := by kernel_rfl
theorem laidOut : laidOutB Try.prog = true := by kernel_rfl

set_option maxRecDepth 100000 in
set_option maxHeartbeats 4000000 in
theorem w_long (A : Option Addr) (n c : Nat) (w : World) (hn : 300 < n) : Calls Try.prog 4 #[.slice A n c] w (fun e w' => e = .returned (.bool true) ∧ Below w.heap.size w w') := by
  have d1 : decide ((300 : Int) < (n : Int)) = true := decide_eq_true (by omega)
  go_enter Try.func4, Try.ntmps4
  go_wp2_with fail
  refine (awake_any _).mono ?_
  rintro x w1 ⟨rfl, hb⟩
  have HB1 := Lib.hid hb
  clear hb
  go_wp2
  go_ret
  exact ⟨rfl, HB1.out⟩
set_option maxRecDepth 100000 in
set_option maxHeartbeats 8000000 in
theorem w_main (A : Option Addr) (n c : Nat) (S : List Stp) (w : World) (hS : Steps w.heap.size w A n S) (hn : ¬ 300 < n) : Calls Try.prog 4 #[.slice A n c] w (fun e w' => e = .returned (.bool true) ∧ Below w.heap.size w w') := by
  have d1 : decide ((300 : Int) < (n : Int)) = false := decide_eq_false (by omega)
  have HS := Lib.hid hS
  clear hS
  go_enter Try.func4, Try.ntmps4
  go_wp2_with fail
  refine (new_any w).mono ?_
  rintro x w1 ⟨rfl, ho, hb⟩
  have hbx : Below w1.heap.size w1 (w1.alloc (.cells #[.slice none 0 0] 42)) := (Below.refl _ _).alloc (Nat.le_refl _) _
  have O2 := Lib.hid (ho.later hbx)
  have R2 : Hid (RfAt (w1.alloc (.cells #[.slice none 0 0] 42)) w.heap.size w1.heap.size (.slice none 0 0) []) := ⟨hb.size, Blk.new _ _ _, HOwn.none _ _⟩
  have HB2 := Lib.hid (stepB hb hbx)
  clear ho hb hbx
  generalize w.heap.size + 1 = p at *
  obtain ⟨b, hb0⟩ : ∃ b, w.heap.size = b := ⟨_, rfl⟩
  have O2 : Hid (LaAt (w1.alloc (.cells #[.slice none 0 0] 42)) w.heap.size p b []) := by subst hb0; exact O2
  go_wp2
  go_loopw [5] (fun i wr => ∃ (k : Nat) (C : List Ct) (v : Value), k ≤ n ∧ i = .int .i64 k ∧ LaAt wr w.heap.size p b C ∧ RfAt wr w.heap.size w1.heap.size v C ∧ C.length ≤ k ∧ Below w.heap.size w wr) (fun i _ => n - (intOf i).toNat)
  case atStart => exact ⟨0, [], _, Nat.zero_le _, rfl, O2.out, R2.out, Nat.le_refl _, HB2.out⟩
  case round =>
    obtain ⟨k, C, v, hk, rfl, ho, hr, hl, hb⟩ := hrel
    generalize w1.heap.size = q at *
    have O0 := Lib.hid ho
    have R0 := Lib.hid hr
    have HB0 := Lib.hid hb
    clear ho hr hb O2 R2 HB2 hb0
    by_cases hlt : k < n
    · have d2 : decide ((k : Int) < (n : Int)) = true := decide_eq_true (by omega)
      have wk : IntKind.i64.wrap ((k : Int) + 1) = (k : Int) + 1 := IntWalk.i64_in _ (by omega)
      obtain ⟨m7, hm7⟩ : ∃ m : Int, (k : Int) % 7 = m := ⟨_, rfl⟩
      have hm8 : Int.tmod (k : Int) 7 = m7 := by rw [← hm7]; exact Int.tmod_eq_emod_of_nonneg (by omega)
      have hm9 : IntKind.i64.wrap m7 = m7 := IntWalk.i64_in _ (by omega)
      obtain ⟨g, off, rfl, hg, hcell⟩ := HS.out.2 (by omega)
      have i1 := sindex g off n c k (k : Int) rfl hlt
      have i0 := sindex g off n c 0 0 rfl (by omega)
      simp only [Nat.zero_mul, Nat.add_zero] at i0
      obtain ⟨hc0, _⟩ := hcell 0 (by omega)
      obtain ⟨hc, hok⟩ := hcell k hlt
      obtain ⟨⟨d, z, t⟩, hx⟩ : ∃ x, S.getD k stp0 = x := ⟨_, rfl⟩
      obtain ⟨⟨d0, z0, t0⟩, hx0⟩ : ∃ x, S.getD 0 stp0 = x := ⟨_, rfl⟩
      rw [hx] at hc hok
      rw [hx0] at hc0
      obtain ⟨x0, x1, x2, x3⟩ := hc
      have y3 := hc0.c3
      simp only [Nat.zero_mul, Nat.add_zero] at x0 x1 x2 x3 y3
      have HRG : Hid (rg z) := hok.1
      have HWF : Hid ((Lit.int .i64 t).wf = true) := hok.2
      obtain ⟨zk, hzk⟩ : ∃ x : Int, z / 18446744073709551616 = x := ⟨_, rfl⟩
      obtain ⟨zi, hzi⟩ : ∃ x : Int, z % 18446744073709551616 = x := ⟨_, rfl⟩
      have HZK := Lib.hid hzk
      have HZI := Lib.hid hzi
      rw [hzk] at x1
      rw [hzi] at x2
      have K0 : Hid (∀ W, Below w.heap.size w W → W.cell? ⟨g, off + k * 4, none⟩ = some (.bool d)) := fun W hb => (hb.cell (p := ⟨g, off + k * 4, none⟩) hg).trans x0
      have K1 : Hid (∀ W, Below w.heap.size w W → W.cell? ⟨g, off + k * 4 + 1, none⟩ = some (.int .u8 zk)) := fun W hb => (hb.cell (p := ⟨g, off + k * 4 + 1, none⟩) hg).trans x1
      have K2 : Hid (∀ W, Below w.heap.size w W → W.cell? ⟨g, off + k * 4 + 2, none⟩ = some (.int .u64 zi)) := fun W hb => (hb.cell (p := ⟨g, off + k * 4 + 2, none⟩) hg).trans x2
      have K3 : Hid (∀ W, Below w.heap.size w W → W.cell? ⟨g, off + k * 4 + 3, none⟩ = some (.int .i64 t)) := fun W hb => (hb.cell (p := ⟨g, off + k * 4 + 3, none⟩) hg).trans x3
      have Y3 : Hid (∀ W, Below w.heap.size w W → W.cell? ⟨g, off + 3, none⟩ = some (.int .i64 t0)) := fun W hb => (hb.cell (p := ⟨g, off + 3, none⟩) hg).trans y3
      clear hcell hc0 hx hx0 hok x0 x1 x2 x3 y3 hg hzk hzi
      go_upto_if 34 with (fail)
      go_cut [6, 7] (fun s6 s7 wx => ∃ pc qc : Nat, s6 = .pointer (some ⟨pc, 0, none⟩) ∧ s7 = .pointer (some ⟨qc, 0, none⟩) ∧ All w wx p b C q v C pc qc C)
      case first =>
        by_cases h3 : m7 = 3
        · have e3 : (m7 == 3) = true := by rw [h3]; rfl
          go_wp2_with fail
          refine (copy_any w.heap.size p b C _ O0.out).mono ?_
          rintro x w3 ⟨pc, bc, rfl, hoc, hb⟩
          have HN1 := Lib.hid (show bc ≠ b from by have := hoc.own.1; have := O0.out.blt; omega)
          have O3 := Lib.hid (O0.out.later hb)
          have R3 := Lib.hid (R0.out.later hb)
          have OC3 := Lib.hid (hoc.base HB0.out.size)
          have HB3 := Lib.hid (stepB HB0.out hb)
          clear hoc hb O0 R0 HB0
          go_wp2_with fail
          refine (rcopy_any w.heap.size q v C _ R3.out (by omega)).mono ?_
          rintro x w4 ⟨qc, vc, rfl, hrc, hb⟩
          have hA : All w w4 p b C q v C pc qc C := ⟨O3.out.later hb, R3.out.later hb, .inr ⟨bc, vc, OC3.out.later hb, hrc.base HB3.out.size, HN1.out, by have := hrc.hp; have := R3.out.plt; omega⟩, stepB HB3.out hb⟩
          have HA := Lib.hid hA
          clear hA hrc hb O3 R3 OC3 HB3 HN1
          go_wp2
          go_meet
          exact ⟨pc, qc, rfl, rfl, HA.out⟩
        · have e3 : (m7 == 3) = false := ieq_no h3
          go_wp2
          go_meet
          exact ⟨p, q, rfl, rfl, O0.out, R0.out, .inl ⟨rfl, rfl⟩, HB0.out⟩
      case rest =>
        obtain ⟨pc, qc, rfl, rfl, hA⟩ := hcut
        obtain ⟨w5, rfl⟩ : ∃ w5 : World, w5 = wc := ⟨_, rfl⟩
        have HA5 := Lib.hid hA
        have z1 := K1.out _ hA.hb
        have z2 := K2.out _ hA.hb
        clear hA O0 R0 HB0 hm7 hm8 hm9
        have hbn : Below w5.heap.size w5 (w5.alloc (.cells #[.int .u8 zk, .int .u64 zi] 37)) := (Below.refl _ _).alloc (Nat.le_refl _) _
        have HA6 : Hid (All2 w (w5.alloc (.cells #[.int .u8 zk, .int .u64 zi] 37)) p b C q v C pc qc C w5.heap.size zk zi) := ⟨HA5.out.later hbn, Blk.new _ _ _⟩
        have z0 := K0.out _ HA6.out.a.hb
        clear HA5 hbn
        go_upto_if 48 with (fail)
        clear z1 z2 z0
        generalize w5.alloc (.cells #[.int .u8 zk, .int .u64 zi] 37) = w6 at *
        generalize w5.heap.size = gn at *
        go_cut [9, 10] (fun s9 s10 wx => ∃ v', s9 = .bool (doB C (d, z, t)) ∧ s10 = .bool (doB C (d, z, t)) ∧ All2 w wx p b (doC C (d, z, t)) q v' (doC C (d, z, t)) pc qc C gn zk zi)
        case first =>
         have hA := HA6.out
         have KS : Hid (∀ W C' v' L', All2 w W p b C' q v' L' pc qc C gn zk zi → S5 g (off + k * 4) gn zk zi t W) := fun W _ _ _ h => ⟨K1.out _ h.a.hb, K2.out _ h.a.hb, K3.out _ h.a.hb, by have := h.n.cell 0; simpa using this, by have := h.n.cell 1; simpa using this⟩
         have K5 : Hid (S5 g (off + k * 4) gn zk zi t w6.drew) := KS.out _ _ _ _ hA.drew
         cases d with
         | true =>
          have HA1 : Hid (∀ W v L, All2 w W p b C q v L pc qc C gn zk zi → Calls Try.prog 12 #[.pointer (some ⟨p, 0, none⟩), .agg #[.int .u8 zk, .int .u64 zi], .int .i64 t] W fun x w' => x = .returned (.bool (doB C (true, z, t))) ∧ All2 w w' p b (doC C (true, z, t)) q v L pc qc C gn zk zi) := fun W v L hA => by
            have h := drop_any w.heap.size p b C z t W hA.a.d HRG.out
            unfold nmv at h
            rw [HZK.out, HZI.out] at h
            refine h.mono ?_
            rintro x w' ⟨rfl, ho, hg⟩
            exact ⟨rfl, hA.stepD ho hg⟩
          have HA2 : Hid (∀ W C', All2 w W p b C' q v C pc qc C gn zk zi → Calls Try.prog 20 #[.pointer (some ⟨q, 0, none⟩), .agg #[.int .u8 zk, .int .u64 zi], .int .i64 t] W fun x w' => x = .returned (.bool (doB C (true, z, t))) ∧ ∃ v', All2 w w' p b C' q v' (doC C (true, z, t)) pc qc C gn zk zi) := fun W C' hA => by
            have h := rdrop_any w.heap.size q v C z t W hA.a.r (by omega)
            rw [HZK.out, HZI.out] at h
            refine h.mono ?_
            rintro x w' ⟨rfl, v', ho, hg⟩
            exact ⟨rfl, v', hA.stepR ho hg⟩
          go_upto_region 13 with (fail)
          go_region_held3 (S5 g (off + k * 4) gn zk zi t) (first | assumption | exact K5.out | exact KS.out _ _ _ _ (by assumption) | exact KS.out _ _ _ _ (All2.drew (by assumption)) | exact KS.out _ _ _ _ (All2.later (by assumption) (below_drewN (Below.refl _ _) _))) (first
            | (go_at_call 12; refine (HA1.out _ _ _ (by first | assumption | exact All2.drew (by assumption) | exact All2.later (by assumption) (below_drewN (Below.refl _ _) _))).mono ?_; rintro x wz ⟨rfl, hA⟩)
            | (go_at_call 20; refine (HA2.out _ _ (by first | assumption | exact All2.drew (by assumption) | exact All2.later (by assumption) (below_drewN (Below.refl _ _) _))).mono ?_; rintro x wz ⟨rfl, v', hA⟩))
          all_goals (
            go_wp2_with fail
            go_meet
            exact ⟨_, rfl, rfl, by first | assumption | exact All2.drew (by assumption) | exact All2.later (by assumption) (below_drewN (Below.refl _ _) _)⟩)
         | false =>
          have HA1 : Hid (∀ W v L, All2 w W p b C q v L pc qc C gn zk zi → Calls Try.prog 11 #[.pointer (some ⟨p, 0, none⟩), .agg #[.int .u8 zk, .int .u64 zi], .int .i64 t] W fun x w' => x = .returned (.bool (doB C (false, z, t))) ∧ All2 w w' p b (doC C (false, z, t)) q v L pc qc C gn zk zi) := fun W v L hA => by
            have h := try_any w.heap.size p b C z t W hA.a.d HRG.out HWF.out (by omega)
            unfold nmv at h
            rw [HZK.out, HZI.out] at h
            refine h.mono ?_
            rintro x w' ⟨rfl, ho, hg⟩
            exact ⟨rfl, hA.stepD ho hg⟩
          have HA2 : Hid (∀ W C', All2 w W p b C' q v C pc qc C gn zk zi → Calls Try.prog 21 #[.pointer (some ⟨q, 0, none⟩), .agg #[.int .u8 zk, .int .u64 zi], .int .i64 t] W fun x w' => x = .returned (.bool (doB C (false, z, t))) ∧ ∃ v', All2 w w' p b C' q v' (doC C (false, z, t)) pc qc C gn zk zi) := fun W C' hA => by
            have h := rtry_any w.heap.size q v C z t W hA.a.r (by omega)
            rw [HZK.out, HZI.out] at h
            refine h.mono ?_
            rintro x w' ⟨rfl, v', ho, hg⟩
            exact ⟨rfl, v', hA.stepR ho hg⟩
          go_upto_region 14 with (fail)
          go_region_held3 (S5 g (off + k * 4) gn zk zi t) (first | assumption | exact K5.out | exact KS.out _ _ _ _ (by assumption) | exact KS.out _ _ _ _ (All2.drew (by assumption)) | exact KS.out _ _ _ _ (All2.later (by assumption) (below_drewN (Below.refl _ _) _))) (first
            | (go_at_call 11; refine (HA1.out _ _ _ (by first | assumption | exact All2.drew (by assumption) | exact All2.later (by assumption) (below_drewN (Below.refl _ _) _))).mono ?_; rintro x wz ⟨rfl, hA⟩)
            | (go_at_call 21; refine (HA2.out _ _ (by first | assumption | exact All2.drew (by assumption) | exact All2.later (by assumption) (below_drewN (Below.refl _ _) _))).mono ?_; rintro x wz ⟨rfl, v', hA⟩))
          all_goals (
            go_wp2_with fail
            go_meet
            exact ⟨_, rfl, rfl, by first | assumption | exact All2.drew (by assumption) | exact All2.later (by assumption) (below_drewN (Below.refl _ _) _)⟩)
        case rest =>
          obtain ⟨v2, rfl, rfl, hA⟩ := hcut
          obtain ⟨w7, rfl⟩ : ∃ w7 : World, w7 = wc := ⟨_, rfl⟩
          have hl2 : (doC C (d, z, t)).length ≤ k + 1 := by have := do_len C (d, z, t); omega
          generalize doC C (d, z, t) = C2 at *
          generalize doB C (d, z, t) = r at *
          obtain ⟨bc, u, M, hdc, hrc, hM⟩ := hA.a.two
          have hml : M.length ≤ 301 := by rcases hM with rfl | rfl <;> omega
          obtain ⟨A2, c2, e2, _, _, _⟩ := hA.a.r.row
          subst e2
          obtain ⟨A3, c3, e3, _, _, _⟩ := hrc.row
          subst e3
          obtain ⟨oc, hoc⟩ : ∃ x, ofC C2 z = x := ⟨_, rfl⟩
          obtain ⟨ic, hic⟩ : ∃ x, isC C2 z = x := ⟨_, rfl⟩
          have HOW : Hid (∀ W, Below w7.heap.size w7 W → Calls Try.prog 9 #[.pointer (some ⟨p, 0, none⟩), .agg #[.int .u8 zk, .int .u64 zi]] W fun x w' => x = .returned (.tuple #[.int .i64 oc, .bool ic]) ∧ Below W.heap.size W w') := fun W hb => by
            have h := owner_any w.heap.size p b C2 z W (hA.a.d.later hb) HRG.out
            unfold nmv at h
            rw [HZK.out, HZI.out, hoc, hic] at h
            exact h
          have HRO : Hid (∀ W, Below w7.heap.size w7 W → Calls Try.prog 22 #[.pointer (some ⟨q, 0, none⟩), .agg #[.int .u8 zk, .int .u64 zi]] W fun x w' => x = .returned (.tuple #[.int .i64 oc, .bool ic]) ∧ Below W.heap.size W w') := fun W hb => by
            have h := rowner_any w.heap.size q (.slice A2 C2.length c2) C2 z W (hA.a.r.later hb) (by omega)
            rw [HZK.out, HZI.out, hoc, hic] at h
            exact h
          have HAL1 : Hid (∀ W, Below w7.heap.size w7 W → Calls Try.prog 14 #[.pointer (some ⟨p, 0, none⟩)] W fun x w' => x = .returned (.int .i64 (C2.length : Nat)) ∧ Below W.heap.size W w') := fun W hb => (all_any w.heap.size p b C2 W (hA.a.d.later hb)).mono (fun _ _ h => ⟨h.1, by rw [← h.2]; exact Below.refl _ _⟩)
          have HAL2 : Hid (∀ W, Below w7.heap.size w7 W → Calls Try.prog 14 #[.pointer (some ⟨pc, 0, none⟩)] W fun x w' => x = .returned (.int .i64 (M.length : Nat)) ∧ Below W.heap.size W w') := fun W hb => (all_any w.heap.size pc bc M W (hdc.later hb)).mono (fun _ _ h => ⟨h.1, by rw [← h.2]; exact Below.refl _ _⟩)
          have HHE : Hid (∀ W, Below w7.heap.size w7 W → Calls Try.prog 13 #[.pointer (some ⟨p, 0, none⟩), .int .i64 t] W (HeldEnd (heldC C2 t) W)) := fun W hb => held_any w.heap.size p b C2 t W (hA.a.d.later hb) (by omega)
          have HHR : Hid (∀ W, Below w7.heap.size w7 W → Calls Try.prog 23 #[.pointer (some ⟨q, 0, none⟩), .int .i64 t] W (HeldEnd (heldC C2 t) W)) := fun W hb => rheld_any w.heap.size q (.slice A2 C2.length c2) C2 t W (hA.a.r.later hb) (by omega)
          have HHC : Hid (∀ W, Below w7.heap.size w7 W → Calls Try.prog 13 #[.pointer (some ⟨pc, 0, none⟩), .int .i64 t0] W (HeldEnd (heldC M t0) W)) := fun W hb => held_any w.heap.size pc bc M t0 W (hdc.later hb) (by omega)
          have HHD : Hid (∀ W, Below w7.heap.size w7 W → Calls Try.prog 23 #[.pointer (some ⟨qc, 0, none⟩), .int .i64 t0] W (HeldEnd (heldC M t0) W)) := fun W hb => rheld_any w.heap.size qc (.slice A3 M.length c3) M t0 W (hrc.later hb) (by omega)
          have hh1 : (heldC C2 t).length ≤ 1000 := by have := held_len C2 t; omega
          have hh2 : (heldC M t0).length ≤ 1000 := by have := held_len M t0; omega
          have HQ : Hid (∀ W, Below w7.heap.size w7 W → W.cell? ⟨q, 0, none⟩ = some (.slice A2 C2.length c2)) := fun W hb => by have := (hA.a.r.later hb).blk.cell 0; simpa using this
          have HQC : Hid (∀ W, Below w7.heap.size w7 W → W.cell? ⟨qc, 0, none⟩ = some (.slice A3 M.length c3)) := fun W hb => by have := (hrc.later hb).blk.cell 0; simpa using this
          have HN0 : Hid (∀ W, Below w7.heap.size w7 W → W.cell? ⟨gn, 0, none⟩ = some (.int .u8 zk)) := fun W hb => by have := (hA.n.later hb).cell 0; simpa using this
          have HN1 : Hid (∀ W, Below w7.heap.size w7 W → W.cell? ⟨gn, 1, none⟩ = some (.int .u64 zi)) := fun W hb => by have := (hA.n.later hb).cell 1; simpa using this
          have HW7 := Lib.hid hA.a.hb
          have HLA := Lib.hid hA.a.d
          have HRF := Lib.hid hA.a.r
          have q1 := K1.out _ hA.a.hb
          have q2 := K2.out _ hA.a.hb
          clear hA hdc hrc hM HA6 hoc hic
          go_wp2_with fail
          refine (HOW.out _ (Below.refl _ _)).mono ?_
          rintro x w8 ⟨rfl, hb8⟩
          have n0 := HN0.out _ hb8
          have n1 := HN1.out _ hb8
          have HB8 := Lib.hid hb8
          clear q1 q2 hb8
          go_wp2_with fail
          refine (HRO.out _ HB8.out).mono ?_
          rintro x w9 ⟨rfl, hb⟩
          have HB9 := Lib.hid (stepB HB8.out hb)
          clear n0 n1 hb HB8 HOW HRO HN0 HN1
          have dr1 : (r != r) = false := by simp
          have do1 : (oc != oc) = false := by simp
          have di1 : (ic != ic) = false := by simp
          have dl1 : ((C2.length : Int) != (C2.length : Int)) = false := by simp
          have dl2 : ((M.length : Int) != (M.length : Int)) = false := by simp
          go_upto_region 17 with (fail)
          go_cut [137] (fun s wx => s = .bool false ∧ Below w9.heap.size w9 wx)
          case first =>
            have KSS : Hid (∀ W W2, Below W.heap.size W W2 → SP w9 ⟨q, 0, none⟩ (.slice A2 C2.length c2) ⟨qc, 0, none⟩ (.slice A3 M.length c3) W → SP w9 ⟨q, 0, none⟩ (.slice A2 C2.length c2) ⟨qc, 0, none⟩ (.slice A3 M.length c3) W2) := fun W W2 h2 h1 => ⟨stepB h1.1 h2, HQ.out _ (stepB HB9.out (stepB h1.1 h2)), HQC.out _ (stepB HB9.out (stepB h1.1 h2))⟩
            have K0S : Hid (SP w9 ⟨q, 0, none⟩ (.slice A2 C2.length c2) ⟨qc, 0, none⟩ (.slice A3 M.length c3) w9.drew) := ⟨dr _, HQ.out _ (stepB HB9.out (dr _)), HQC.out _ (stepB HB9.out (dr _))⟩
            have C1 : Hid (∀ W, SP w9 ⟨q, 0, none⟩ (.slice A2 C2.length c2) ⟨qc, 0, none⟩ (.slice A3 M.length c3) W → Calls Try.prog 14 #[.pointer (some ⟨p, 0, none⟩)] W fun x w' => x = .returned (.int .i64 (C2.length : Nat)) ∧ Below W.heap.size W w') := fun W h => HAL1.out W (stepB HB9.out h.1)
            have C3 : Hid (∀ W, SP w9 ⟨q, 0, none⟩ (.slice A2 C2.length c2) ⟨qc, 0, none⟩ (.slice A3 M.length c3) W → Calls Try.prog 14 #[.pointer (some ⟨pc, 0, none⟩)] W fun x w' => x = .returned (.int .i64 (M.length : Nat)) ∧ Below W.heap.size W w') := fun W h => HAL2.out W (stepB HB9.out h.1)
            clear HAL1 HAL2 HHE HHR HHC HHD HQ HQC HW7 HLA HRF K0 K1 K2 K3 Y3
            go_region_held3 (SP w9 ⟨q, 0, none⟩ (.slice A2 C2.length c2) ⟨qc, 0, none⟩ (.slice A3 M.length c3)) (first | assumption | exact K0S.out | exact KSS.out _ _ (by assumption) (by assumption) | exact KSS.out _ _ (below_drewN (Below.refl _ _) _) (by assumption)) (first
              | (go_at_call_of 14 (Value.pointer (some ⟨p, 0, none⟩)); refine (C1.out _ (by assumption)).mono ?_; rintro x wz ⟨rfl, hb⟩)
              | (go_at_call_of 14 (Value.pointer (some ⟨pc, 0, none⟩)); refine (C3.out _ (by assumption)).mono ?_; rintro x wz ⟨rfl, hb⟩))
            all_goals (
              rename SP _ _ _ _ _ _ => hSO
              have hz := Lib.hid hSO.1
              clear hSO
              go_wp2_with fail
              go_meet
              exact ⟨rfl, hz.out⟩)
          case rest =>
            obtain ⟨rfl, hb⟩ := hcut
            obtain ⟨w10, rfl⟩ : ∃ w10 : World, w10 = wc := ⟨_, rfl⟩
            have HB10 := Lib.hid (stepB HB9.out hb)
            have q3 := K3.out _ (stepB HW7.out HB10.out)
            clear hb HB9 HAL1 HAL2 HQ HQC dr1 do1 di1 dl1 dl2
            go_wp2_with fail
            refine (HHE.out _ HB10.out).mono ?_
            rintro x w11 ⟨A8, c8, rfl, hN8, hb8⟩
            have HN8 := Lib.hid hN8
            have HB8 := Lib.hid hb8
            have HB11 := Lib.hid (stepB HB10.out hb8)
            clear hN8 hb8 q3 HHE
            go_upto_region 20 with (fail)
            go_cut [172] (fun s wx => s = .bool false ∧ Below w11.heap.size w11 wx)
            case first =>
              have KSS : Hid (∀ W W2, Below W.heap.size W W2 → SP w11 ⟨g, off + k * 4 + 3, none⟩ (.int .i64 t) ⟨g, off + 3, none⟩ (.int .i64 t0) W → SP w11 ⟨g, off + k * 4 + 3, none⟩ (.int .i64 t) ⟨g, off + 3, none⟩ (.int .i64 t0) W2) := fun W W2 h2 h1 => ⟨stepB h1.1 h2, K3.out _ (stepB HW7.out (stepB HB11.out (stepB h1.1 h2))), Y3.out _ (stepB HW7.out (stepB HB11.out (stepB h1.1 h2)))⟩
              have K0S : Hid (SP w11 ⟨g, off + k * 4 + 3, none⟩ (.int .i64 t) ⟨g, off + 3, none⟩ (.int .i64 t0) w11.drew) := ⟨dr _, K3.out _ (stepB HW7.out (stepB HB11.out (dr _))), Y3.out _ (stepB HW7.out (stepB HB11.out (dr _)))⟩
              have C1 : Hid (∀ W, SP w11 ⟨g, off + k * 4 + 3, none⟩ (.int .i64 t) ⟨g, off + 3, none⟩ (.int .i64 t0) W → Calls Try.prog 18 #[.slice A8 (heldC C2 t).length c8] W (HeldEnd (heldC C2 t) W)) := fun W h => names_any _ A8 c8 (heldC C2 t) W (HN8.out.later h.1) hh1
              have C3 : Hid (∀ W, SP w11 ⟨g, off + k * 4 + 3, none⟩ (.int .i64 t) ⟨g, off + 3, none⟩ (.int .i64 t0) W → Calls Try.prog 23 #[.pointer (some ⟨q, 0, none⟩), .int .i64 t] W (HeldEnd (heldC C2 t) W)) := fun W h => HHR.out W (stepB HB11.out h.1)
              have C4 : Hid (∀ W, SP w11 ⟨g, off + k * 4 + 3, none⟩ (.int .i64 t) ⟨g, off + 3, none⟩ (.int .i64 t0) W → Calls Try.prog 13 #[.pointer (some ⟨pc, 0, none⟩), .int .i64 t0] W (HeldEnd (heldC M t0) W)) := fun W h => HHC.out W (stepB HB11.out h.1)
              have C5 : Hid (∀ W, SP w11 ⟨g, off + k * 4 + 3, none⟩ (.int .i64 t) ⟨g, off + 3, none⟩ (.int .i64 t0) W → Calls Try.prog 23 #[.pointer (some ⟨qc, 0, none⟩), .int .i64 t0] W (HeldEnd (heldC M t0) W)) := fun W h => HHD.out W (stepB HB11.out h.1)
              clear HHR HHC HHD HW7 HLA HRF K0 K1 K2 K3 Y3 HN8 HB8 HB10 HB11
              generalize heldC C2 t = L1 at *
              generalize heldC M t0 = L2 at *
              go_region_held3 (SP w11 ⟨g, off + k * 4 + 3, none⟩ (.int .i64 t) ⟨g, off + 3, none⟩ (.int .i64 t0)) (first | assumption | exact K0S.out | exact KSS.out _ _ (by assumption) (by assumption) | exact KSS.out _ _ (below_drewN (Below.refl _ _) _) (by assumption)) (first
                | (go_at_call_of 18 (Value.slice A8 L1.length c8); refine (C1.out _ (by assumption)).mono ?_; rintro x w20 ⟨A20, c20, rfl, hN20, hb20⟩)
                | (go_at_call_of 23 (Value.pointer (some ⟨q, 0, none⟩)); refine (C3.out _ (by assumption)).mono ?_; rintro x w21 ⟨A21, c21, rfl, hN21, hb21⟩)
                | (go_at_call_of 17 (Value.slice A20 L1.length c20); refine (same_names _ _ A20 A21 c20 c21 L1 _ (by nsl_) (by nsl_) hh1).mono ?_; rintro x w22 ⟨rfl, hb22⟩)
                | (go_at_call_of 13 (Value.pointer (some ⟨pc, 0, none⟩)); refine (C4.out _ (by assumption)).mono ?_; rintro x w23 ⟨A23, c23, rfl, hN23, hb23⟩)
                | (go_at_call_of 18 (Value.slice A23 L2.length c23); refine (names_any _ A23 c23 L2 _ (by nsl_) hh2).mono ?_; rintro x w24 ⟨A24, c24, rfl, hN24, hb24⟩)
                | (go_at_call_of 23 (Value.pointer (some ⟨qc, 0, none⟩)); refine (C5.out _ (by assumption)).mono ?_; rintro x w25 ⟨A25, c25, rfl, hN25, hb25⟩)
                | (go_at_call_of 17 (Value.slice A24 L2.length c24); refine (same_names _ _ A24 A25 c24 c25 L2 _ (by nsl_) (by nsl_) hh2).mono ?_; rintro x w26 ⟨rfl, hb26⟩))
              all_goals (
                rename SP _ _ _ _ _ _ => hSO
                have hz := Lib.hid hSO.1
                clear hSO
                go_wp2_with fail
                go_meet
                exact ⟨rfl, hz.out⟩)
            case rest =>
              obtain ⟨rfl, hb⟩ := hcut
              obtain ⟨w12, rfl⟩ : ∃ w12 : World, w12 = wc := ⟨_, rfl⟩
              have HTL := Lib.hid (HN8.out.later hb).tl
              have HB12 := Lib.hid (stepB HB8.out hb)
              clear hb HN8 HB8 HB11 HHR HHC HHD
              generalize (heldC C2 t).length = m at *
              go_wp2
              go_loopw [16] (fun i wr => ∃ j : Nat, j ≤ m ∧ i = .int .i64 j ∧ NTl wr w10.heap.size A8 m ∧ Below w10.heap.size w10 wr) (fun i _ => m - (intOf i).toNat)
              case atStart => exact ⟨0, Nat.zero_le _, rfl, HTL.out, HB12.out⟩
              case round =>
                obtain ⟨j, hj, rfl, ht, hb⟩ := hrel
                have HT8 := Lib.hid ht
                have HB8 := Lib.hid hb
                clear ht hb HTL HB12
                by_cases hjm : j < m
                · have d5 : decide ((j : Int) < (m : Int)) = true := decide_eq_true (by omega)
                  have wj : IntKind.i64.wrap ((j : Int) + 1) = (j : Int) + 1 := IntWalk.i64_in _ (by omega)
                  obtain ⟨gt, rfl, hgt, hct⟩ := HT8.out (by omega)
                  obtain ⟨⟨y, y0⟩, y1⟩ := hct j hjm
                  have i5 := nindex 30 (.inl (by kernel_rfl)) (.inl rfl) gt m c8 j (j : Int) rfl hjm
                  have HT9 := Lib.hid (HT8.out.set (g := gt) (j := j) 77)
                  have HB9 := Lib.hid (HB8.out.setCell (p := ⟨gt, j * 2 + 1, none⟩) hgt (.int .u64 77))
                  clear hct HT8 HB8
                  go_wp2
                  go_roundw
                  case rel => exact ⟨j + 1, by omega, by go_num, HT9.out, HB9.out⟩
                  case measure => simp [intOf]; omega
                · obtain rfl : j = m := by omega
                  have d5 : decide ((j : Int) < (j : Int)) = false := decide_eq_false (by omega)
                  have hz := stepB HB10.out HB8.out
                  have HL9 := Lib.hid (HLA.out.later hz)
                  have HR9 := Lib.hid (HRF.out.later hz)
                  have HW9 := Lib.hid (stepB HW7.out hz)
                  clear hz HT8 HB8 HLA HRF HW7 HB10
                  go_wp2
                  go_roundw
                  case rel => exact ⟨k + 1, C2, _, by omega, by go_num, HL9.out, HR9.out, hl2, HW9.out⟩
                  case measure => simp [intOf]; omega
    · obtain rfl : k = n := by omega
      have d2 : decide ((k : Int) < (k : Int)) = false := decide_eq_false (by omega)
      clear O0 R0
      go_wp2_with fail
      refine (awake_any wr).mono ?_
      rintro x w3 ⟨rfl, hb⟩
      have HB3 := Lib.hid (stepB HB0.out hb)
      clear hb HB0
      go_wp2
      go_ret
      exact ⟨rfl, HB3.out⟩
theorem walk (A : Option Addr) (n c : Nat) (S : List Stp) (w : World) (hS : Steps w.heap.size w A n S) : Calls Try.prog 4 #[.slice A n c] w (fun e w' => e = .returned (.bool true) ∧ Below w.heap.size w w') := by
  by_cases hn : 300 < n
  · exact w_long A n c w hn
  · exact w_main A n c S w hS hn



set_option maxRecDepth 100000 in
theorem lifted (os : Os) (started : os.Started) (H : Type) (enc : TypeId × Value → H) :
    ReturnsInHanded {} Try.checked os 4 .any (Rows.latchPlaysSpec.pre6 enc Try.prog Try.f4 Rows.latchPlaysRow.domain false) (Rows.latchPlaysSpec.post enc Try.prog Try.f4 false true false false) := by
  refine returnsInHanded_of_change_sized (C := Try.checked) own started (by kernel_rfl) Try.func4
    (ChangeSpec.witness6 (enc := enc) (C := Try.checked) false ⟨#[], #[.slice none 0 0], []⟩ 8 (by kernel_rfl) (by kernel_rfl) (by kernel_rfl) (by kernel_rfl)) ?_
  intro W base args ds gs before hval0 hW _ hsz _
  have hval : ∀ (j : Nat) t v, Try.f4.params[j]? = some t → args[j]? = some v → Value.okWide Try.prog W .any base t v := hval0
  have hW' := hW
  obtain ⟨p, q, hA0, hV, hbef, _, _⟩ := hW
  have hA : DataW.TrodAll enc Try.prog W 0 (fun _ => true) true Try.f4.params.toList args.toList ds p := hA0
  rw [Try.params4] at hA hval
  obtain ⟨v0, vs0, d0, ds0, p0, q0, hargs, rfl, rfl, h0, r0⟩ := trodAll_cons hA
  obtain ⟨rfl, rfl, rfl⟩ := trodAll_nil r0
  obtain rfl : args = #[v0] := by cases args; simp_all
  obtain ⟨rfl, rfl⟩ := trodVars_none hV
  obtain ⟨A0, n0, c0, S0, rfl, st0, mx0, _, _⟩ := open_steps (hval 0 38 v0 rfl rfl) h0
  refine (walk A0 n0 c0 S0 W st0).mono fun e W' ⟨he, hb⟩ => ?_
  subst he
  exact ⟨_, rfl, law_post laidOut (of_decide_eq_true (by kernel_rfl)) rfl Try.underlying4 rfl rfl hW' hb⟩

theorem over : Rows.latchPlaysRow.holds Try.pinned (OpenSpec.ofChange Rows.latchPlaysSpec) :=
  OpenClaim.holds_of_wide 4 Try.f4 rfl rfl rfl rfl rfl rfl rfl ⟨rfl, rfl, rfl, rfl, rfl⟩ rfl rfl rfl rfl rfl (by kernel_rfl) Try.func4 (by kernel_rfl)
    (of_decide_eq_true (by kernel_rfl)) (by unfold Func.isWrapper; first | (rw [if_pos (by decide +kernel)]; kernel_rfl) | (rw [if_neg (by decide +kernel)]; exact ⟨rfl, rfl⟩))
    (fun os started H enc _ => lifted os started H enc)

end Go.Proofs.Ytgjponobiplipaa.latchPlays
namespace Go.Proofs.Ytgjponobiplipaa
theorem latchPlays_holds : Rows.LatchPlaysSaid := latchPlays.over
end Go.Proofs.Ytgjponobiplipaa
