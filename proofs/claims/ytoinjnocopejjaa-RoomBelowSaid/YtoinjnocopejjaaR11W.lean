/- The walk of RoomBelow. -/
import Derived.Test.YtoinjnocopejjaaPW
import Derived.StillTailTactics
namespace Go.Proofs.Ytoinjnocopejjaa.roomBelow
open Go.ChangeShapes Go.WideShapes Go.ChangeAt Go.RowKit Go.Maps
set_option linter.unusedVariables false
set_option linter.unusedSimpArgs false
set_option maxRecDepth 100000 in
set_option maxHeartbeats 4000000 in
theorem walk (c : Conf) (A : Option Addr) (n cc : Nat) (LP : List PH) (A2 : Option Addr) (n2 c2 : Nat) (L : List EH) (w : World) (hP : RSl prE 1 w A n LP) (hQ : ∀ r ∈ LP, PrQ w r) (hn : n ≤ maxLen) (hE : RSl evE 7 w A2 n2 L) (hV : ∀ r ∈ L, EvQ w r) (hn2 : n2 ≤ maxLen) (hk2 : n2 ≤ c2) (ho2 : A2 = none → n2 = 0 ∧ c2 = 0) : Calls Try.prog 11 #[c.val, .slice A n cc, .slice A2 n2 c2] w fun e w' => e = .returned (.bool true) ∧ Below w.heap.size w w' := by
  have HPO : Hid (PsOk w w A n LP) := Lib.hid (progs_ok hP hQ)
  have HEO : Hid ((∀ r ∈ L, r.1.2.2.2.2.2.2.length ≤ 8000) → EvOk w w A2 n2 L) := Lib.hid (fun h => evs_ok hE hV (fun r hr => by have := h r hr; omega))
  have HLO : Hid (∀ W, Below w.heap.size w W → Calls Try.prog 48 #[.slice A n cc, .slice A2 n2 c2] W (LongEnd L W)) := Lib.hid (fun W hb => long30 A n cc LP A2 n2 c2 L (hP.later hb) (fun r hr => ⟨(hQ r hr).1.later hb, (hQ r hr).2⟩) (hE.later hb) hn hn2 (fun r hr => (hQ r hr).2.2))
  have HNM := Lib.hid hn
  have HLM : Hid (L.length = n2) := Lib.hid hE.1
  have HK2 := Lib.hid hk2
  have HO2 := Lib.hid ho2
  have HB : Hid (Below w.heap.size w (w.alloc (.cells #[.int .i64 c.ta, .int .i64 c.ac, .int .i64 c.ke, .int .i64 c.de, .int .i64 c.ts, .int .i64 c.kl, .int .i64 c.vl, .int .i64 c.fa] 45))) := Lib.hid ((Below.refl _ _).alloc (Nat.le_refl _) _)
  have KC : Hid (Blk (w.alloc (.cells #[.int .i64 c.ta, .int .i64 c.ac, .int .i64 c.ke, .int .i64 c.de, .int .i64 c.ts, .int .i64 c.kl, .int .i64 c.vl, .int .i64 c.fa] 45)) w.heap.size #[.int .i64 c.ta, .int .i64 c.ac, .int .i64 c.ke, .int .i64 c.de, .int .i64 c.ts, .int .i64 c.kl, .int .i64 c.vl, .int .i64 c.fa] 45) := Lib.hid (Blk.new w _ 45)
  clear hP hQ hn hE hV hn2 hk2 ho2
  show Calls Try.prog 11 _ w _
  unfold Conf.val
  go_enter Try.func11, Try.ntmps11
  go_upto_region 1 with (fail)
  generalize (w.alloc (.cells #[.int .i64 c.ta, .int .i64 c.ac, .int .i64 c.ke, .int .i64 c.de, .int .i64 c.ts, .int .i64 c.kl, .int .i64 c.vl, .int .i64 c.fa] 45)) = w1 at *
  obtain ⟨bx, hbx⟩ : ∃ bx, w.heap.size = bx := ⟨_, rfl⟩
  rw [hbx] at KC ⊢
  have HBX := Lib.hid hbx
  clear hbx
  go_wp2_with fail
  refine (works30 _).mono ?_
  rintro e w2 ⟨rfl, hb⟩
  replace HB := Lib.hid (stepB HB.out hb)
  replace KC := Lib.hid (KC.out.later hb)
  clear hb
  go_wp2_with fail
  refine (HLO.out _ HB.out).mono ?_
  rintro e w3 ⟨bq, rfl, hb, hlg⟩
  replace HB := Lib.hid (stepB HB.out hb)
  replace KC := Lib.hid (KC.out.later hb)
  clear hb HLO
  have HLG0 := Lib.hid hlg
  clear hlg
  cases bq with
  | true =>
    go_wp2_with fail
    refine (works30 _).mono ?_
    rintro e w4 ⟨rfl, hb⟩
    replace HB := Lib.hid (stepB HB.out hb)
    replace KC := Lib.hid (KC.out.later hb)
    clear hb
    go_wp2
    go_ret
    exact ⟨rfl, HB.out⟩
  | false =>
  have HLG := Lib.hid (HLG0.out rfl).1
  have HES : Hid (EvOk w w A2 n2 L) := Lib.hid (HEO.out (HLG0.out rfl).2)
  clear HLG0 HEO
  have z0 := KC.out.cell 0
  have z1 := KC.out.cell 1
  have z2 := KC.out.cell 2
  have z3 := KC.out.cell 3
  have z4 := KC.out.cell 4
  have z5 := KC.out.cell 5
  have z6 := KC.out.cell 6
  have z7 := KC.out.cell 7
  simp only [List.getElem?_toArray, List.getElem?_cons_zero, List.getElem?_cons_succ] at z0 z1 z2 z3 z4 z5 z6 z7
  have HNW := Lib.hid (now_any c A n cc LP A2 n2 c2 L (HPO.out.at_ HB.out) (HES.out.at_ HB.out) HNM.out (by have := HLG.out; omega))
  have hcs := now_cases c (psV LP) (evV L)
  obtain ⟨R, hR⟩ : ∃ R, nowP c (psV LP) (evV L) = R := ⟨_, rfl⟩
  rw [hR] at HNW hcs
  have HCS := Lib.hid hcs
  clear hR hcs
  obtain ⟨rs, ra, re⟩ := R
  go_wp2_with fail
  refine HNW.out.mono ?_
  rintro e w5 ⟨rfl, hb⟩
  replace HB := Lib.hid (stepB HB.out hb)
  replace KC := Lib.hid (KC.out.later hb)
  clear hb HNW z0 z1 z2 z3 z4 z5 z6 z7
  rcases HCS.out with ⟨h, _⟩ | ⟨h, _, _⟩ | ⟨p, _, _, hok, h⟩
  · simp only [Prod.mk.injEq] at h
    obtain ⟨rfl, rfl, rfl⟩ := h
    go_wp2
    go_ret
    exact ⟨rfl, HB.out⟩
  · simp only [Prod.mk.injEq] at h
    obtain ⟨rfl, rfl, rfl⟩ := h
    go_wp2
    go_ret
    exact ⟨rfl, HB.out⟩
  have hsb := sumP_b hok
  simp only [Prod.mk.injEq] at h
  obtain ⟨e1, e2, rfl⟩ := h
  rw [← e1, ← e2] at hsb
  obtain ⟨b1, hb1⟩ : ∃ b, (boundP c).1 = b := ⟨_, rfl⟩
  obtain ⟨b2, hb2⟩ : ∃ b, (boundP c).2 = b := ⟨_, rfl⟩
  have HBD := Lib.hid (fun W => rbound_any c W)
  rw [hb1, hb2] at HBD hsb
  have g1 : decide (rs ≥ 0) = true := decide_eq_true hsb.1
  have g1' : decide (0 ≤ rs) = true := decide_eq_true hsb.1
  have g2 : decide (ra ≥ 0) = true := decide_eq_true hsb.2.1
  have g2' : decide (0 ≤ ra) = true := decide_eq_true hsb.2.1
  have g3 : decide (rs ≤ b1) = true := decide_eq_true hsb.2.2.1
  have g4 : decide (ra ≤ b2) = true := decide_eq_true hsb.2.2.2
  clear hsb e1 e2 hok hb1 hb2 HCS
  have z0 := KC.out.cell 0
  have z1 := KC.out.cell 1
  have z2 := KC.out.cell 2
  have z3 := KC.out.cell 3
  have z4 := KC.out.cell 4
  have z5 := KC.out.cell 5
  have z6 := KC.out.cell 6
  have z7 := KC.out.cell 7
  simp only [List.getElem?_toArray, List.getElem?_cons_zero, List.getElem?_cons_succ] at z0 z1 z2 z3 z4 z5 z6 z7
  go_wp2_with fail
  refine (HBD.out _).mono ?_
  rintro e w6 ⟨rfl, hb⟩
  replace HB := Lib.hid (stepB HB.out hb)
  replace KC := Lib.hid (KC.out.later hb)
  clear hb HBD z0 z1 z2 z3 z4 z5 z6 z7
  go_wp2
  go_ret
  exact ⟨rfl, HB.out⟩
end Go.Proofs.Ytoinjnocopejjaa.roomBelow
