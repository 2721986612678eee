/- The document's whole: a number's word. -/
import Derived.Test.YtkgdmdcnhbaidaaDoorDB
import Derived.Test.YtkgdmdcnhbaidaaDoorOD
import Derived.Lib.SmallJoins
namespace Go.Proofs.YtkgdmdcnhbaidaaDoor
open Go.ChangeShapes Go.WideShapes Go.ChangeAt Go.RowKit
set_option linter.unusedVariables false
set_option linter.unusedSimpArgs false

theorem conv_one (W : World) (c : UInt8) : (convert 34 9 (.slice (some ⟨W.heap.size, 0, none⟩) 1 1)).run Tryd.prog (W.alloc (.cells #[.int .u8 (c.toNat : Int)] 5)) = .ok (.string (ofL [c])) (W.alloc (.cells #[.int .u8 (c.toNat : Int)] 5)) :=
  conv_back (B := W.heap.size) (n := 1) (l := [c]) (World.ownsRow_lit (base := W.heap.size) (e := 5) (size := 1) W #[.int .u8 (c.toNat : Int)] 1 (Nat.le_refl _) (by decide) rfl) (by decide)
set_option maxRecDepth 100000 in
set_option maxHeartbeats 16000000 in
theorem rwhole_any (v : Int) (w : World) (hv : inI v) : Calls Tryd.prog 46 #[.int .i64 v] w fun e w' => e = .returned (.string (ofL (Lib.itoa v))) ∧ Below w.heap.size w w' := by
  obtain ⟨U, hU⟩ : ∃ U, v.natAbs = U := ⟨_, rfl⟩
  have HUL : Hid (U ≤ 9223372036854775808) := Lib.hid (by unfold inI at hv; omega)
  have HDL : Hid ((Lib.decDigits U).length ≤ 20) := Lib.hid (by
    rw [Lib.decDigits_length]
    exact nDig_le 19 U (by have := HUL.out; have : (9223372036854775808 : Nat) < 10 ^ (19 + 1) := by decide
                           omega))
  have HB : Hid (Below w.heap.size w w) := Lib.hid (Below.refl _ _)
  by_cases hneg : v < 0
  · have d0 : decide (v < 0) = true := decide_eq_true hneg
    have HIT : Hid (ofL (Lib.itoa v) = ofL (45 :: Lib.decDigits U)) := Lib.hid (by unfold Lib.itoa; rw [if_pos hneg, hU])
    obtain ⟨u0, hu0⟩ : ∃ u0 : Nat, v + 18446744073709551616 = (u0 : Int) := ⟨(v + 18446744073709551616).toNat, by unfold inI at hv; omega⟩
    have y1 : IntKind.u64.wrap v = (u0 : Int) := by rw [IntKind.wrap_u64]; unfold inI at hv; omega
    have y2 : IntKind.u64.wrap (-(u0 : Int)) = (U : Int) := by rw [IntKind.wrap_u64]; unfold inI at hv; omega
    obtain ⟨R, hR⟩ : ∃ R, ofL (Lib.itoa v) = R := ⟨_, rfl⟩
    rw [hR] at HIT ⊢
    clear hR hU hu0 hneg
    go_enter Tryd.func46, Tryd.ntmps46
    go_wp2
    go_loopw [3, 4] (fun u s W => ∃ (m : Nat) (t : ByteArray), u = .int .u64 m ∧ s = .string t ∧ Lib.decDigits U = Lib.decDigits m ++ t.data.toList ∧ m ≤ U ∧ Below w.heap.size w W) (fun u _ _ => (intOf u).toNat)
    case atStart => exact ⟨U, _, rfl, rfl, by simp, Nat.le_refl _, HB.out⟩
    case round =>
      obtain ⟨m, t, rfl, rfl, hd, hm, hb⟩ := hrel
      have HD := Lib.hid hd
      have HM := Lib.hid hm
      have HB1 := Lib.hid hb
      have HTS : Hid (t.size ≤ 20) := Lib.hid (by
        have h1 := congrArg List.length hd
        rw [List.length_append] at h1
        have h2 := HDL.out
        have h3 : t.data.toList.length = t.size := rfl
        omega)
      clear hd hm hb HB
      by_cases h9 : 9 < m
      · have d1 : decide ((9 : Int) < (m : Int)) = true := decide_eq_true (by omega)
        have d1' : decide (9 < m) = true := decide_eq_true h9
        obtain ⟨r, hr⟩ : ∃ r, m % 10 = r := ⟨_, rfl⟩
        obtain ⟨m2, hm2⟩ : ∃ r, m / 10 = r := ⟨_, rfl⟩
        obtain ⟨q, hq⟩ : ∃ q, 48 + r = q := ⟨_, rfl⟩
        obtain ⟨c, hc⟩ : ∃ c, UInt8.ofNat q = c := ⟨_, rfl⟩
        have hcn : c.toNat = q := by rw [← hc, UInt8.toNat_ofNat']; omega
        have x1 : Int.tmod (m : Int) 10 = (r : Int) := by rw [← hr]; exact (Int.ofNat_tmod m 10).symm
        have x0 : Int.tdiv (m : Int) 10 = (m2 : Int) := by rw [← hm2]; exact (Int.ofNat_tdiv m 10).symm
        have x1' : (m : Int) % 10 = (r : Int) := by omega
        have x0' : (m : Int) / 10 = (m2 : Int) := by omega
        have x5 : IntKind.u64.wrap (r : Int) = (r : Int) := by rw [IntKind.wrap_u64]; omega
        have x6 : IntKind.u64.wrap (m2 : Int) = (m2 : Int) := by rw [IntKind.wrap_u64]; have := HM.out; have := HUL.out; omega
        have x2 : IntKind.u64.wrap (48 + (r : Int)) = (q : Int) := by rw [IntKind.wrap_u64]; omega
        have x3 : IntKind.u8.wrap (q : Int) = (c.toNat : Int) := by rw [IntKind.wrap_u8, hcn]; omega
        have HDD : Hid (Lib.decDigits U = Lib.decDigits m2 ++ (ofL [c] ++ t).data.toList) := Lib.hid (by
          rw [HD.out, Go.Joins.data_append]
          conv => lhs; rw [Lib.decDigits, dif_neg (by omega)]
          rw [hr, hm2, hq, hc, List.append_assoc]; rfl)
        have HM2 : Hid (m2 ≤ U ∧ m2 < m) := Lib.hid (by have := HM.out; omega)
        have hcv := conv_one wr c
        obtain ⟨sc, hsc⟩ : ∃ z, ofL [c] = z := ⟨_, rfl⟩
        have HSC : Hid (sc.size = 1) := Lib.hid (by rw [← hsc]; rfl)
        rw [hsc] at hcv HDD
        have g1 : ¬ 9223372036854775807 < sc.size + t.size := by have := HSC.out; have := HTS.out; omega
        have hby : Below wr.heap.size wr (wr.alloc (.cells #[.int .u8 (c.toNat : Int)] 5)) := (Below.refl _ _).alloc (Nat.le_refl _) _
        have HB2 := Lib.hid (stepB HB1.out hby)
        clear hby hr hm2 hq hc hcn hsc h9
        go_wp2
        go_roundw
        case rel => exact ⟨m2, sc ++ t, rfl, rfl, HDD.out, HM2.out.1, HB2.out⟩
        case measure => have := HM2.out; simp [intOf]; omega
      · have d1 : decide ((9 : Int) < (m : Int)) = false := decide_eq_false (by omega)
        have d1' : decide (9 < m) = false := decide_eq_false h9
        obtain ⟨q, hq⟩ : ∃ q, 48 + m = q := ⟨_, rfl⟩
        obtain ⟨c, hc⟩ : ∃ c, UInt8.ofNat q = c := ⟨_, rfl⟩
        have hcn : c.toNat = q := by rw [← hc, UInt8.toNat_ofNat']; omega
        have x2 : IntKind.u64.wrap (48 + (m : Int)) = (q : Int) := by rw [IntKind.wrap_u64]; omega
        have x3 : IntKind.u8.wrap (q : Int) = (c.toNat : Int) := by rw [IntKind.wrap_u8, hcn]; omega
        have HDD : Hid (Lib.decDigits U = (ofL [c] ++ t).data.toList) := Lib.hid (by
          rw [HD.out, Go.Joins.data_append, Lib.decDigits, dif_pos (by omega), hq, hc]; rfl)
        have hcv := conv_one wr c
        obtain ⟨sc, hsc⟩ : ∃ z, ofL [c] = z := ⟨_, rfl⟩
        have HSC : Hid (sc.size = 1) := Lib.hid (by rw [← hsc]; rfl)
        rw [hsc] at hcv HDD
        have g1 : ¬ 9223372036854775807 < sc.size + t.size := by have := HSC.out; have := HTS.out; omega
        have g2 : ¬ 9223372036854775807 < 1 + (sc.size + t.size) := by have := HSC.out; have := HTS.out; omega
        have hby : Below wr.heap.size wr (wr.alloc (.cells #[.int .u8 (c.toNat : Int)] 5)) := (Below.refl _ _).alloc (Nat.le_refl _) _
        have HB2 := Lib.hid (stepB HB1.out hby)
        clear hby hq hc hcn hsc h9
        go_wp2
        go_ret
        refine ⟨?_, HB2.out⟩
        rw [HIT.out, HDD.out]
        first
          | (congr 2; done)
          | (show Ending.returned (.string (sc ++ t)) = _; congr 2; exact data_inj rfl)
          | (congr 2; exact data_inj (by rw [Go.Joins.data_append]; rfl))
  · have d0 : decide (v < 0) = false := decide_eq_false hneg
    have HIT : Hid (ofL (Lib.itoa v) = ofL (Lib.decDigits U)) := Lib.hid (by unfold Lib.itoa; rw [if_neg hneg, ← hU]; congr 2; omega)
    have y1 : IntKind.u64.wrap v = (U : Int) := by rw [IntKind.wrap_u64]; unfold inI at hv; omega
    obtain ⟨R, hR⟩ : ∃ R, ofL (Lib.itoa v) = R := ⟨_, rfl⟩
    rw [hR] at HIT ⊢
    clear hR hU hneg
    go_enter Tryd.func46, Tryd.ntmps46
    go_wp2
    go_loopw [3, 4] (fun u s W => ∃ (m : Nat) (t : ByteArray), u = .int .u64 m ∧ s = .string t ∧ Lib.decDigits U = Lib.decDigits m ++ t.data.toList ∧ m ≤ U ∧ Below w.heap.size w W) (fun u _ _ => (intOf u).toNat)
    case atStart => exact ⟨U, _, rfl, rfl, by simp, Nat.le_refl _, HB.out⟩
    case round =>
      obtain ⟨m, t, rfl, rfl, hd, hm, hb⟩ := hrel
      have HD := Lib.hid hd
      have HM := Lib.hid hm
      have HB1 := Lib.hid hb
      have HTS : Hid (t.size ≤ 20) := Lib.hid (by
        have h1 := congrArg List.length hd
        rw [List.length_append] at h1
        have h2 := HDL.out
        have h3 : t.data.toList.length = t.size := rfl
        omega)
      clear hd hm hb HB
      by_cases h9 : 9 < m
      · have d1 : decide ((9 : Int) < (m : Int)) = true := decide_eq_true (by omega)
        have d1' : decide (9 < m) = true := decide_eq_true h9
        obtain ⟨r, hr⟩ : ∃ r, m % 10 = r := ⟨_, rfl⟩
        obtain ⟨m2, hm2⟩ : ∃ r, m / 10 = r := ⟨_, rfl⟩
        obtain ⟨q, hq⟩ : ∃ q, 48 + r = q := ⟨_, rfl⟩
        obtain ⟨c, hc⟩ : ∃ c, UInt8.ofNat q = c := ⟨_, rfl⟩
        have hcn : c.toNat = q := by rw [← hc, UInt8.toNat_ofNat']; omega
        have x1 : Int.tmod (m : Int) 10 = (r : Int) := by rw [← hr]; exact (Int.ofNat_tmod m 10).symm
        have x0 : Int.tdiv (m : Int) 10 = (m2 : Int) := by rw [← hm2]; exact (Int.ofNat_tdiv m 10).symm
        have x1' : (m : Int) % 10 = (r : Int) := by omega
        have x0' : (m : Int) / 10 = (m2 : Int) := by omega
        have x5 : IntKind.u64.wrap (r : Int) = (r : Int) := by rw [IntKind.wrap_u64]; omega
        have x6 : IntKind.u64.wrap (m2 : Int) = (m2 : Int) := by rw [IntKind.wrap_u64]; have := HM.out; have := HUL.out; omega
        have x2 : IntKind.u64.wrap (48 + (r : Int)) = (q : Int) := by rw [IntKind.wrap_u64]; omega
        have x3 : IntKind.u8.wrap (q : Int) = (c.toNat : Int) := by rw [IntKind.wrap_u8, hcn]; omega
        have HDD : Hid (Lib.decDigits U = Lib.decDigits m2 ++ (ofL [c] ++ t).data.toList) := Lib.hid (by
          rw [HD.out, Go.Joins.data_append]
          conv => lhs; rw [Lib.decDigits, dif_neg (by omega)]
          rw [hr, hm2, hq, hc, List.append_assoc]; rfl)
        have HM2 : Hid (m2 ≤ U ∧ m2 < m) := Lib.hid (by have := HM.out; omega)
        have hcv := conv_one wr c
        obtain ⟨sc, hsc⟩ : ∃ z, ofL [c] = z := ⟨_, rfl⟩
        have HSC : Hid (sc.size = 1) := Lib.hid (by rw [← hsc]; rfl)
        rw [hsc] at hcv HDD
        have g1 : ¬ 9223372036854775807 < sc.size + t.size := by have := HSC.out; have := HTS.out; omega
        have hby : Below wr.heap.size wr (wr.alloc (.cells #[.int .u8 (c.toNat : Int)] 5)) := (Below.refl _ _).alloc (Nat.le_refl _) _
        have HB2 := Lib.hid (stepB HB1.out hby)
        clear hby hr hm2 hq hc hcn hsc h9
        go_wp2
        go_roundw
        case rel => exact ⟨m2, sc ++ t, rfl, rfl, HDD.out, HM2.out.1, HB2.out⟩
        case measure => have := HM2.out; simp [intOf]; omega
      · have d1 : decide ((9 : Int) < (m : Int)) = false := decide_eq_false (by omega)
        have d1' : decide (9 < m) = false := decide_eq_false h9
        obtain ⟨q, hq⟩ : ∃ q, 48 + m = q := ⟨_, rfl⟩
        obtain ⟨c, hc⟩ : ∃ c, UInt8.ofNat q = c := ⟨_, rfl⟩
        have hcn : c.toNat = q := by rw [← hc, UInt8.toNat_ofNat']; omega
        have x2 : IntKind.u64.wrap (48 + (m : Int)) = (q : Int) := by rw [IntKind.wrap_u64]; omega
        have x3 : IntKind.u8.wrap (q : Int) = (c.toNat : Int) := by rw [IntKind.wrap_u8, hcn]; omega
        have HDD : Hid (Lib.decDigits U = (ofL [c] ++ t).data.toList) := Lib.hid (by
          rw [HD.out, Go.Joins.data_append, Lib.decDigits, dif_pos (by omega), hq, hc]; rfl)
        have hcv := conv_one wr c
        obtain ⟨sc, hsc⟩ : ∃ z, ofL [c] = z := ⟨_, rfl⟩
        have HSC : Hid (sc.size = 1) := Lib.hid (by rw [← hsc]; rfl)
        rw [hsc] at hcv HDD
        have g1 : ¬ 9223372036854775807 < sc.size + t.size := by have := HSC.out; have := HTS.out; omega
        have g2 : ¬ 9223372036854775807 < 1 + (sc.size + t.size) := by have := HSC.out; have := HTS.out; omega
        have hby : Below wr.heap.size wr (wr.alloc (.cells #[.int .u8 (c.toNat : Int)] 5)) := (Below.refl _ _).alloc (Nat.le_refl _) _
        have HB2 := Lib.hid (stepB HB1.out hby)
        clear hby hq hc hcn hsc h9
        go_wp2
        go_ret
        refine ⟨?_, HB2.out⟩
        rw [HIT.out, HDD.out]
        first
          | (congr 2; done)
          | (show Ending.returned (.string (sc ++ t)) = _; congr 2; exact data_inj rfl)
          | (congr 2; exact data_inj (by rw [Go.Joins.data_append]; rfl))
end Go.Proofs.YtkgdmdcnhbaidaaDoor
