/- CallWords: its walk. -/
import Derived.Test.YtkgdmdcnhbaidaaDoorR5
import Derived.Test.YtkgdmdcnhbaidaaDoorY4
namespace Go.Proofs.YtkgdmdcnhbaidaaDoor
open Go.ChangeShapes Go.WideShapes Go.ChangeAt Go.RowKit
set_option linter.unusedVariables false
set_option linter.unusedSimpArgs false

theorem parE_no {s : ByteArray} (h : okP s = false) : parE s = 4 := by unfold parE; rw [h]; rfl
theorem b32 {c : UInt8} : (((c.toNat : Nat) : Int) == 32) = decide (c = 32) := by
  rw [Bool.eq_iff_iff, beq_iff_eq, decide_eq_true_eq]
  constructor
  · intro h
    have h2 : c.toNat = 32 := by omega
    exact UInt8.toNat_inj.1 h2
  · intro h; rw [h]; rfl
set_option maxRecDepth 100000 in
set_option maxHeartbeats 16000000 in
theorem words_walk (kn : Nat) (tx : Int) (ke en va : ByteArray) (li : Int) (eg : Nat) (at_ : Int) (wd : ByteArray) (W : World) (hx : COk (kn, tx, ke, en, va, li, eg)) (ha : inI at_) (hs : wd.size ≤ maxLen) (hg : Gl W) :
    Calls Tryd.prog 7 #[.agg #[.int .u8 (kn : Int), .int .i64 tx, .string ke, .string en, .string va, .int .i64 li, .int .u8 (eg : Int)], .int .i64 at_, .string wd] W fun e w' => e = .returned (.bool true) ∧ Below W.heap.size W w' := by
  have b1 : Below W.heap.size W (W.alloc (.cells #[.int .u8 (kn : Int), .int .i64 tx, .string ke, .string en, .string va, .int .i64 li, .int .u8 (eg : Int)] 24)) := (Below.refl _ _).alloc (Nat.le_refl _) _
  have HX : Hid (Blk (W.alloc (.cells #[.int .u8 (kn : Int), .int .i64 tx, .string ke, .string en, .string va, .int .i64 li, .int .u8 (eg : Int)] 24)) W.heap.size #[.int .u8 (kn : Int), .int .i64 tx, .string ke, .string en, .string va, .int .i64 li, .int .u8 (eg : Int)] 24) := Blk.new _ _ _
  have HB := Lib.hid b1
  have HG := Lib.hid (hg.later HB.out)
  have HCX := Lib.hid hx
  have HAT := Lib.hid ha
  have HSS := Lib.hid hs
  clear hg b1 hx ha hs
  go_enter Tryd.func7, Tryd.ntmps7
  go_upto_region 1 with (fail)
  generalize (W.alloc (.cells #[.int .u8 (kn : Int), .int .i64 tx, .string ke, .string en, .string va, .int .i64 li, .int .u8 (eg : Int)] 24)) = w2 at *
  obtain ⟨p3, hp3⟩ : ∃ x, W.heap.size = x := ⟨_, rfl⟩
  have HP3 := Lib.hid hp3
  rw [hp3] at HX
  rw [hp3]
  clear hp3
  have HCL_ := Lib.hid (works_any w2 HG.out)
  go_wp2_with fail
  refine HCL_.out.mono ?_
  rintro e w3 ⟨rfl, hb⟩
  replace HX := Lib.hid (HX.out.later hb)
  replace HG := Lib.hid (HG.out.later hb)
  replace HB := Lib.hid (stepB HB.out hb)
  clear hb HCL_
  have x0 := HX.out.cell 0
  have x1 := HX.out.cell 1
  have x2 := HX.out.cell 2
  have x3 := HX.out.cell 3
  have x4 := HX.out.cell 4
  have x5 := HX.out.cell 5
  have x6 := HX.out.cell 6
  simp only [List.getElem?_toArray, List.getElem?_cons_zero, List.getElem?_cons_succ] at x0 x1 x2 x3 x4 x5 x6
  have hby : Below w3.heap.size w3 (w3.alloc (.cells #[.int .u8 (kn : Int), .int .i64 tx, .string ke, .string en, .string va, .int .i64 li, .int .u8 (eg : Int)] 24)) := (Below.refl _ _).alloc (Nat.le_refl _) _
  have hbs : Blk (w3.alloc (.cells #[.int .u8 (kn : Int), .int .i64 tx, .string ke, .string en, .string va, .int .i64 li, .int .u8 (eg : Int)] 24)) w3.heap.size #[.int .u8 (kn : Int), .int .i64 tx, .string ke, .string en, .string va, .int .i64 li, .int .u8 (eg : Int)] 24 := Blk.new _ _ _
  have HL := Lib.hid (long_any (some ⟨w3.heap.size, 0, none⟩) 1 1 [(kn, tx, ke, en, va, li, eg)] (w3.alloc (.cells #[.int .u8 (kn : Int), .int .i64 tx, .string ke, .string en, .string va, .int .i64 li, .int .u8 (eg : Int)] 24)) (Blk.rsl (enc := clE) (x := (kn, tx, ke, en, va, li, eg)) hbs) (by decide))
  replace HX := Lib.hid (HX.out.later hby)
  replace HG := Lib.hid (HG.out.later hby)
  replace HB := Lib.hid (stepB HB.out hby)
  clear hby hbs
  go_wp2_with fail
  clear x0 x1 x2 x3 x4 x5 x6
  refine HL.out.mono ?_
  rintro e w5 ⟨rfl, hb⟩
  replace HX := Lib.hid (HX.out.later hb)
  replace HG := Lib.hid (HG.out.later hb)
  replace HB := Lib.hid (stepB HB.out hb)
  clear hb HL
  obtain ⟨bl_, hbl⟩ : ∃ b, decide (9000 ≤ lgS [(kn, tx, ke, en, va, li, eg)]) = b := ⟨_, rfl⟩
  rw [hbl]
  have HLG := Lib.hid hbl
  clear hbl
  cases bl_ with
  | true =>
    go_wp2_with fail
    refine (works_any w5 HG.out).mono ?_
    rintro e w6 ⟨rfl, hb⟩
    replace HB := Lib.hid (stepB HB.out hb)
    clear hb
    go_wp2
    go_ret
    exact ⟨rfl, HB.out⟩
  | false =>
    by_cases hsz : 3000 < wd.size
    · have d9 : decide (3000 < (wd.size : Int)) = true := decide_eq_true (by omega)
      clear hsz
      go_wp2_with fail
      refine (works_any w5 HG.out).mono ?_
      rintro e w7 ⟨rfl, hb⟩
      replace HB := Lib.hid (stepB HB.out hb)
      clear hb
      go_wp2
      go_ret
      exact ⟨rfl, HB.out⟩
    · have d9 : decide (3000 < (wd.size : Int)) = false := decide_eq_false (by omega)
      have HSZ : Hid (wd.size ≤ 3000) := Lib.hid (by omega)
      clear hsz
      have HCO := Lib.hid (co_of HCX.out HLG.out)
      clear HLG HSS
      have x0 := HX.out.cell 0
      have x1 := HX.out.cell 1
      have x2 := HX.out.cell 2
      have x3 := HX.out.cell 3
      have x4 := HX.out.cell 4
      have x5 := HX.out.cell 5
      have x6 := HX.out.cell 6
      simp only [List.getElem?_toArray, List.getElem?_cons_zero, List.getElem?_cons_succ] at x0 x1 x2 x3 x4 x5 x6
      have HCL_ := Lib.hid (show_any (kn, tx, ke, en, va, li, eg) w5 HCO.out.1 HG.out (by have := HCO.out.2; omega))
      go_wp2_with fail
      refine HCL_.out.mono ?_
      rintro e w7 ⟨rfl, hb⟩
      replace HX := Lib.hid (HX.out.later hb)
      replace HG := Lib.hid (HG.out.later hb)
      replace HB := Lib.hid (stepB HB.out hb)
      clear hb HCL_
      clear x0 x1 x2 x3 x4 x5 x6
      clear d9
      obtain ⟨s, hs⟩ : ∃ z, showP (kn, tx, ke, en, va, li, eg) = z := ⟨_, rfl⟩
      rw [hs]
      have HSH := Lib.hid hs.symm
      have HS1 : Hid (s.size ≤ 90000) := Lib.hid (by
        rw [← hs]
        unfold showP
        split
        · exact HCO.out.2
        · show (0 : Nat) ≤ _; omega)
      have HME : Hid (s.size ≠ 0 → mayC (kn, tx, ke, en, va, li, eg) = true) := Lib.hid (fun h => by
        by_cases hm : mayC (kn, tx, ke, en, va, li, eg) = true
        · exact hm
        · exfalso; apply h; rw [← hs]; unfold showP; rw [if_neg hm]; rfl)
      clear hs HX HCO
      obtain ⟨n, hn⟩ : ∃ n, s.size = n := ⟨_, rfl⟩
      rw [hn] at HS1 HME
      have HLN : Hid (s.data.toList.length = n) := Lib.hid hn
      by_cases hz : n = 0
      · have e0 : s.toList.isEmpty = true := by
          rw [ByteArray.toList_eq, List.isEmpty_iff]
          exact List.eq_nil_of_length_eq_zero (by have := HLN.out; omega)
        clear hz hn
        go_wp2
        go_ret
        exact ⟨rfl, HB.out⟩
      · have e0 : s.toList.isEmpty = false := by
          rw [ByteArray.toList_eq, Bool.eq_false_iff]
          intro e
          rw [List.isEmpty_iff] at e
          exact hz (by have := HLN.out; rw [e] at this; exact this.symm)
        have HM := Lib.hid (HME.out hz)
        have HN1 : Hid (1 ≤ n) := Lib.hid (by omega)
        have HNN := Lib.hid hn
        clear hz HME
        go_upto_block 0 with (fail)
        clear e0
        go_wp2
        go_loopw [8] (fun i wr => ∃ (k : Nat), k ≤ n ∧ i = .int .i64 k ∧ Gl wr ∧ Below W.heap.size W wr) (fun i _ => n - (intOf i).toNat)
        case atStart => exact ⟨0, Nat.zero_le _, rfl, HG.out, HB.out⟩
        case round =>
          obtain ⟨k, hk, rfl, hg, hb⟩ := hrel
          clear HG HB
          have HG := Lib.hid hg
          have HB := Lib.hid hb
          clear hg hb
          by_cases hlt : k < n
          · have d2 : decide ((k : Int) < (n : Int)) = true := decide_eq_true (by omega)
            have wk : IntKind.i64.wrap ((k : Int) + 1) = (k : Int) + 1 := IntWalk.i64_in _ (by have := HS1.out; omega)
            have i1 := sindex_ s k (k : Int) rfl (by rw [hn]; exact hlt)
            obtain ⟨c, hc⟩ : ∃ c, s.data.toList.getD k 0 = c := ⟨_, rfl⟩
            rw [hc] at i1
            have hb32 := b32 (c := c)
            by_cases h32 : c = 32
            · rw [decide_eq_true h32] at hb32
              have HNO : Hid (okP (s.extract 0 k) = false) := Lib.hid (no_begin HM.out HSH.out (at_cut (by have := HLN.out; omega) (by rw [hc, h32])) (ext_to s k))
              have HPA := parse_any (s.extract 0 k) wr (by rw [ByteArray.size_extract]; have := HS1.out; omega) HG.out
              rw [parV_eq, parE_no HNO.out] at HPA
              obtain ⟨y, hy⟩ : ∃ y, parC (s.extract 0 k) = y := ⟨_, rfl⟩
              rw [hy] at HPA
              obtain ⟨kn2, tx2, ke2, en2, va2, li2, eg2⟩ := y
              unfold clV at HPA
              simp only at HPA
              have HPB := Lib.hid HPA
              have hkn : k ≤ n := hk
              clear HPA hy h32 hc HNO
              go_wp2_with fail
              refine HPB.out.mono ?_
              rintro e w8 ⟨rfl, hb⟩
              have hby : Below w8.heap.size w8 (w8.alloc (.cells #[.int .u8 (kn2 : Int), .int .i64 tx2, .string ke2, .string en2, .string va2, .int .i64 li2, .int .u8 (eg2 : Int)] 24)) := (Below.refl _ _).alloc (Nat.le_refl _) _
              have HGN := Lib.hid ((HG.out.later hb).later hby)
              have HBN := Lib.hid (stepB (stepB HB.out hb) hby)
              clear hb hby HPB i1 hb32
              go_wp2
              go_roundw
              case rel => exact ⟨k + 1, by omega, by go_num, HGN.out, HBN.out⟩
              case measure => simp [intOf]; omega
            · rw [decide_eq_false h32] at hb32
              clear h32 hc
              go_wp2
              go_roundw
              case rel => exact ⟨k + 1, by omega, by go_num, HG.out, HB.out⟩
              case measure => simp [intOf]; omega
          · obtain rfl : n = k := by omega
            have d2 : decide ((n : Int) < (n : Int)) = false := decide_eq_false (by omega)
            obtain ⟨U, a, ha1, w1, w2, w3, w4, w5, w6⟩ := which_of at_ (n + 1) (by omega) (by have := HS1.out; omega)
            have ec : ((n + 1 : Nat) : Int) = (n : Int) + 1 := by omega
            rw [ec] at w2 w5 w6
            have wk : IntKind.i64.wrap ((n : Int) + 1) = (n : Int) + 1 := IntWalk.i64_in _ (by have := HS1.out; omega)
            have HA1 := Lib.hid ha1
            clear ha1 ec
            have HSD : Hid (s.size = n) := HNN.out
            have g1 : ¬ 9223372036854775807 < n + 1 := by have := HS1.out; omega
            have g2 : ¬ 9223372036854775807 < n + 1 + wd.size := by have := HS1.out; have := HSZ.out; omega
            have g3 : ¬ 9223372036854775807 < 1 + n := by have := HS1.out; omega
            have HT1 : Hid (okP (s ++ { data := #[32] } ++ wd) = false) := Lib.hid (no_more (w := wd.data.toList) HM.out HSH.out (by rw [Go.Joins.data_append, Go.Joins.data_append, List.append_assoc]; rfl))
            have HT2 : Hid (okP ({ data := #[32] } ++ s) = false) := Lib.hid (no_front (l := s.data.toList) (by rw [Go.Joins.data_append]; rfl))
            have HZ1 : Hid ((s ++ { data := #[32] } ++ wd).size ≤ 100000 ∧ ({ data := #[32] } ++ s : ByteArray).size ≤ 100000) := Lib.hid (by
              have h1 := HS1.out
              have h2 := HSZ.out
              have h3 := HSD.out
              have h4 : ({ data := #[32] } : ByteArray).size = 1 := rfl
              rw [ByteArray.size_append, ByteArray.size_append, ByteArray.size_append, h4]
              omega)
            go_upto_region 14 with (fail)
            clear w1 w2 w3 w4 w5 w6 wk d2
            have HPA := parse_any (s ++ { data := #[32] } ++ wd) wr HZ1.out.1 HG.out
            rw [parV_eq, parE_no HT1.out] at HPA
            obtain ⟨y, hy⟩ : ∃ y, parC (s ++ { data := #[32] } ++ wd) = y := ⟨_, rfl⟩
            rw [hy] at HPA
            clear hy
            obtain ⟨kn2, tx2, ke2, en2, va2, li2, eg2⟩ := y
            unfold clV at HPA
            simp only at HPA
            have HPB := Lib.hid HPA
            clear HPA
            go_wp2_with fail
            refine HPB.out.mono ?_
            rintro e w8 ⟨rfl, hb⟩
            have hby : Below w8.heap.size w8 (w8.alloc (.cells #[.int .u8 (kn2 : Int), .int .i64 tx2, .string ke2, .string en2, .string va2, .int .i64 li2, .int .u8 (eg2 : Int)] 24)) := (Below.refl _ _).alloc (Nat.le_refl _) _
            have HG2 := Lib.hid ((HG.out.later hb).later hby)
            have HB2 := Lib.hid (stepB (stepB HB.out hb) hby)
            clear hb hby HPB HG HB
            go_upto_region 15 with (fail)
            generalize w8.alloc (.cells #[.int .u8 (kn2 : Int), .int .i64 tx2, .string ke2, .string en2, .string va2, .int .i64 li2, .int .u8 (eg2 : Int)] 24) = w9 at *
            obtain ⟨p9, hp9⟩ : ∃ x, w8.heap.size = x := ⟨_, rfl⟩
            rw [hp9]
            clear hp9
            have HPA := parse_any ({ data := #[32] } ++ s) w9 HZ1.out.2 HG2.out
            rw [parV_eq, parE_no HT2.out] at HPA
            obtain ⟨y, hy⟩ : ∃ y, parC ({ data := #[32] } ++ s) = y := ⟨_, rfl⟩
            rw [hy] at HPA
            clear hy
            obtain ⟨kn3, tx3, ke3, en3, va3, li3, eg3⟩ := y
            unfold clV at HPA
            simp only at HPA
            have HPB := Lib.hid HPA
            clear HPA
            go_wp2_with fail
            refine HPB.out.mono ?_
            rintro e w10 ⟨rfl, hb⟩
            have hby : Below w10.heap.size w10 (w10.alloc (.cells #[.int .u8 (kn3 : Int), .int .i64 tx3, .string ke3, .string en3, .string va3, .int .i64 li3, .int .u8 (eg3 : Int)] 24)) := (Below.refl _ _).alloc (Nat.le_refl _) _
            have HG := Lib.hid ((HG2.out.later hb).later hby)
            have HB := Lib.hid (stepB (stepB HB2.out hb) hby)
            clear hb hby HPB HG2 HB2 g1 g2 g3 HT1 HT2 HZ1
            go_upto_region 16 with (fail)
            generalize w10.alloc (.cells #[.int .u8 (kn3 : Int), .int .i64 tx3, .string ke3, .string en3, .string va3, .int .i64 li3, .int .u8 (eg3 : Int)] 24) = w11 at *
            obtain ⟨p10, hp10⟩ : ∃ x, w10.heap.size = x := ⟨_, rfl⟩
            rw [hp10]
            clear hp10
            have HAL : Hid (a ≤ n) := Lib.hid (by have := HA1.out; omega)
            have HPRE : Hid (1 ≤ a → s.data.toList.getD (a - 1) 0 = 32 → okP (s.extract 0 a ++ { data := #[32] } ++ s.extract a n) = false) := Lib.hid (fun h1 h2 => no_two HM.out HSH.out (at_cut (k := a - 1) (by have := HLN.out; have := HAL.out; omega) h2) (by
              rw [Go.Joins.data_append, Go.Joins.data_append, ext_to, ← HSD.out, ext_from, List.append_assoc]
              have h3 := at_cut (l := s.data.toList) (k := a - 1) (by have := HLN.out; have := HAL.out; omega) h2
              have h4 : a - 1 + 1 = a := by omega
              have h5 : s.data.toList.take a = s.data.toList.take (a - 1) ++ [32] := by
                have h6 := List.take_add_one (l := s.data.toList) (i := a - 1)
                rw [h4, List.getElem?_eq_getElem (by have := HLN.out; have := HAL.out; omega)] at h6
                rw [h6]
                have h7 : s.data.toList[a - 1]'(by have := HLN.out; have := HAL.out; omega) = 32 := by
                  rw [List.getD_eq_getElem?_getD, List.getElem?_eq_getElem (by have := HLN.out; have := HAL.out; omega)] at h2
                  exact h2
                rw [h7]; rfl
              rw [h5, h4, List.append_assoc]; rfl))
            by_cases hlt : a < n
            · have d1 : decide ((a : Int) < (n : Int)) = true := decide_eq_true (by omega)
              have d1' : decide (a < n) = true := decide_eq_true hlt
              have i1 := sindex_ s a (a : Int) rfl (by rw [HSD.out]; exact hlt)
              obtain ⟨c, hc⟩ : ∃ c, s.data.toList.getD a 0 = c := ⟨_, rfl⟩
              rw [hc] at i1
              have hb32 := b32 (c := c)
              by_cases h32 : c = 32
              · rw [decide_eq_true h32] at hb32
                have HNO : Hid (okP (s.extract 0 a ++ { data := #[32] } ++ s.extract a n) = false) := Lib.hid (no_two HM.out HSH.out (at_cut (k := a) (by have := HLN.out; omega) (by rw [hc, h32])) (by
                  rw [Go.Joins.data_append, Go.Joins.data_append, ext_to, ← HSD.out, ext_from, List.append_assoc]
                  have h3 : s.data.toList.drop a = 32 :: s.data.toList.drop (a + 1) := by
                    rw [List.drop_eq_getElem_cons (by have := HLN.out; omega)]
                    have h7 : s.data.toList[a]'(by have := HLN.out; omega) = 32 := by
                      rw [List.getD_eq_getElem?_getD, List.getElem?_eq_getElem (by have := HLN.out; omega)] at hc
                      rw [← h32]; exact hc
                    rw [h7]
                  rw [h3]; rfl))
                clear h32 hc hlt HPRE
                have HPT : Hid (∃ y : Cl, ∀ V, Gl V → Calls Tryd.prog 11 #[.string (s.extract 0 a ++ { data := #[32] } ++ s.extract a n)] V fun e w' => e = .returned (.tuple #[clV y, .int .i64 4]) ∧ Below V.heap.size V w') := Lib.hid ⟨parC (s.extract 0 a ++ { data := #[32] } ++ s.extract a n), fun V hV => by
                  have h := parse_any (s.extract 0 a ++ { data := #[32] } ++ s.extract a n) V (by
                    rw [ByteArray.size_append, ByteArray.size_append, ByteArray.size_extract, ByteArray.size_extract, show ({ data := #[32] } : ByteArray).size = 1 from rfl]
                    have := HS1.out
                    omega) hV
                  rw [parV_eq, parE_no HNO.out] at h
                  exact h⟩
                obtain ⟨y, hpt⟩ := HPT.out
                obtain ⟨kn4, tx4, ke4, en4, va4, li4, eg4⟩ := y
                unfold clV at hpt
                simp only at hpt
                clear HPT
                have HPT := Lib.hid hpt
                clear hpt HNO
                go_upto_region 19 with (fail)
                refine wp_region_noPanic ?_
                obtain ⟨W0, rfl⟩ : ∃ W0 : World, W0 = w11 := ⟨_, rfl⟩
                refine wp_region_held_drew (S := fun W => Below W0.heap.size W0 W) (by kernel_rfl) (Below.drew (Below.refl _ _)) (fun hHeld => ?_)
                have HH := Lib.hid hHeld
                obtain ⟨Wd, hWd⟩ : ∃ Wd, W0.drew = Wd := ⟨_, rfl⟩
                rw [hWd] at HH hHeld ⊢
                clear hWd
                refine wpAnyH_take (i := 0) (oi := { dst := some 109, op := Op.move (Operand.tmp 7), type := 9, pos := "outright.go:134", after := #[], guard := none }) (v := ?_) rfl (by kernel_rfl) (by kernel_rfl) (by kernel_rfl) (fun _ _ _ h => h) (Or.inl ⟨by rfl, ?_⟩) (by assumption) ?_
                rotate_left
                · intro W hSw
                  clear hSw
                  go_simp
                  try with_reducible rfl
                simp only [Act.put, List.setIfInBounds_toArray, List.set_cons_zero, List.set_cons_succ]
                refine wpAnyH_take (i := 1) (oi := { dst := some 110, op := Op.move (Operand.tmp 1), type := 3, pos := "outright.go:134", after := #[], guard := none }) (v := ?_) rfl (by kernel_rfl) (by kernel_rfl) (by kernel_rfl) (fun _ _ _ h => h) (Or.inl ⟨by rfl, ?_⟩) (by assumption) ?_
                rotate_left
                · intro W hSw
                  clear hSw
                  go_simp
                  try with_reducible rfl
                simp only [Act.put, List.setIfInBounds_toArray, List.set_cons_zero, List.set_cons_succ]
                refine wpAnyH_take (i := 2) (oi := { dst := some 111, op := Op.slice 9 (Operand.tmp 109) none (some (Operand.tmp 110)) none, type := 9, pos := "outright.go:134", after := #[{ on := 0, ground := Ground.data }, { on := 1, ground := Ground.data }], guard := none }) (v := ?_) rfl (by kernel_rfl) (by kernel_rfl) (by kernel_rfl) (fun _ _ _ h => h) (Or.inl ⟨by rfl, ?_⟩) (by assumption) ?_
                rotate_left
                · intro W hSw
                  clear hSw
                  have hal := HAL.out
                  have hn2 := HSD.out
                  go_simp
                  try with_reducible rfl
                simp only [Act.put, List.setIfInBounds_toArray, List.set_cons_zero, List.set_cons_succ]
                obtain ⟨sa, hsa⟩ : ∃ z, s.extract 0 a = z := ⟨_, rfl⟩
                have HZA : Hid (sa.size ≤ 100000) := Lib.hid (by rw [← hsa, ByteArray.size_extract]; have := HS1.out; have := HSD.out; omega)
                rw [hsa] at HPT ⊢
                clear hsa
                refine wpAnyH_take (i := 3) (oi := { dst := some 112, op := Op.binOp BinOp.add 9 (Operand.tmp 111) (Operand.const (Value.string { data := #[32] })) 9, type := 9, pos := "outright.go:134", after := #[{ on := 2, ground := Ground.data }], guard := none }) (v := ?_) rfl (by kernel_rfl) (by kernel_rfl) (by kernel_rfl) (fun _ _ _ h => h) (Or.inl ⟨by rfl, ?_⟩) (by assumption) ?_
                rotate_left
                · intro W hSw
                  clear hSw
                  have g1 : ¬ 9223372036854775807 < sa.size + 1 := by have := HZA.out; omega
                  go_simp
                  try with_reducible rfl
                simp only [Act.put, List.setIfInBounds_toArray, List.set_cons_zero, List.set_cons_succ]
                refine wpAnyH_take (i := 4) (oi := { dst := some 113, op := Op.move (Operand.tmp 7), type := 9, pos := "outright.go:134", after := #[], guard := none }) (v := ?_) rfl (by kernel_rfl) (by kernel_rfl) (by kernel_rfl) (fun _ _ _ h => h) (Or.inl ⟨by rfl, ?_⟩) (by assumption) ?_
                rotate_left
                · intro W hSw
                  clear hSw
                  go_simp
                  try with_reducible rfl
                simp only [Act.put, List.setIfInBounds_toArray, List.set_cons_zero, List.set_cons_succ]
                refine wpAnyH_take (i := 5) (oi := { dst := some 114, op := Op.move (Operand.tmp 1), type := 3, pos := "outright.go:134", after := #[], guard := none }) (v := ?_) rfl (by kernel_rfl) (by kernel_rfl) (by kernel_rfl) (fun _ _ _ h => h) (Or.inl ⟨by rfl, ?_⟩) (by assumption) ?_
                rotate_left
                · intro W hSw
                  clear hSw
                  go_simp
                  try with_reducible rfl
                simp only [Act.put, List.setIfInBounds_toArray, List.set_cons_zero, List.set_cons_succ]
                refine wpAnyH_take (i := 6) (oi := { dst := some 115, op := Op.slice 9 (Operand.tmp 113) (some (Operand.tmp 114)) none none, type := 9, pos := "outright.go:134", after := #[{ on := 4, ground := Ground.data }, { on := 5, ground := Ground.data }], guard := none }) (v := ?_) rfl (by kernel_rfl) (by kernel_rfl) (by kernel_rfl) (fun _ _ _ h => h) (Or.inl ⟨by rfl, ?_⟩) (by assumption) ?_
                rotate_left
                · intro W hSw
                  clear hSw
                  have hal := HAL.out
                  have hn2 := HSD.out
                  go_simp
                  try with_reducible rfl
                simp only [Act.put, List.setIfInBounds_toArray, List.set_cons_zero, List.set_cons_succ]
                obtain ⟨sb, hsb⟩ : ∃ z, s.extract a n = z := ⟨_, rfl⟩
                have HZB : Hid (sb.size ≤ 100000) := Lib.hid (by rw [← hsb, ByteArray.size_extract]; have := HS1.out; have := HSD.out; omega)
                rw [hsb] at HPT
                try rw [HSD.out]
                rw [hsb]
                clear hsb
                refine wpAnyH_take (i := 7) (oi := { dst := some 116, op := Op.binOp BinOp.add 9 (Operand.tmp 112) (Operand.tmp 115) 9, type := 9, pos := "outright.go:134", after := #[{ on := 3, ground := Ground.data }, { on := 6, ground := Ground.data }], guard := none }) (v := ?_) rfl (by kernel_rfl) (by kernel_rfl) (by kernel_rfl) (fun _ _ _ h => h) (Or.inl ⟨by rfl, ?_⟩) (by assumption) ?_
                rotate_left
                · intro W hSw
                  clear hSw
                  have g1 : ¬ 9223372036854775807 < sa.size + 1 + sb.size := by have := HZA.out; have := HZB.out; omega
                  go_simp
                  try with_reducible rfl
                simp only [Act.put, List.setIfInBounds_toArray, List.set_cons_zero, List.set_cons_succ]
                refine wpAnyH_ready (rs := [8, 12]) (by kernel_rfl) (by simp) (AllReadyH.cons (o := { dst := some 117, op := Op.call { callee := Callee.value (Operand.func 11), args := #[Operand.tmp 116], argTypes := #[9] }, type := 27, pos := "outright.go:134", after := #[{ on := 7, ground := Ground.data }], guard := none }) rfl (fun K hK => ?_) (AllReadyH.cons (o := { dst := some 15, op := Op.alloc 24, type := 0, pos := "outright.go:134", after := #[], guard := none }) rfl (fun K hK => ?_) AllReadyH.nil))
                · have HCL := Lib.hid (HPT.out _ (HG.out.later HH.out))
                  go_simp
                  refine HCL.out.mono ?_
                  rintro e Wa ⟨rfl, hb⟩
                  replace HH := Lib.hid (stepB HH.out hb)
                  clear hb HCL hHeld
                  refine hK.out _ _ HH.out (fun hHeld => ?_)
                  clear hK K
                  refine wpAnyH_take (i := 9) (oi := { dst := some 108, op := Op.move (Operand.tmp 117), type := 27, pos := "outright.go:134", after := #[{ on := 8, ground := Ground.data }], guard := none }) (v := ?_) rfl (by kernel_rfl) (by kernel_rfl) (by kernel_rfl) (fun _ _ _ h => h) (Or.inl ⟨by rfl, ?_⟩) (by assumption) ?_
                  rotate_left
                  · intro W hSw
                    clear hSw
                    go_simp
                    try with_reducible rfl
                  simp only [Act.put, List.setIfInBounds_toArray, List.set_cons_zero, List.set_cons_succ]
                  refine wpAnyH_take (i := 10) (oi := { dst := some 118, op := Op.extract (Operand.tmp 108) 0, type := 24, pos := "outright.go:134", after := #[{ on := 9, ground := Ground.data }], guard := none }) (v := ?_) rfl (by kernel_rfl) (by kernel_rfl) (by kernel_rfl) (fun _ _ _ h => h) (Or.inl ⟨by rfl, ?_⟩) (by assumption) ?_
                  rotate_left
                  · intro W hSw
                    clear hSw
                    go_simp
                    try with_reducible rfl
                  simp only [Act.put, List.setIfInBounds_toArray, List.set_cons_zero, List.set_cons_succ]
                  refine wpAnyH_take (i := 11) (oi := { dst := some 119, op := Op.extract (Operand.tmp 108) 1, type := 26, pos := "outright.go:134", after := #[{ on := 9, ground := Ground.data }, { on := 13, ground := Ground.gcOnly Departure.lateStores }], guard := none }) (v := ?_) rfl (by kernel_rfl) (by kernel_rfl) (by kernel_rfl) (fun _ _ _ h => h) (Or.inl ⟨by rfl, ?_⟩) (by assumption) ?_
                  rotate_left
                  · intro W hSw
                    clear hSw
                    go_simp
                    try with_reducible rfl
                  simp only [Act.put, List.setIfInBounds_toArray, List.set_cons_zero, List.set_cons_succ]
                  refine wpAnyH_ready (rs := [12]) (by kernel_rfl) (by simp) (AllReadyH.cons (o := { dst := some 15, op := Op.alloc 24, type := 0, pos := "outright.go:134", after := #[], guard := none }) rfl (fun K hK => ?_) AllReadyH.nil)
                  go_simp
                  have hby : Below Wa.heap.size Wa (Wa.alloc (.cells #[.int .u8 0, .int .i64 0, .string { data := #[] }, .string { data := #[] }, .string { data := #[] }, .int .i64 0, .int .u8 0] 24)) := (Below.refl _ _).alloc (Nat.le_refl _) _
                  have HQ : Hid (Blk (Wa.alloc (.cells #[.int .u8 0, .int .i64 0, .string { data := #[] }, .string { data := #[] }, .string { data := #[] }, .int .i64 0, .int .u8 0] 24)) Wa.heap.size #[.int .u8 0, .int .i64 0, .string { data := #[] }, .string { data := #[] }, .string { data := #[] }, .int .i64 0, .int .u8 0] 24) := Blk.new Wa _ _
                  have HQZ : Hid (W0.heap.size ≤ Wa.heap.size) := Lib.hid HH.out.size
                  replace HH := Lib.hid (stepB HH.out hby)
                  clear hby hHeld
                  refine hK.out _ _ HH.out (fun hHeld => ?_)
                  clear hK K
                  generalize Wa.alloc (.cells #[.int .u8 0, .int .i64 0, .string { data := #[] }, .string { data := #[] }, .string { data := #[] }, .int .i64 0, .int .u8 0] 24) = Wq at *
                  obtain ⟨q, hq⟩ : ∃ x, Wa.heap.size = x := ⟨_, rfl⟩
                  have HQL : Hid (W0.heap.size ≤ q) := Lib.hid (by rw [← hq]; exact HQZ.out)
                  rw [hq] at HQ ⊢
                  clear hq HQZ
                  refine wpAnyH_ready (rs := [13]) (by kernel_rfl) (by simp) (AllReadyH.cons (o := { dst := none, op := Op.store 24 (Operand.tmp 15) (Operand.tmp 118), type := 0, pos := "outright.go:134", after := #[{ on := 12, ground := Ground.data }, { on := 10, ground := Ground.data }, { on := 8, ground := Ground.chain }, { on := 0, ground := Ground.phase }, { on := 1, ground := Ground.phase }, { on := 2, ground := Ground.phase }, { on := 3, ground := Ground.phase }, { on := 4, ground := Ground.phase }, { on := 5, ground := Ground.phase }, { on := 6, ground := Ground.phase }, { on := 7, ground := Ground.phase }, { on := 8, ground := Ground.phase }, { on := 9, ground := Ground.phase }, { on := 10, ground := Ground.phase }, { on := 11, ground := Ground.textOnly Departure.lateStores }, { on := 12, ground := Ground.phase }], guard := none }) rfl (fun K hK => ?_) AllReadyH.nil)
                  refine wp_store_row 24 (.tmp 15) (.tmp 118) rfl q #[.int .u8 (kn4 : Int), .int .i64 tx4, .string ke4, .string en4, .string va4, .int .i64 li4, .int .u8 (eg4 : Int)] rfl rfl 24 #[.int .u8 0, .int .i64 0, .string { data := #[] }, .string { data := #[] }, .string { data := #[] }, .int .i64 0, .int .u8 0] HQ.out (by kernel_rfl) rfl (by first | rfl | (simp [Value.oneCell']; done)) ?_
                  replace HH := Lib.hid (below_setRow HH.out HQL.out #[.int .u8 (kn4 : Int), .int .i64 tx4, .string ke4, .string en4, .string va4, .int .i64 li4, .int .u8 (eg4 : Int)])
                  clear hHeld
                  refine hK.out _ _ HH.out (fun hHeld => ?_)
                  clear hK K
                  refine wpAnyH_take (i := 14) (oi := { dst := some 16, op := Op.assign (Operand.tmp 119), type := 26, pos := "outright.go:134", after := #[{ on := 11, ground := Ground.data }, { on := 13, ground := Ground.chain }, { on := 0, ground := Ground.phase }, { on := 1, ground := Ground.phase }, { on := 2, ground := Ground.phase }, { on := 3, ground := Ground.phase }, { on := 4, ground := Ground.phase }, { on := 5, ground := Ground.phase }, { on := 6, ground := Ground.phase }, { on := 7, ground := Ground.phase }, { on := 8, ground := Ground.phase }, { on := 9, ground := Ground.phase }, { on := 10, ground := Ground.phase }, { on := 11, ground := Ground.phase }, { on := 12, ground := Ground.phase }, { on := 13, ground := Ground.phase }], guard := none }) (v := ?_) rfl (by kernel_rfl) (by kernel_rfl) (by kernel_rfl) (fun _ _ _ h => h) (Or.inl ⟨by rfl, ?_⟩) (by assumption) ?_
                  rotate_left
                  · intro W hSw
                    clear hSw
                    go_simp
                    try with_reducible rfl
                  simp only [Act.put, List.setIfInBounds_toArray, List.set_cons_zero, List.set_cons_succ]
                  refine wpAnyH_done (by kernel_rfl) (NoPanic.normal ?_) _
                  have HF := Lib.hid (stepB HB.out HH.out)
                  clear hHeld HH HPT
                  go_wp2
                  go_ret
                  exact ⟨rfl, HF.out⟩
                · go_simp
                  have hby : Below Wd.heap.size Wd (Wd.alloc (.cells #[.int .u8 0, .int .i64 0, .string { data := #[] }, .string { data := #[] }, .string { data := #[] }, .int .i64 0, .int .u8 0] 24)) := (Below.refl _ _).alloc (Nat.le_refl _) _
                  have HQ : Hid (Blk (Wd.alloc (.cells #[.int .u8 0, .int .i64 0, .string { data := #[] }, .string { data := #[] }, .string { data := #[] }, .int .i64 0, .int .u8 0] 24)) Wd.heap.size #[.int .u8 0, .int .i64 0, .string { data := #[] }, .string { data := #[] }, .string { data := #[] }, .int .i64 0, .int .u8 0] 24) := Blk.new Wd _ _
                  have HQZ : Hid (W0.heap.size ≤ Wd.heap.size) := Lib.hid HH.out.size
                  replace HH := Lib.hid (stepB HH.out hby)
                  clear hby hHeld
                  refine hK.out _ _ HH.out (fun hHeld => ?_)
                  clear hK K
                  generalize Wd.alloc (.cells #[.int .u8 0, .int .i64 0, .string { data := #[] }, .string { data := #[] }, .string { data := #[] }, .int .i64 0, .int .u8 0] 24) = Wq at *
                  obtain ⟨q, hq⟩ : ∃ x, Wd.heap.size = x := ⟨_, rfl⟩
                  have HQL : Hid (W0.heap.size ≤ q) := Lib.hid (by rw [← hq]; exact HQZ.out)
                  rw [hq] at HQ ⊢
                  clear hq HQZ
                  refine wpAnyH_ready (rs := [8]) (by kernel_rfl) (by simp) (AllReadyH.cons (o := { dst := some 117, op := Op.call { callee := Callee.value (Operand.func 11), args := #[Operand.tmp 116], argTypes := #[9] }, type := 27, pos := "outright.go:134", after := #[{ on := 7, ground := Ground.data }], guard := none }) rfl (fun K hK => ?_) AllReadyH.nil)
                  have HCL := Lib.hid (HPT.out _ (HG.out.later HH.out))
                  go_simp
                  refine HCL.out.mono ?_
                  rintro e Wa ⟨rfl, hb⟩
                  replace HQ := Lib.hid (HQ.out.later hb)
                  replace HH := Lib.hid (stepB HH.out hb)
                  clear hb HCL hHeld
                  refine hK.out _ _ HH.out (fun hHeld => ?_)
                  clear hK K
                  refine wpAnyH_take (i := 9) (oi := { dst := some 108, op := Op.move (Operand.tmp 117), type := 27, pos := "outright.go:134", after := #[{ on := 8, ground := Ground.data }], guard := none }) (v := ?_) rfl (by kernel_rfl) (by kernel_rfl) (by kernel_rfl) (fun _ _ _ h => h) (Or.inl ⟨by rfl, ?_⟩) (by assumption) ?_
                  rotate_left
                  · intro W hSw
                    clear hSw
                    go_simp
                    try with_reducible rfl
                  simp only [Act.put, List.setIfInBounds_toArray, List.set_cons_zero, List.set_cons_succ]
                  refine wpAnyH_take (i := 10) (oi := { dst := some 118, op := Op.extract (Operand.tmp 108) 0, type := 24, pos := "outright.go:134", after := #[{ on := 9, ground := Ground.data }], guard := none }) (v := ?_) rfl (by kernel_rfl) (by kernel_rfl) (by kernel_rfl) (fun _ _ _ h => h) (Or.inl ⟨by rfl, ?_⟩) (by assumption) ?_
                  rotate_left
                  · intro W hSw
                    clear hSw
                    go_simp
                    try with_reducible rfl
                  simp only [Act.put, List.setIfInBounds_toArray, List.set_cons_zero, List.set_cons_succ]
                  refine wpAnyH_take (i := 11) (oi := { dst := some 119, op := Op.extract (Operand.tmp 108) 1, type := 26, pos := "outright.go:134", after := #[{ on := 9, ground := Ground.data }, { on := 13, ground := Ground.gcOnly Departure.lateStores }], guard := none }) (v := ?_) rfl (by kernel_rfl) (by kernel_rfl) (by kernel_rfl) (fun _ _ _ h => h) (Or.inl ⟨by rfl, ?_⟩) (by assumption) ?_
                  rotate_left
                  · intro W hSw
                    clear hSw
                    go_simp
                    try with_reducible rfl
                  simp only [Act.put, List.setIfInBounds_toArray, List.set_cons_zero, List.set_cons_succ]
                  refine wpAnyH_ready (rs := [13]) (by kernel_rfl) (by simp) (AllReadyH.cons (o := { dst := none, op := Op.store 24 (Operand.tmp 15) (Operand.tmp 118), type := 0, pos := "outright.go:134", after := #[{ on := 12, ground := Ground.data }, { on := 10, ground := Ground.data }, { on := 8, ground := Ground.chain }, { on := 0, ground := Ground.phase }, { on := 1, ground := Ground.phase }, { on := 2, ground := Ground.phase }, { on := 3, ground := Ground.phase }, { on := 4, ground := Ground.phase }, { on := 5, ground := Ground.phase }, { on := 6, ground := Ground.phase }, { on := 7, ground := Ground.phase }, { on := 8, ground := Ground.phase }, { on := 9, ground := Ground.phase }, { on := 10, ground := Ground.phase }, { on := 11, ground := Ground.textOnly Departure.lateStores }, { on := 12, ground := Ground.phase }], guard := none }) rfl (fun K hK => ?_) AllReadyH.nil)
                  refine wp_store_row 24 (.tmp 15) (.tmp 118) rfl q #[.int .u8 (kn4 : Int), .int .i64 tx4, .string ke4, .string en4, .string va4, .int .i64 li4, .int .u8 (eg4 : Int)] rfl rfl 24 #[.int .u8 0, .int .i64 0, .string { data := #[] }, .string { data := #[] }, .string { data := #[] }, .int .i64 0, .int .u8 0] HQ.out (by kernel_rfl) rfl (by first | rfl | (simp [Value.oneCell']; done)) ?_
                  replace HH := Lib.hid (below_setRow HH.out HQL.out #[.int .u8 (kn4 : Int), .int .i64 tx4, .string ke4, .string en4, .string va4, .int .i64 li4, .int .u8 (eg4 : Int)])
                  clear hHeld
                  refine hK.out _ _ HH.out (fun hHeld => ?_)
                  clear hK K
                  refine wpAnyH_take (i := 14) (oi := { dst := some 16, op := Op.assign (Operand.tmp 119), type := 26, pos := "outright.go:134", after := #[{ on := 11, ground := Ground.data }, { on := 13, ground := Ground.chain }, { on := 0, ground := Ground.phase }, { on := 1, ground := Ground.phase }, { on := 2, ground := Ground.phase }, { on := 3, ground := Ground.phase }, { on := 4, ground := Ground.phase }, { on := 5, ground := Ground.phase }, { on := 6, ground := Ground.phase }, { on := 7, ground := Ground.phase }, { on := 8, ground := Ground.phase }, { on := 9, ground := Ground.phase }, { on := 10, ground := Ground.phase }, { on := 11, ground := Ground.phase }, { on := 12, ground := Ground.phase }, { on := 13, ground := Ground.phase }], guard := none }) (v := ?_) rfl (by kernel_rfl) (by kernel_rfl) (by kernel_rfl) (fun _ _ _ h => h) (Or.inl ⟨by rfl, ?_⟩) (by assumption) ?_
                  rotate_left
                  · intro W hSw
                    clear hSw
                    go_simp
                    try with_reducible rfl
                  simp only [Act.put, List.setIfInBounds_toArray, List.set_cons_zero, List.set_cons_succ]
                  refine wpAnyH_done (by kernel_rfl) (NoPanic.normal ?_) _
                  have HF := Lib.hid (stepB HB.out HH.out)
                  clear hHeld HH HPT
                  go_wp2
                  go_ret
                  exact ⟨rfl, HF.out⟩
              · rw [decide_eq_false h32] at hb32
                clear h32 hc
                by_cases h0 : 0 < a
                · obtain ⟨a', haa⟩ : ∃ a', a = a' + 1 := ⟨a - 1, by omega⟩
                  have HAA := Lib.hid haa
                  have wk : IntKind.i64.wrap ((a : Int) - 1) = (a' : Int) := by rw [show (a : Int) - 1 = (a' : Int) by omega]; exact IntWalk.i64_in _ (by have := HS1.out; omega)
                  have d3 : decide ((0 : Int) < (a : Int)) = true := decide_eq_true (by omega)
                  have d3' : decide (0 < a) = true := decide_eq_true h0
                  clear haa
                  have i2 := sindex_ s a' (a' : Int) rfl (by rw [HSD.out]; have := HAA.out; have := HAL.out; omega)
                  obtain ⟨c2, hc2⟩ : ∃ c, s.data.toList.getD a' 0 = c := ⟨_, rfl⟩
                  rw [hc2] at i2
                  have hb33 := b32 (c := c2)
                  by_cases h33 : c2 = 32
                  · rw [decide_eq_true h33] at hb33
                    have HNO := Lib.hid (HPRE.out (by omega) (by rw [show a - 1 = a' by have := HAA.out; omega, hc2, h33]))
                    clear h33 hc2 hlt h0 HPRE
                    have HPT : Hid (∃ y : Cl, ∀ V, Gl V → Calls Tryd.prog 11 #[.string (s.extract 0 a ++ { data := #[32] } ++ s.extract a n)] V fun e w' => e = .returned (.tuple #[clV y, .int .i64 4]) ∧ Below V.heap.size V w') := Lib.hid ⟨parC (s.extract 0 a ++ { data := #[32] } ++ s.extract a n), fun V hV => by
                      have h := parse_any (s.extract 0 a ++ { data := #[32] } ++ s.extract a n) V (by
                        rw [ByteArray.size_append, ByteArray.size_append, ByteArray.size_extract, ByteArray.size_extract, show ({ data := #[32] } : ByteArray).size = 1 from rfl]
                        have := HS1.out
                        omega) hV
                      rw [parV_eq, parE_no HNO.out] at h
                      exact h⟩
                    obtain ⟨y, hpt⟩ := HPT.out
                    obtain ⟨kn4, tx4, ke4, en4, va4, li4, eg4⟩ := y
                    unfold clV at hpt
                    simp only at hpt
                    clear HPT
                    have HPT := Lib.hid hpt
                    clear hpt HNO
                    go_upto_region 19 with (fail)
                    refine wp_region_noPanic ?_
                    obtain ⟨W0, rfl⟩ : ∃ W0 : World, W0 = w11 := ⟨_, rfl⟩
                    refine wp_region_held_drew (S := fun W => Below W0.heap.size W0 W) (by kernel_rfl) (Below.drew (Below.refl _ _)) (fun hHeld => ?_)
                    have HH := Lib.hid hHeld
                    obtain ⟨Wd, hWd⟩ : ∃ Wd, W0.drew = Wd := ⟨_, rfl⟩
                    rw [hWd] at HH hHeld ⊢
                    clear hWd
                    refine wpAnyH_take (i := 0) (oi := { dst := some 109, op := Op.move (Operand.tmp 7), type := 9, pos := "outright.go:134", after := #[], guard := none }) (v := ?_) rfl (by kernel_rfl) (by kernel_rfl) (by kernel_rfl) (fun _ _ _ h => h) (Or.inl ⟨by rfl, ?_⟩) (by assumption) ?_
                    rotate_left
                    · intro W hSw
                      clear hSw
                      go_simp
                      try with_reducible rfl
                    simp only [Act.put, List.setIfInBounds_toArray, List.set_cons_zero, List.set_cons_succ]
                    refine wpAnyH_take (i := 1) (oi := { dst := some 110, op := Op.move (Operand.tmp 1), type := 3, pos := "outright.go:134", after := #[], guard := none }) (v := ?_) rfl (by kernel_rfl) (by kernel_rfl) (by kernel_rfl) (fun _ _ _ h => h) (Or.inl ⟨by rfl, ?_⟩) (by assumption) ?_
                    rotate_left
                    · intro W hSw
                      clear hSw
                      go_simp
                      try with_reducible rfl
                    simp only [Act.put, List.setIfInBounds_toArray, List.set_cons_zero, List.set_cons_succ]
                    refine wpAnyH_take (i := 2) (oi := { dst := some 111, op := Op.slice 9 (Operand.tmp 109) none (some (Operand.tmp 110)) none, type := 9, pos := "outright.go:134", after := #[{ on := 0, ground := Ground.data }, { on := 1, ground := Ground.data }], guard := none }) (v := ?_) rfl (by kernel_rfl) (by kernel_rfl) (by kernel_rfl) (fun _ _ _ h => h) (Or.inl ⟨by rfl, ?_⟩) (by assumption) ?_
                    rotate_left
                    · intro W hSw
                      clear hSw
                      have hal := HAL.out
                      have hn2 := HSD.out
                      go_simp
                      try with_reducible rfl
                    simp only [Act.put, List.setIfInBounds_toArray, List.set_cons_zero, List.set_cons_succ]
                    obtain ⟨sa, hsa⟩ : ∃ z, s.extract 0 a = z := ⟨_, rfl⟩
                    have HZA : Hid (sa.size ≤ 100000) := Lib.hid (by rw [← hsa, ByteArray.size_extract]; have := HS1.out; have := HSD.out; omega)
                    rw [hsa] at HPT ⊢
                    clear hsa
                    refine wpAnyH_take (i := 3) (oi := { dst := some 112, op := Op.binOp BinOp.add 9 (Operand.tmp 111) (Operand.const (Value.string { data := #[32] })) 9, type := 9, pos := "outright.go:134", after := #[{ on := 2, ground := Ground.data }], guard := none }) (v := ?_) rfl (by kernel_rfl) (by kernel_rfl) (by kernel_rfl) (fun _ _ _ h => h) (Or.inl ⟨by rfl, ?_⟩) (by assumption) ?_
                    rotate_left
                    · intro W hSw
                      clear hSw
                      have g1 : ¬ 9223372036854775807 < sa.size + 1 := by have := HZA.out; omega
                      go_simp
                      try with_reducible rfl
                    simp only [Act.put, List.setIfInBounds_toArray, List.set_cons_zero, List.set_cons_succ]
                    refine wpAnyH_take (i := 4) (oi := { dst := some 113, op := Op.move (Operand.tmp 7), type := 9, pos := "outright.go:134", after := #[], guard := none }) (v := ?_) rfl (by kernel_rfl) (by kernel_rfl) (by kernel_rfl) (fun _ _ _ h => h) (Or.inl ⟨by rfl, ?_⟩) (by assumption) ?_
                    rotate_left
                    · intro W hSw
                      clear hSw
                      go_simp
                      try with_reducible rfl
                    simp only [Act.put, List.setIfInBounds_toArray, List.set_cons_zero, List.set_cons_succ]
                    refine wpAnyH_take (i := 5) (oi := { dst := some 114, op := Op.move (Operand.tmp 1), type := 3, pos := "outright.go:134", after := #[], guard := none }) (v := ?_) rfl (by kernel_rfl) (by kernel_rfl) (by kernel_rfl) (fun _ _ _ h => h) (Or.inl ⟨by rfl, ?_⟩) (by assumption) ?_
                    rotate_left
                    · intro W hSw
                      clear hSw
                      go_simp
                      try with_reducible rfl
                    simp only [Act.put, List.setIfInBounds_toArray, List.set_cons_zero, List.set_cons_succ]
                    refine wpAnyH_take (i := 6) (oi := { dst := some 115, op := Op.slice 9 (Operand.tmp 113) (some (Operand.tmp 114)) none none, type := 9, pos := "outright.go:134", after := #[{ on := 4, ground := Ground.data }, { on := 5, ground := Ground.data }], guard := none }) (v := ?_) rfl (by kernel_rfl) (by kernel_rfl) (by kernel_rfl) (fun _ _ _ h => h) (Or.inl ⟨by rfl, ?_⟩) (by assumption) ?_
                    rotate_left
                    · intro W hSw
                      clear hSw
                      have hal := HAL.out
                      have hn2 := HSD.out
                      go_simp
                      try with_reducible rfl
                    simp only [Act.put, List.setIfInBounds_toArray, List.set_cons_zero, List.set_cons_succ]
                    obtain ⟨sb, hsb⟩ : ∃ z, s.extract a n = z := ⟨_, rfl⟩
                    have HZB : Hid (sb.size ≤ 100000) := Lib.hid (by rw [← hsb, ByteArray.size_extract]; have := HS1.out; have := HSD.out; omega)
                    rw [hsb] at HPT
                    try rw [HSD.out]
                    rw [hsb]
                    clear hsb
                    refine wpAnyH_take (i := 7) (oi := { dst := some 116, op := Op.binOp BinOp.add 9 (Operand.tmp 112) (Operand.tmp 115) 9, type := 9, pos := "outright.go:134", after := #[{ on := 3, ground := Ground.data }, { on := 6, ground := Ground.data }], guard := none }) (v := ?_) rfl (by kernel_rfl) (by kernel_rfl) (by kernel_rfl) (fun _ _ _ h => h) (Or.inl ⟨by rfl, ?_⟩) (by assumption) ?_
                    rotate_left
                    · intro W hSw
                      clear hSw
                      have g1 : ¬ 9223372036854775807 < sa.size + 1 + sb.size := by have := HZA.out; have := HZB.out; omega
                      go_simp
                      try with_reducible rfl
                    simp only [Act.put, List.setIfInBounds_toArray, List.set_cons_zero, List.set_cons_succ]
                    refine wpAnyH_ready (rs := [8, 12]) (by kernel_rfl) (by simp) (AllReadyH.cons (o := { dst := some 117, op := Op.call { callee := Callee.value (Operand.func 11), args := #[Operand.tmp 116], argTypes := #[9] }, type := 27, pos := "outright.go:134", after := #[{ on := 7, ground := Ground.data }], guard := none }) rfl (fun K hK => ?_) (AllReadyH.cons (o := { dst := some 15, op := Op.alloc 24, type := 0, pos := "outright.go:134", after := #[], guard := none }) rfl (fun K hK => ?_) AllReadyH.nil))
                    · have HCL := Lib.hid (HPT.out _ (HG.out.later HH.out))
                      go_simp
                      refine HCL.out.mono ?_
                      rintro e Wa ⟨rfl, hb⟩
                      replace HH := Lib.hid (stepB HH.out hb)
                      clear hb HCL hHeld
                      refine hK.out _ _ HH.out (fun hHeld => ?_)
                      clear hK K
                      refine wpAnyH_take (i := 9) (oi := { dst := some 108, op := Op.move (Operand.tmp 117), type := 27, pos := "outright.go:134", after := #[{ on := 8, ground := Ground.data }], guard := none }) (v := ?_) rfl (by kernel_rfl) (by kernel_rfl) (by kernel_rfl) (fun _ _ _ h => h) (Or.inl ⟨by rfl, ?_⟩) (by assumption) ?_
                      rotate_left
                      · intro W hSw
                        clear hSw
                        go_simp
                        try with_reducible rfl
                      simp only [Act.put, List.setIfInBounds_toArray, List.set_cons_zero, List.set_cons_succ]
                      refine wpAnyH_take (i := 10) (oi := { dst := some 118, op := Op.extract (Operand.tmp 108) 0, type := 24, pos := "outright.go:134", after := #[{ on := 9, ground := Ground.data }], guard := none }) (v := ?_) rfl (by kernel_rfl) (by kernel_rfl) (by kernel_rfl) (fun _ _ _ h => h) (Or.inl ⟨by rfl, ?_⟩) (by assumption) ?_
                      rotate_left
                      · intro W hSw
                        clear hSw
                        go_simp
                        try with_reducible rfl
                      simp only [Act.put, List.setIfInBounds_toArray, List.set_cons_zero, List.set_cons_succ]
                      refine wpAnyH_take (i := 11) (oi := { dst := some 119, op := Op.extract (Operand.tmp 108) 1, type := 26, pos := "outright.go:134", after := #[{ on := 9, ground := Ground.data }, { on := 13, ground := Ground.gcOnly Departure.lateStores }], guard := none }) (v := ?_) rfl (by kernel_rfl) (by kernel_rfl) (by kernel_rfl) (fun _ _ _ h => h) (Or.inl ⟨by rfl, ?_⟩) (by assumption) ?_
                      rotate_left
                      · intro W hSw
                        clear hSw
                        go_simp
                        try with_reducible rfl
                      simp only [Act.put, List.setIfInBounds_toArray, List.set_cons_zero, List.set_cons_succ]
                      refine wpAnyH_ready (rs := [12]) (by kernel_rfl) (by simp) (AllReadyH.cons (o := { dst := some 15, op := Op.alloc 24, type := 0, pos := "outright.go:134", after := #[], guard := none }) rfl (fun K hK => ?_) AllReadyH.nil)
                      go_simp
                      have hby : Below Wa.heap.size Wa (Wa.alloc (.cells #[.int .u8 0, .int .i64 0, .string { data := #[] }, .string { data := #[] }, .string { data := #[] }, .int .i64 0, .int .u8 0] 24)) := (Below.refl _ _).alloc (Nat.le_refl _) _
                      have HQ : Hid (Blk (Wa.alloc (.cells #[.int .u8 0, .int .i64 0, .string { data := #[] }, .string { data := #[] }, .string { data := #[] }, .int .i64 0, .int .u8 0] 24)) Wa.heap.size #[.int .u8 0, .int .i64 0, .string { data := #[] }, .string { data := #[] }, .string { data := #[] }, .int .i64 0, .int .u8 0] 24) := Blk.new Wa _ _
                      have HQZ : Hid (W0.heap.size ≤ Wa.heap.size) := Lib.hid HH.out.size
                      replace HH := Lib.hid (stepB HH.out hby)
                      clear hby hHeld
                      refine hK.out _ _ HH.out (fun hHeld => ?_)
                      clear hK K
                      generalize Wa.alloc (.cells #[.int .u8 0, .int .i64 0, .string { data := #[] }, .string { data := #[] }, .string { data := #[] }, .int .i64 0, .int .u8 0] 24) = Wq at *
                      obtain ⟨q, hq⟩ : ∃ x, Wa.heap.size = x := ⟨_, rfl⟩
                      have HQL : Hid (W0.heap.size ≤ q) := Lib.hid (by rw [← hq]; exact HQZ.out)
                      rw [hq] at HQ ⊢
                      clear hq HQZ
                      refine wpAnyH_ready (rs := [13]) (by kernel_rfl) (by simp) (AllReadyH.cons (o := { dst := none, op := Op.store 24 (Operand.tmp 15) (Operand.tmp 118), type := 0, pos := "outright.go:134", after := #[{ on := 12, ground := Ground.data }, { on := 10, ground := Ground.data }, { on := 8, ground := Ground.chain }, { on := 0, ground := Ground.phase }, { on := 1, ground := Ground.phase }, { on := 2, ground := Ground.phase }, { on := 3, ground := Ground.phase }, { on := 4, ground := Ground.phase }, { on := 5, ground := Ground.phase }, { on := 6, ground := Ground.phase }, { on := 7, ground := Ground.phase }, { on := 8, ground := Ground.phase }, { on := 9, ground := Ground.phase }, { on := 10, ground := Ground.phase }, { on := 11, ground := Ground.textOnly Departure.lateStores }, { on := 12, ground := Ground.phase }], guard := none }) rfl (fun K hK => ?_) AllReadyH.nil)
                      refine wp_store_row 24 (.tmp 15) (.tmp 118) rfl q #[.int .u8 (kn4 : Int), .int .i64 tx4, .string ke4, .string en4, .string va4, .int .i64 li4, .int .u8 (eg4 : Int)] rfl rfl 24 #[.int .u8 0, .int .i64 0, .string { data := #[] }, .string { data := #[] }, .string { data := #[] }, .int .i64 0, .int .u8 0] HQ.out (by kernel_rfl) rfl (by first | rfl | (simp [Value.oneCell']; done)) ?_
                      replace HH := Lib.hid (below_setRow HH.out HQL.out #[.int .u8 (kn4 : Int), .int .i64 tx4, .string ke4, .string en4, .string va4, .int .i64 li4, .int .u8 (eg4 : Int)])
                      clear hHeld
                      refine hK.out _ _ HH.out (fun hHeld => ?_)
                      clear hK K
                      refine wpAnyH_take (i := 14) (oi := { dst := some 16, op := Op.assign (Operand.tmp 119), type := 26, pos := "outright.go:134", after := #[{ on := 11, ground := Ground.data }, { on := 13, ground := Ground.chain }, { on := 0, ground := Ground.phase }, { on := 1, ground := Ground.phase }, { on := 2, ground := Ground.phase }, { on := 3, ground := Ground.phase }, { on := 4, ground := Ground.phase }, { on := 5, ground := Ground.phase }, { on := 6, ground := Ground.phase }, { on := 7, ground := Ground.phase }, { on := 8, ground := Ground.phase }, { on := 9, ground := Ground.phase }, { on := 10, ground := Ground.phase }, { on := 11, ground := Ground.phase }, { on := 12, ground := Ground.phase }, { on := 13, ground := Ground.phase }], guard := none }) (v := ?_) rfl (by kernel_rfl) (by kernel_rfl) (by kernel_rfl) (fun _ _ _ h => h) (Or.inl ⟨by rfl, ?_⟩) (by assumption) ?_
                      rotate_left
                      · intro W hSw
                        clear hSw
                        go_simp
                        try with_reducible rfl
                      simp only [Act.put, List.setIfInBounds_toArray, List.set_cons_zero, List.set_cons_succ]
                      refine wpAnyH_done (by kernel_rfl) (NoPanic.normal ?_) _
                      have HF := Lib.hid (stepB HB.out HH.out)
                      clear hHeld HH HPT
                      go_wp2
                      go_ret
                      exact ⟨rfl, HF.out⟩
                    · go_simp
                      have hby : Below Wd.heap.size Wd (Wd.alloc (.cells #[.int .u8 0, .int .i64 0, .string { data := #[] }, .string { data := #[] }, .string { data := #[] }, .int .i64 0, .int .u8 0] 24)) := (Below.refl _ _).alloc (Nat.le_refl _) _
                      have HQ : Hid (Blk (Wd.alloc (.cells #[.int .u8 0, .int .i64 0, .string { data := #[] }, .string { data := #[] }, .string { data := #[] }, .int .i64 0, .int .u8 0] 24)) Wd.heap.size #[.int .u8 0, .int .i64 0, .string { data := #[] }, .string { data := #[] }, .string { data := #[] }, .int .i64 0, .int .u8 0] 24) := Blk.new Wd _ _
                      have HQZ : Hid (W0.heap.size ≤ Wd.heap.size) := Lib.hid HH.out.size
                      replace HH := Lib.hid (stepB HH.out hby)
                      clear hby hHeld
                      refine hK.out _ _ HH.out (fun hHeld => ?_)
                      clear hK K
                      generalize Wd.alloc (.cells #[.int .u8 0, .int .i64 0, .string { data := #[] }, .string { data := #[] }, .string { data := #[] }, .int .i64 0, .int .u8 0] 24) = Wq at *
                      obtain ⟨q, hq⟩ : ∃ x, Wd.heap.size = x := ⟨_, rfl⟩
                      have HQL : Hid (W0.heap.size ≤ q) := Lib.hid (by rw [← hq]; exact HQZ.out)
                      rw [hq] at HQ ⊢
                      clear hq HQZ
                      refine wpAnyH_ready (rs := [8]) (by kernel_rfl) (by simp) (AllReadyH.cons (o := { dst := some 117, op := Op.call { callee := Callee.value (Operand.func 11), args := #[Operand.tmp 116], argTypes := #[9] }, type := 27, pos := "outright.go:134", after := #[{ on := 7, ground := Ground.data }], guard := none }) rfl (fun K hK => ?_) AllReadyH.nil)
                      have HCL := Lib.hid (HPT.out _ (HG.out.later HH.out))
                      go_simp
                      refine HCL.out.mono ?_
                      rintro e Wa ⟨rfl, hb⟩
                      replace HQ := Lib.hid (HQ.out.later hb)
                      replace HH := Lib.hid (stepB HH.out hb)
                      clear hb HCL hHeld
                      refine hK.out _ _ HH.out (fun hHeld => ?_)
                      clear hK K
                      refine wpAnyH_take (i := 9) (oi := { dst := some 108, op := Op.move (Operand.tmp 117), type := 27, pos := "outright.go:134", after := #[{ on := 8, ground := Ground.data }], guard := none }) (v := ?_) rfl (by kernel_rfl) (by kernel_rfl) (by kernel_rfl) (fun _ _ _ h => h) (Or.inl ⟨by rfl, ?_⟩) (by assumption) ?_
                      rotate_left
                      · intro W hSw
                        clear hSw
                        go_simp
                        try with_reducible rfl
                      simp only [Act.put, List.setIfInBounds_toArray, List.set_cons_zero, List.set_cons_succ]
                      refine wpAnyH_take (i := 10) (oi := { dst := some 118, op := Op.extract (Operand.tmp 108) 0, type := 24, pos := "outright.go:134", after := #[{ on := 9, ground := Ground.data }], guard := none }) (v := ?_) rfl (by kernel_rfl) (by kernel_rfl) (by kernel_rfl) (fun _ _ _ h => h) (Or.inl ⟨by rfl, ?_⟩) (by assumption) ?_
                      rotate_left
                      · intro W hSw
                        clear hSw
                        go_simp
                        try with_reducible rfl
                      simp only [Act.put, List.setIfInBounds_toArray, List.set_cons_zero, List.set_cons_succ]
                      refine wpAnyH_take (i := 11) (oi := { dst := some 119, op := Op.extract (Operand.tmp 108) 1, type := 26, pos := "outright.go:134", after := #[{ on := 9, ground := Ground.data }, { on := 13, ground := Ground.gcOnly Departure.lateStores }], guard := none }) (v := ?_) rfl (by kernel_rfl) (by kernel_rfl) (by kernel_rfl) (fun _ _ _ h => h) (Or.inl ⟨by rfl, ?_⟩) (by assumption) ?_
                      rotate_left
                      · intro W hSw
                        clear hSw
                        go_simp
                        try with_reducible rfl
                      simp only [Act.put, List.setIfInBounds_toArray, List.set_cons_zero, List.set_cons_succ]
                      refine wpAnyH_ready (rs := [13]) (by kernel_rfl) (by simp) (AllReadyH.cons (o := { dst := none, op := Op.store 24 (Operand.tmp 15) (Operand.tmp 118), type := 0, pos := "outright.go:134", after := #[{ on := 12, ground := Ground.data }, { on := 10, ground := Ground.data }, { on := 8, ground := Ground.chain }, { on := 0, ground := Ground.phase }, { on := 1, ground := Ground.phase }, { on := 2, ground := Ground.phase }, { on := 3, ground := Ground.phase }, { on := 4, ground := Ground.phase }, { on := 5, ground := Ground.phase }, { on := 6, ground := Ground.phase }, { on := 7, ground := Ground.phase }, { on := 8, ground := Ground.phase }, { on := 9, ground := Ground.phase }, { on := 10, ground := Ground.phase }, { on := 11, ground := Ground.textOnly Departure.lateStores }, { on := 12, ground := Ground.phase }], guard := none }) rfl (fun K hK => ?_) AllReadyH.nil)
                      refine wp_store_row 24 (.tmp 15) (.tmp 118) rfl q #[.int .u8 (kn4 : Int), .int .i64 tx4, .string ke4, .string en4, .string va4, .int .i64 li4, .int .u8 (eg4 : Int)] rfl rfl 24 #[.int .u8 0, .int .i64 0, .string { data := #[] }, .string { data := #[] }, .string { data := #[] }, .int .i64 0, .int .u8 0] HQ.out (by kernel_rfl) rfl (by first | rfl | (simp [Value.oneCell']; done)) ?_
                      replace HH := Lib.hid (below_setRow HH.out HQL.out #[.int .u8 (kn4 : Int), .int .i64 tx4, .string ke4, .string en4, .string va4, .int .i64 li4, .int .u8 (eg4 : Int)])
                      clear hHeld
                      refine hK.out _ _ HH.out (fun hHeld => ?_)
                      clear hK K
                      refine wpAnyH_take (i := 14) (oi := { dst := some 16, op := Op.assign (Operand.tmp 119), type := 26, pos := "outright.go:134", after := #[{ on := 11, ground := Ground.data }, { on := 13, ground := Ground.chain }, { on := 0, ground := Ground.phase }, { on := 1, ground := Ground.phase }, { on := 2, ground := Ground.phase }, { on := 3, ground := Ground.phase }, { on := 4, ground := Ground.phase }, { on := 5, ground := Ground.phase }, { on := 6, ground := Ground.phase }, { on := 7, ground := Ground.phase }, { on := 8, ground := Ground.phase }, { on := 9, ground := Ground.phase }, { on := 10, ground := Ground.phase }, { on := 11, ground := Ground.phase }, { on := 12, ground := Ground.phase }, { on := 13, ground := Ground.phase }], guard := none }) (v := ?_) rfl (by kernel_rfl) (by kernel_rfl) (by kernel_rfl) (fun _ _ _ h => h) (Or.inl ⟨by rfl, ?_⟩) (by assumption) ?_
                      rotate_left
                      · intro W hSw
                        clear hSw
                        go_simp
                        try with_reducible rfl
                      simp only [Act.put, List.setIfInBounds_toArray, List.set_cons_zero, List.set_cons_succ]
                      refine wpAnyH_done (by kernel_rfl) (NoPanic.normal ?_) _
                      have HF := Lib.hid (stepB HB.out HH.out)
                      clear hHeld HH HPT
                      go_wp2
                      go_ret
                      exact ⟨rfl, HF.out⟩
                  · rw [decide_eq_false h33] at hb33
                    have d5 : ((a : Int) == (n : Int)) = false := by rw [beq_eq_false_iff_ne]; omega
                    clear h33 hc2 hlt h0 HPRE
                    go_wp2
                    go_ret
                    exact ⟨rfl, HB.out⟩
                · have d3 : decide ((0 : Int) < (a : Int)) = false := decide_eq_false (by omega)
                  have d3' : decide (0 < a) = false := decide_eq_false h0
                  have d5 : ((a : Int) == (n : Int)) = false := by rw [beq_eq_false_iff_ne]; omega
                  clear hlt h0 HPRE
                  go_wp2
                  go_ret
                  exact ⟨rfl, HB.out⟩
            · have d1 : decide ((a : Int) < (n : Int)) = false := decide_eq_false (by omega)
              have d1' : decide (a < n) = false := decide_eq_false hlt
              have HAN : Hid (a = n) := Lib.hid (by have := HAL.out; omega)
              obtain ⟨a', haa⟩ : ∃ a', a = a' + 1 := ⟨a - 1, by have := HAN.out; have := HN1.out; omega⟩
              have HAA := Lib.hid haa
              have wk : IntKind.i64.wrap ((a : Int) - 1) = (a' : Int) := by rw [show (a : Int) - 1 = (a' : Int) by omega]; exact IntWalk.i64_in _ (by have := HS1.out; have := HAL.out; omega)
              have d3 : decide ((0 : Int) < (a : Int)) = true := decide_eq_true (by omega)
              have d3' : decide (0 < a) = true := decide_eq_true (by omega)
              clear haa
              have i2 := sindex_ s a' (a' : Int) rfl (by rw [HSD.out]; have := HAA.out; have := HAL.out; omega)
              obtain ⟨c2, hc2⟩ : ∃ c, s.data.toList.getD a' 0 = c := ⟨_, rfl⟩
              rw [hc2] at i2
              have hb33 := b32 (c := c2)
              by_cases h33 : c2 = 32
              · rw [decide_eq_true h33] at hb33
                have HNO := Lib.hid (HPRE.out (by have := HAA.out; omega) (by rw [show a - 1 = a' by have := HAA.out; omega, hc2, h33]))
                clear h33 hc2 hlt HPRE
                have HPT : Hid (∃ y : Cl, ∀ V, Gl V → Calls Tryd.prog 11 #[.string (s.extract 0 a ++ { data := #[32] } ++ s.extract a n)] V fun e w' => e = .returned (.tuple #[clV y, .int .i64 4]) ∧ Below V.heap.size V w') := Lib.hid ⟨parC (s.extract 0 a ++ { data := #[32] } ++ s.extract a n), fun V hV => by
                  have h := parse_any (s.extract 0 a ++ { data := #[32] } ++ s.extract a n) V (by
                    rw [ByteArray.size_append, ByteArray.size_append, ByteArray.size_extract, ByteArray.size_extract, show ({ data := #[32] } : ByteArray).size = 1 from rfl]
                    have := HS1.out
                    omega) hV
                  rw [parV_eq, parE_no HNO.out] at h
                  exact h⟩
                obtain ⟨y, hpt⟩ := HPT.out
                obtain ⟨kn4, tx4, ke4, en4, va4, li4, eg4⟩ := y
                unfold clV at hpt
                simp only at hpt
                clear HPT
                have HPT := Lib.hid hpt
                clear hpt HNO
                go_upto_region 19 with (fail)
                refine wp_region_noPanic ?_
                obtain ⟨W0, rfl⟩ : ∃ W0 : World, W0 = w11 := ⟨_, rfl⟩
                refine wp_region_held_drew (S := fun W => Below W0.heap.size W0 W) (by kernel_rfl) (Below.drew (Below.refl _ _)) (fun hHeld => ?_)
                have HH := Lib.hid hHeld
                obtain ⟨Wd, hWd⟩ : ∃ Wd, W0.drew = Wd := ⟨_, rfl⟩
                rw [hWd] at HH hHeld ⊢
                clear hWd
                refine wpAnyH_take (i := 0) (oi := { dst := some 109, op := Op.move (Operand.tmp 7), type := 9, pos := "outright.go:134", after := #[], guard := none }) (v := ?_) rfl (by kernel_rfl) (by kernel_rfl) (by kernel_rfl) (fun _ _ _ h => h) (Or.inl ⟨by rfl, ?_⟩) (by assumption) ?_
                rotate_left
                · intro W hSw
                  clear hSw
                  go_simp
                  try with_reducible rfl
                simp only [Act.put, List.setIfInBounds_toArray, List.set_cons_zero, List.set_cons_succ]
                refine wpAnyH_take (i := 1) (oi := { dst := some 110, op := Op.move (Operand.tmp 1), type := 3, pos := "outright.go:134", after := #[], guard := none }) (v := ?_) rfl (by kernel_rfl) (by kernel_rfl) (by kernel_rfl) (fun _ _ _ h => h) (Or.inl ⟨by rfl, ?_⟩) (by assumption) ?_
                rotate_left
                · intro W hSw
                  clear hSw
                  go_simp
                  try with_reducible rfl
                simp only [Act.put, List.setIfInBounds_toArray, List.set_cons_zero, List.set_cons_succ]
                refine wpAnyH_take (i := 2) (oi := { dst := some 111, op := Op.slice 9 (Operand.tmp 109) none (some (Operand.tmp 110)) none, type := 9, pos := "outright.go:134", after := #[{ on := 0, ground := Ground.data }, { on := 1, ground := Ground.data }], guard := none }) (v := ?_) rfl (by kernel_rfl) (by kernel_rfl) (by kernel_rfl) (fun _ _ _ h => h) (Or.inl ⟨by rfl, ?_⟩) (by assumption) ?_
                rotate_left
                · intro W hSw
                  clear hSw
                  have hal := HAL.out
                  have hn2 := HSD.out
                  go_simp
                  try with_reducible rfl
                simp only [Act.put, List.setIfInBounds_toArray, List.set_cons_zero, List.set_cons_succ]
                obtain ⟨sa, hsa⟩ : ∃ z, s.extract 0 a = z := ⟨_, rfl⟩
                have HZA : Hid (sa.size ≤ 100000) := Lib.hid (by rw [← hsa, ByteArray.size_extract]; have := HS1.out; have := HSD.out; omega)
                rw [hsa] at HPT ⊢
                clear hsa
                refine wpAnyH_take (i := 3) (oi := { dst := some 112, op := Op.binOp BinOp.add 9 (Operand.tmp 111) (Operand.const (Value.string { data := #[32] })) 9, type := 9, pos := "outright.go:134", after := #[{ on := 2, ground := Ground.data }], guard := none }) (v := ?_) rfl (by kernel_rfl) (by kernel_rfl) (by kernel_rfl) (fun _ _ _ h => h) (Or.inl ⟨by rfl, ?_⟩) (by assumption) ?_
                rotate_left
                · intro W hSw
                  clear hSw
                  have g1 : ¬ 9223372036854775807 < sa.size + 1 := by have := HZA.out; omega
                  go_simp
                  try with_reducible rfl
                simp only [Act.put, List.setIfInBounds_toArray, List.set_cons_zero, List.set_cons_succ]
                refine wpAnyH_take (i := 4) (oi := { dst := some 113, op := Op.move (Operand.tmp 7), type := 9, pos := "outright.go:134", after := #[], guard := none }) (v := ?_) rfl (by kernel_rfl) (by kernel_rfl) (by kernel_rfl) (fun _ _ _ h => h) (Or.inl ⟨by rfl, ?_⟩) (by assumption) ?_
                rotate_left
                · intro W hSw
                  clear hSw
                  go_simp
                  try with_reducible rfl
                simp only [Act.put, List.setIfInBounds_toArray, List.set_cons_zero, List.set_cons_succ]
                refine wpAnyH_take (i := 5) (oi := { dst := some 114, op := Op.move (Operand.tmp 1), type := 3, pos := "outright.go:134", after := #[], guard := none }) (v := ?_) rfl (by kernel_rfl) (by kernel_rfl) (by kernel_rfl) (fun _ _ _ h => h) (Or.inl ⟨by rfl, ?_⟩) (by assumption) ?_
                rotate_left
                · intro W hSw
                  clear hSw
                  go_simp
                  try with_reducible rfl
                simp only [Act.put, List.setIfInBounds_toArray, List.set_cons_zero, List.set_cons_succ]
                refine wpAnyH_take (i := 6) (oi := { dst := some 115, op := Op.slice 9 (Operand.tmp 113) (some (Operand.tmp 114)) none none, type := 9, pos := "outright.go:134", after := #[{ on := 4, ground := Ground.data }, { on := 5, ground := Ground.data }], guard := none }) (v := ?_) rfl (by kernel_rfl) (by kernel_rfl) (by kernel_rfl) (fun _ _ _ h => h) (Or.inl ⟨by rfl, ?_⟩) (by assumption) ?_
                rotate_left
                · intro W hSw
                  clear hSw
                  have hal := HAL.out
                  have hn2 := HSD.out
                  go_simp
                  try with_reducible rfl
                simp only [Act.put, List.setIfInBounds_toArray, List.set_cons_zero, List.set_cons_succ]
                obtain ⟨sb, hsb⟩ : ∃ z, s.extract a n = z := ⟨_, rfl⟩
                have HZB : Hid (sb.size ≤ 100000) := Lib.hid (by rw [← hsb, ByteArray.size_extract]; have := HS1.out; have := HSD.out; omega)
                rw [hsb] at HPT
                try rw [HSD.out]
                rw [hsb]
                clear hsb
                refine wpAnyH_take (i := 7) (oi := { dst := some 116, op := Op.binOp BinOp.add 9 (Operand.tmp 112) (Operand.tmp 115) 9, type := 9, pos := "outright.go:134", after := #[{ on := 3, ground := Ground.data }, { on := 6, ground := Ground.data }], guard := none }) (v := ?_) rfl (by kernel_rfl) (by kernel_rfl) (by kernel_rfl) (fun _ _ _ h => h) (Or.inl ⟨by rfl, ?_⟩) (by assumption) ?_
                rotate_left
                · intro W hSw
                  clear hSw
                  have g1 : ¬ 9223372036854775807 < sa.size + 1 + sb.size := by have := HZA.out; have := HZB.out; omega
                  go_simp
                  try with_reducible rfl
                simp only [Act.put, List.setIfInBounds_toArray, List.set_cons_zero, List.set_cons_succ]
                refine wpAnyH_ready (rs := [8, 12]) (by kernel_rfl) (by simp) (AllReadyH.cons (o := { dst := some 117, op := Op.call { callee := Callee.value (Operand.func 11), args := #[Operand.tmp 116], argTypes := #[9] }, type := 27, pos := "outright.go:134", after := #[{ on := 7, ground := Ground.data }], guard := none }) rfl (fun K hK => ?_) (AllReadyH.cons (o := { dst := some 15, op := Op.alloc 24, type := 0, pos := "outright.go:134", after := #[], guard := none }) rfl (fun K hK => ?_) AllReadyH.nil))
                · have HCL := Lib.hid (HPT.out _ (HG.out.later HH.out))
                  go_simp
                  refine HCL.out.mono ?_
                  rintro e Wa ⟨rfl, hb⟩
                  replace HH := Lib.hid (stepB HH.out hb)
                  clear hb HCL hHeld
                  refine hK.out _ _ HH.out (fun hHeld => ?_)
                  clear hK K
                  refine wpAnyH_take (i := 9) (oi := { dst := some 108, op := Op.move (Operand.tmp 117), type := 27, pos := "outright.go:134", after := #[{ on := 8, ground := Ground.data }], guard := none }) (v := ?_) rfl (by kernel_rfl) (by kernel_rfl) (by kernel_rfl) (fun _ _ _ h => h) (Or.inl ⟨by rfl, ?_⟩) (by assumption) ?_
                  rotate_left
                  · intro W hSw
                    clear hSw
                    go_simp
                    try with_reducible rfl
                  simp only [Act.put, List.setIfInBounds_toArray, List.set_cons_zero, List.set_cons_succ]
                  refine wpAnyH_take (i := 10) (oi := { dst := some 118, op := Op.extract (Operand.tmp 108) 0, type := 24, pos := "outright.go:134", after := #[{ on := 9, ground := Ground.data }], guard := none }) (v := ?_) rfl (by kernel_rfl) (by kernel_rfl) (by kernel_rfl) (fun _ _ _ h => h) (Or.inl ⟨by rfl, ?_⟩) (by assumption) ?_
                  rotate_left
                  · intro W hSw
                    clear hSw
                    go_simp
                    try with_reducible rfl
                  simp only [Act.put, List.setIfInBounds_toArray, List.set_cons_zero, List.set_cons_succ]
                  refine wpAnyH_take (i := 11) (oi := { dst := some 119, op := Op.extract (Operand.tmp 108) 1, type := 26, pos := "outright.go:134", after := #[{ on := 9, ground := Ground.data }, { on := 13, ground := Ground.gcOnly Departure.lateStores }], guard := none }) (v := ?_) rfl (by kernel_rfl) (by kernel_rfl) (by kernel_rfl) (fun _ _ _ h => h) (Or.inl ⟨by rfl, ?_⟩) (by assumption) ?_
                  rotate_left
                  · intro W hSw
                    clear hSw
                    go_simp
                    try with_reducible rfl
                  simp only [Act.put, List.setIfInBounds_toArray, List.set_cons_zero, List.set_cons_succ]
                  refine wpAnyH_ready (rs := [12]) (by kernel_rfl) (by simp) (AllReadyH.cons (o := { dst := some 15, op := Op.alloc 24, type := 0, pos := "outright.go:134", after := #[], guard := none }) rfl (fun K hK => ?_) AllReadyH.nil)
                  go_simp
                  have hby : Below Wa.heap.size Wa (Wa.alloc (.cells #[.int .u8 0, .int .i64 0, .string { data := #[] }, .string { data := #[] }, .string { data := #[] }, .int .i64 0, .int .u8 0] 24)) := (Below.refl _ _).alloc (Nat.le_refl _) _
                  have HQ : Hid (Blk (Wa.alloc (.cells #[.int .u8 0, .int .i64 0, .string { data := #[] }, .string { data := #[] }, .string { data := #[] }, .int .i64 0, .int .u8 0] 24)) Wa.heap.size #[.int .u8 0, .int .i64 0, .string { data := #[] }, .string { data := #[] }, .string { data := #[] }, .int .i64 0, .int .u8 0] 24) := Blk.new Wa _ _
                  have HQZ : Hid (W0.heap.size ≤ Wa.heap.size) := Lib.hid HH.out.size
                  replace HH := Lib.hid (stepB HH.out hby)
                  clear hby hHeld
                  refine hK.out _ _ HH.out (fun hHeld => ?_)
                  clear hK K
                  generalize Wa.alloc (.cells #[.int .u8 0, .int .i64 0, .string { data := #[] }, .string { data := #[] }, .string { data := #[] }, .int .i64 0, .int .u8 0] 24) = Wq at *
                  obtain ⟨q, hq⟩ : ∃ x, Wa.heap.size = x := ⟨_, rfl⟩
                  have HQL : Hid (W0.heap.size ≤ q) := Lib.hid (by rw [← hq]; exact HQZ.out)
                  rw [hq] at HQ ⊢
                  clear hq HQZ
                  refine wpAnyH_ready (rs := [13]) (by kernel_rfl) (by simp) (AllReadyH.cons (o := { dst := none, op := Op.store 24 (Operand.tmp 15) (Operand.tmp 118), type := 0, pos := "outright.go:134", after := #[{ on := 12, ground := Ground.data }, { on := 10, ground := Ground.data }, { on := 8, ground := Ground.chain }, { on := 0, ground := Ground.phase }, { on := 1, ground := Ground.phase }, { on := 2, ground := Ground.phase }, { on := 3, ground := Ground.phase }, { on := 4, ground := Ground.phase }, { on := 5, ground := Ground.phase }, { on := 6, ground := Ground.phase }, { on := 7, ground := Ground.phase }, { on := 8, ground := Ground.phase }, { on := 9, ground := Ground.phase }, { on := 10, ground := Ground.phase }, { on := 11, ground := Ground.textOnly Departure.lateStores }, { on := 12, ground := Ground.phase }], guard := none }) rfl (fun K hK => ?_) AllReadyH.nil)
                  refine wp_store_row 24 (.tmp 15) (.tmp 118) rfl q #[.int .u8 (kn4 : Int), .int .i64 tx4, .string ke4, .string en4, .string va4, .int .i64 li4, .int .u8 (eg4 : Int)] rfl rfl 24 #[.int .u8 0, .int .i64 0, .string { data := #[] }, .string { data := #[] }, .string { data := #[] }, .int .i64 0, .int .u8 0] HQ.out (by kernel_rfl) rfl (by first | rfl | (simp [Value.oneCell']; done)) ?_
                  replace HH := Lib.hid (below_setRow HH.out HQL.out #[.int .u8 (kn4 : Int), .int .i64 tx4, .string ke4, .string en4, .string va4, .int .i64 li4, .int .u8 (eg4 : Int)])
                  clear hHeld
                  refine hK.out _ _ HH.out (fun hHeld => ?_)
                  clear hK K
                  refine wpAnyH_take (i := 14) (oi := { dst := some 16, op := Op.assign (Operand.tmp 119), type := 26, pos := "outright.go:134", after := #[{ on := 11, ground := Ground.data }, { on := 13, ground := Ground.chain }, { on := 0, ground := Ground.phase }, { on := 1, ground := Ground.phase }, { on := 2, ground := Ground.phase }, { on := 3, ground := Ground.phase }, { on := 4, ground := Ground.phase }, { on := 5, ground := Ground.phase }, { on := 6, ground := Ground.phase }, { on := 7, ground := Ground.phase }, { on := 8, ground := Ground.phase }, { on := 9, ground := Ground.phase }, { on := 10, ground := Ground.phase }, { on := 11, ground := Ground.phase }, { on := 12, ground := Ground.phase }, { on := 13, ground := Ground.phase }], guard := none }) (v := ?_) rfl (by kernel_rfl) (by kernel_rfl) (by kernel_rfl) (fun _ _ _ h => h) (Or.inl ⟨by rfl, ?_⟩) (by assumption) ?_
                  rotate_left
                  · intro W hSw
                    clear hSw
                    go_simp
                    try with_reducible rfl
                  simp only [Act.put, List.setIfInBounds_toArray, List.set_cons_zero, List.set_cons_succ]
                  refine wpAnyH_done (by kernel_rfl) (NoPanic.normal ?_) _
                  have HF := Lib.hid (stepB HB.out HH.out)
                  clear hHeld HH HPT
                  go_wp2
                  go_ret
                  exact ⟨rfl, HF.out⟩
                · go_simp
                  have hby : Below Wd.heap.size Wd (Wd.alloc (.cells #[.int .u8 0, .int .i64 0, .string { data := #[] }, .string { data := #[] }, .string { data := #[] }, .int .i64 0, .int .u8 0] 24)) := (Below.refl _ _).alloc (Nat.le_refl _) _
                  have HQ : Hid (Blk (Wd.alloc (.cells #[.int .u8 0, .int .i64 0, .string { data := #[] }, .string { data := #[] }, .string { data := #[] }, .int .i64 0, .int .u8 0] 24)) Wd.heap.size #[.int .u8 0, .int .i64 0, .string { data := #[] }, .string { data := #[] }, .string { data := #[] }, .int .i64 0, .int .u8 0] 24) := Blk.new Wd _ _
                  have HQZ : Hid (W0.heap.size ≤ Wd.heap.size) := Lib.hid HH.out.size
                  replace HH := Lib.hid (stepB HH.out hby)
                  clear hby hHeld
                  refine hK.out _ _ HH.out (fun hHeld => ?_)
                  clear hK K
                  generalize Wd.alloc (.cells #[.int .u8 0, .int .i64 0, .string { data := #[] }, .string { data := #[] }, .string { data := #[] }, .int .i64 0, .int .u8 0] 24) = Wq at *
                  obtain ⟨q, hq⟩ : ∃ x, Wd.heap.size = x := ⟨_, rfl⟩
                  have HQL : Hid (W0.heap.size ≤ q) := Lib.hid (by rw [← hq]; exact HQZ.out)
                  rw [hq] at HQ ⊢
                  clear hq HQZ
                  refine wpAnyH_ready (rs := [8]) (by kernel_rfl) (by simp) (AllReadyH.cons (o := { dst := some 117, op := Op.call { callee := Callee.value (Operand.func 11), args := #[Operand.tmp 116], argTypes := #[9] }, type := 27, pos := "outright.go:134", after := #[{ on := 7, ground := Ground.data }], guard := none }) rfl (fun K hK => ?_) AllReadyH.nil)
                  have HCL := Lib.hid (HPT.out _ (HG.out.later HH.out))
                  go_simp
                  refine HCL.out.mono ?_
                  rintro e Wa ⟨rfl, hb⟩
                  replace HQ := Lib.hid (HQ.out.later hb)
                  replace HH := Lib.hid (stepB HH.out hb)
                  clear hb HCL hHeld
                  refine hK.out _ _ HH.out (fun hHeld => ?_)
                  clear hK K
                  refine wpAnyH_take (i := 9) (oi := { dst := some 108, op := Op.move (Operand.tmp 117), type := 27, pos := "outright.go:134", after := #[{ on := 8, ground := Ground.data }], guard := none }) (v := ?_) rfl (by kernel_rfl) (by kernel_rfl) (by kernel_rfl) (fun _ _ _ h => h) (Or.inl ⟨by rfl, ?_⟩) (by assumption) ?_
                  rotate_left
                  · intro W hSw
                    clear hSw
                    go_simp
                    try with_reducible rfl
                  simp only [Act.put, List.setIfInBounds_toArray, List.set_cons_zero, List.set_cons_succ]
                  refine wpAnyH_take (i := 10) (oi := { dst := some 118, op := Op.extract (Operand.tmp 108) 0, type := 24, pos := "outright.go:134", after := #[{ on := 9, ground := Ground.data }], guard := none }) (v := ?_) rfl (by kernel_rfl) (by kernel_rfl) (by kernel_rfl) (fun _ _ _ h => h) (Or.inl ⟨by rfl, ?_⟩) (by assumption) ?_
                  rotate_left
                  · intro W hSw
                    clear hSw
                    go_simp
                    try with_reducible rfl
                  simp only [Act.put, List.setIfInBounds_toArray, List.set_cons_zero, List.set_cons_succ]
                  refine wpAnyH_take (i := 11) (oi := { dst := some 119, op := Op.extract (Operand.tmp 108) 1, type := 26, pos := "outright.go:134", after := #[{ on := 9, ground := Ground.data }, { on := 13, ground := Ground.gcOnly Departure.lateStores }], guard := none }) (v := ?_) rfl (by kernel_rfl) (by kernel_rfl) (by kernel_rfl) (fun _ _ _ h => h) (Or.inl ⟨by rfl, ?_⟩) (by assumption) ?_
                  rotate_left
                  · intro W hSw
                    clear hSw
                    go_simp
                    try with_reducible rfl
                  simp only [Act.put, List.setIfInBounds_toArray, List.set_cons_zero, List.set_cons_succ]
                  refine wpAnyH_ready (rs := [13]) (by kernel_rfl) (by simp) (AllReadyH.cons (o := { dst := none, op := Op.store 24 (Operand.tmp 15) (Operand.tmp 118), type := 0, pos := "outright.go:134", after := #[{ on := 12, ground := Ground.data }, { on := 10, ground := Ground.data }, { on := 8, ground := Ground.chain }, { on := 0, ground := Ground.phase }, { on := 1, ground := Ground.phase }, { on := 2, ground := Ground.phase }, { on := 3, ground := Ground.phase }, { on := 4, ground := Ground.phase }, { on := 5, ground := Ground.phase }, { on := 6, ground := Ground.phase }, { on := 7, ground := Ground.phase }, { on := 8, ground := Ground.phase }, { on := 9, ground := Ground.phase }, { on := 10, ground := Ground.phase }, { on := 11, ground := Ground.textOnly Departure.lateStores }, { on := 12, ground := Ground.phase }], guard := none }) rfl (fun K hK => ?_) AllReadyH.nil)
                  refine wp_store_row 24 (.tmp 15) (.tmp 118) rfl q #[.int .u8 (kn4 : Int), .int .i64 tx4, .string ke4, .string en4, .string va4, .int .i64 li4, .int .u8 (eg4 : Int)] rfl rfl 24 #[.int .u8 0, .int .i64 0, .string { data := #[] }, .string { data := #[] }, .string { data := #[] }, .int .i64 0, .int .u8 0] HQ.out (by kernel_rfl) rfl (by first | rfl | (simp [Value.oneCell']; done)) ?_
                  replace HH := Lib.hid (below_setRow HH.out HQL.out #[.int .u8 (kn4 : Int), .int .i64 tx4, .string ke4, .string en4, .string va4, .int .i64 li4, .int .u8 (eg4 : Int)])
                  clear hHeld
                  refine hK.out _ _ HH.out (fun hHeld => ?_)
                  clear hK K
                  refine wpAnyH_take (i := 14) (oi := { dst := some 16, op := Op.assign (Operand.tmp 119), type := 26, pos := "outright.go:134", after := #[{ on := 11, ground := Ground.data }, { on := 13, ground := Ground.chain }, { on := 0, ground := Ground.phase }, { on := 1, ground := Ground.phase }, { on := 2, ground := Ground.phase }, { on := 3, ground := Ground.phase }, { on := 4, ground := Ground.phase }, { on := 5, ground := Ground.phase }, { on := 6, ground := Ground.phase }, { on := 7, ground := Ground.phase }, { on := 8, ground := Ground.phase }, { on := 9, ground := Ground.phase }, { on := 10, ground := Ground.phase }, { on := 11, ground := Ground.phase }, { on := 12, ground := Ground.phase }, { on := 13, ground := Ground.phase }], guard := none }) (v := ?_) rfl (by kernel_rfl) (by kernel_rfl) (by kernel_rfl) (fun _ _ _ h => h) (Or.inl ⟨by rfl, ?_⟩) (by assumption) ?_
                  rotate_left
                  · intro W hSw
                    clear hSw
                    go_simp
                    try with_reducible rfl
                  simp only [Act.put, List.setIfInBounds_toArray, List.set_cons_zero, List.set_cons_succ]
                  refine wpAnyH_done (by kernel_rfl) (NoPanic.normal ?_) _
                  have HF := Lib.hid (stepB HB.out HH.out)
                  clear hHeld HH HPT
                  go_wp2
                  go_ret
                  exact ⟨rfl, HF.out⟩
              · rw [decide_eq_false h33] at hb33
                have d5 : ((a : Int) == (n : Int)) = true := by rw [beq_iff_eq, HAN.out]
                have HNO : Hid (okP (s.extract 0 a ++ { data := #[32] } ++ s.extract a n) = false) := Lib.hid (no_more (w := []) HM.out HSH.out (by
                  rw [Go.Joins.data_append, Go.Joins.data_append, ext_to, ← HSD.out, ext_from, List.append_assoc]
                  rw [HAN.out, List.take_of_length_le (by rw [HLN.out]; exact Nat.le_refl _), List.drop_of_length_le (by rw [HLN.out]; exact Nat.le_refl _)]; rfl))
                clear h33 hc2 hlt HPRE
                have HPT : Hid (∃ y : Cl, ∀ V, Gl V → Calls Tryd.prog 11 #[.string (s.extract 0 a ++ { data := #[32] } ++ s.extract a n)] V fun e w' => e = .returned (.tuple #[clV y, .int .i64 4]) ∧ Below V.heap.size V w') := Lib.hid ⟨parC (s.extract 0 a ++ { data := #[32] } ++ s.extract a n), fun V hV => by
                  have h := parse_any (s.extract 0 a ++ { data := #[32] } ++ s.extract a n) V (by
                    rw [ByteArray.size_append, ByteArray.size_append, ByteArray.size_extract, ByteArray.size_extract, show ({ data := #[32] } : ByteArray).size = 1 from rfl]
                    have := HS1.out
                    omega) hV
                  rw [parV_eq, parE_no HNO.out] at h
                  exact h⟩
                obtain ⟨y, hpt⟩ := HPT.out
                obtain ⟨kn4, tx4, ke4, en4, va4, li4, eg4⟩ := y
                unfold clV at hpt
                simp only at hpt
                clear HPT
                have HPT := Lib.hid hpt
                clear hpt HNO
                go_upto_region 19 with (fail)
                refine wp_region_noPanic ?_
                obtain ⟨W0, rfl⟩ : ∃ W0 : World, W0 = w11 := ⟨_, rfl⟩
                refine wp_region_held_drew (S := fun W => Below W0.heap.size W0 W) (by kernel_rfl) (Below.drew (Below.refl _ _)) (fun hHeld => ?_)
                have HH := Lib.hid hHeld
                obtain ⟨Wd, hWd⟩ : ∃ Wd, W0.drew = Wd := ⟨_, rfl⟩
                rw [hWd] at HH hHeld ⊢
                clear hWd
                refine wpAnyH_take (i := 0) (oi := { dst := some 109, op := Op.move (Operand.tmp 7), type := 9, pos := "outright.go:134", after := #[], guard := none }) (v := ?_) rfl (by kernel_rfl) (by kernel_rfl) (by kernel_rfl) (fun _ _ _ h => h) (Or.inl ⟨by rfl, ?_⟩) (by assumption) ?_
                rotate_left
                · intro W hSw
                  clear hSw
                  go_simp
                  try with_reducible rfl
                simp only [Act.put, List.setIfInBounds_toArray, List.set_cons_zero, List.set_cons_succ]
                refine wpAnyH_take (i := 1) (oi := { dst := some 110, op := Op.move (Operand.tmp 1), type := 3, pos := "outright.go:134", after := #[], guard := none }) (v := ?_) rfl (by kernel_rfl) (by kernel_rfl) (by kernel_rfl) (fun _ _ _ h => h) (Or.inl ⟨by rfl, ?_⟩) (by assumption) ?_
                rotate_left
                · intro W hSw
                  clear hSw
                  go_simp
                  try with_reducible rfl
                simp only [Act.put, List.setIfInBounds_toArray, List.set_cons_zero, List.set_cons_succ]
                refine wpAnyH_take (i := 2) (oi := { dst := some 111, op := Op.slice 9 (Operand.tmp 109) none (some (Operand.tmp 110)) none, type := 9, pos := "outright.go:134", after := #[{ on := 0, ground := Ground.data }, { on := 1, ground := Ground.data }], guard := none }) (v := ?_) rfl (by kernel_rfl) (by kernel_rfl) (by kernel_rfl) (fun _ _ _ h => h) (Or.inl ⟨by rfl, ?_⟩) (by assumption) ?_
                rotate_left
                · intro W hSw
                  clear hSw
                  have hal := HAL.out
                  have hn2 := HSD.out
                  go_simp
                  try with_reducible rfl
                simp only [Act.put, List.setIfInBounds_toArray, List.set_cons_zero, List.set_cons_succ]
                obtain ⟨sa, hsa⟩ : ∃ z, s.extract 0 a = z := ⟨_, rfl⟩
                have HZA : Hid (sa.size ≤ 100000) := Lib.hid (by rw [← hsa, ByteArray.size_extract]; have := HS1.out; have := HSD.out; omega)
                rw [hsa] at HPT ⊢
                clear hsa
                refine wpAnyH_take (i := 3) (oi := { dst := some 112, op := Op.binOp BinOp.add 9 (Operand.tmp 111) (Operand.const (Value.string { data := #[32] })) 9, type := 9, pos := "outright.go:134", after := #[{ on := 2, ground := Ground.data }], guard := none }) (v := ?_) rfl (by kernel_rfl) (by kernel_rfl) (by kernel_rfl) (fun _ _ _ h => h) (Or.inl ⟨by rfl, ?_⟩) (by assumption) ?_
                rotate_left
                · intro W hSw
                  clear hSw
                  have g1 : ¬ 9223372036854775807 < sa.size + 1 := by have := HZA.out; omega
                  go_simp
                  try with_reducible rfl
                simp only [Act.put, List.setIfInBounds_toArray, List.set_cons_zero, List.set_cons_succ]
                refine wpAnyH_take (i := 4) (oi := { dst := some 113, op := Op.move (Operand.tmp 7), type := 9, pos := "outright.go:134", after := #[], guard := none }) (v := ?_) rfl (by kernel_rfl) (by kernel_rfl) (by kernel_rfl) (fun _ _ _ h => h) (Or.inl ⟨by rfl, ?_⟩) (by assumption) ?_
                rotate_left
                · intro W hSw
                  clear hSw
                  go_simp
                  try with_reducible rfl
                simp only [Act.put, List.setIfInBounds_toArray, List.set_cons_zero, List.set_cons_succ]
                refine wpAnyH_take (i := 5) (oi := { dst := some 114, op := Op.move (Operand.tmp 1), type := 3, pos := "outright.go:134", after := #[], guard := none }) (v := ?_) rfl (by kernel_rfl) (by kernel_rfl) (by kernel_rfl) (fun _ _ _ h => h) (Or.inl ⟨by rfl, ?_⟩) (by assumption) ?_
                rotate_left
                · intro W hSw
                  clear hSw
                  go_simp
                  try with_reducible rfl
                simp only [Act.put, List.setIfInBounds_toArray, List.set_cons_zero, List.set_cons_succ]
                refine wpAnyH_take (i := 6) (oi := { dst := some 115, op := Op.slice 9 (Operand.tmp 113) (some (Operand.tmp 114)) none none, type := 9, pos := "outright.go:134", after := #[{ on := 4, ground := Ground.data }, { on := 5, ground := Ground.data }], guard := none }) (v := ?_) rfl (by kernel_rfl) (by kernel_rfl) (by kernel_rfl) (fun _ _ _ h => h) (Or.inl ⟨by rfl, ?_⟩) (by assumption) ?_
                rotate_left
                · intro W hSw
                  clear hSw
                  have hal := HAL.out
                  have hn2 := HSD.out
                  go_simp
                  try with_reducible rfl
                simp only [Act.put, List.setIfInBounds_toArray, List.set_cons_zero, List.set_cons_succ]
                obtain ⟨sb, hsb⟩ : ∃ z, s.extract a n = z := ⟨_, rfl⟩
                have HZB : Hid (sb.size ≤ 100000) := Lib.hid (by rw [← hsb, ByteArray.size_extract]; have := HS1.out; have := HSD.out; omega)
                rw [hsb] at HPT
                try rw [HSD.out]
                rw [hsb]
                clear hsb
                refine wpAnyH_take (i := 7) (oi := { dst := some 116, op := Op.binOp BinOp.add 9 (Operand.tmp 112) (Operand.tmp 115) 9, type := 9, pos := "outright.go:134", after := #[{ on := 3, ground := Ground.data }, { on := 6, ground := Ground.data }], guard := none }) (v := ?_) rfl (by kernel_rfl) (by kernel_rfl) (by kernel_rfl) (fun _ _ _ h => h) (Or.inl ⟨by rfl, ?_⟩) (by assumption) ?_
                rotate_left
                · intro W hSw
                  clear hSw
                  have g1 : ¬ 9223372036854775807 < sa.size + 1 + sb.size := by have := HZA.out; have := HZB.out; omega
                  go_simp
                  try with_reducible rfl
                simp only [Act.put, List.setIfInBounds_toArray, List.set_cons_zero, List.set_cons_succ]
                refine wpAnyH_ready (rs := [8, 12]) (by kernel_rfl) (by simp) (AllReadyH.cons (o := { dst := some 117, op := Op.call { callee := Callee.value (Operand.func 11), args := #[Operand.tmp 116], argTypes := #[9] }, type := 27, pos := "outright.go:134", after := #[{ on := 7, ground := Ground.data }], guard := none }) rfl (fun K hK => ?_) (AllReadyH.cons (o := { dst := some 15, op := Op.alloc 24, type := 0, pos := "outright.go:134", after := #[], guard := none }) rfl (fun K hK => ?_) AllReadyH.nil))
                · have HCL := Lib.hid (HPT.out _ (HG.out.later HH.out))
                  go_simp
                  refine HCL.out.mono ?_
                  rintro e Wa ⟨rfl, hb⟩
                  replace HH := Lib.hid (stepB HH.out hb)
                  clear hb HCL hHeld
                  refine hK.out _ _ HH.out (fun hHeld => ?_)
                  clear hK K
                  refine wpAnyH_take (i := 9) (oi := { dst := some 108, op := Op.move (Operand.tmp 117), type := 27, pos := "outright.go:134", after := #[{ on := 8, ground := Ground.data }], guard := none }) (v := ?_) rfl (by kernel_rfl) (by kernel_rfl) (by kernel_rfl) (fun _ _ _ h => h) (Or.inl ⟨by rfl, ?_⟩) (by assumption) ?_
                  rotate_left
                  · intro W hSw
                    clear hSw
                    go_simp
                    try with_reducible rfl
                  simp only [Act.put, List.setIfInBounds_toArray, List.set_cons_zero, List.set_cons_succ]
                  refine wpAnyH_take (i := 10) (oi := { dst := some 118, op := Op.extract (Operand.tmp 108) 0, type := 24, pos := "outright.go:134", after := #[{ on := 9, ground := Ground.data }], guard := none }) (v := ?_) rfl (by kernel_rfl) (by kernel_rfl) (by kernel_rfl) (fun _ _ _ h => h) (Or.inl ⟨by rfl, ?_⟩) (by assumption) ?_
                  rotate_left
                  · intro W hSw
                    clear hSw
                    go_simp
                    try with_reducible rfl
                  simp only [Act.put, List.setIfInBounds_toArray, List.set_cons_zero, List.set_cons_succ]
                  refine wpAnyH_take (i := 11) (oi := { dst := some 119, op := Op.extract (Operand.tmp 108) 1, type := 26, pos := "outright.go:134", after := #[{ on := 9, ground := Ground.data }, { on := 13, ground := Ground.gcOnly Departure.lateStores }], guard := none }) (v := ?_) rfl (by kernel_rfl) (by kernel_rfl) (by kernel_rfl) (fun _ _ _ h => h) (Or.inl ⟨by rfl, ?_⟩) (by assumption) ?_
                  rotate_left
                  · intro W hSw
                    clear hSw
                    go_simp
                    try with_reducible rfl
                  simp only [Act.put, List.setIfInBounds_toArray, List.set_cons_zero, List.set_cons_succ]
                  refine wpAnyH_ready (rs := [12]) (by kernel_rfl) (by simp) (AllReadyH.cons (o := { dst := some 15, op := Op.alloc 24, type := 0, pos := "outright.go:134", after := #[], guard := none }) rfl (fun K hK => ?_) AllReadyH.nil)
                  go_simp
                  have hby : Below Wa.heap.size Wa (Wa.alloc (.cells #[.int .u8 0, .int .i64 0, .string { data := #[] }, .string { data := #[] }, .string { data := #[] }, .int .i64 0, .int .u8 0] 24)) := (Below.refl _ _).alloc (Nat.le_refl _) _
                  have HQ : Hid (Blk (Wa.alloc (.cells #[.int .u8 0, .int .i64 0, .string { data := #[] }, .string { data := #[] }, .string { data := #[] }, .int .i64 0, .int .u8 0] 24)) Wa.heap.size #[.int .u8 0, .int .i64 0, .string { data := #[] }, .string { data := #[] }, .string { data := #[] }, .int .i64 0, .int .u8 0] 24) := Blk.new Wa _ _
                  have HQZ : Hid (W0.heap.size ≤ Wa.heap.size) := Lib.hid HH.out.size
                  replace HH := Lib.hid (stepB HH.out hby)
                  clear hby hHeld
                  refine hK.out _ _ HH.out (fun hHeld => ?_)
                  clear hK K
                  generalize Wa.alloc (.cells #[.int .u8 0, .int .i64 0, .string { data := #[] }, .string { data := #[] }, .string { data := #[] }, .int .i64 0, .int .u8 0] 24) = Wq at *
                  obtain ⟨q, hq⟩ : ∃ x, Wa.heap.size = x := ⟨_, rfl⟩
                  have HQL : Hid (W0.heap.size ≤ q) := Lib.hid (by rw [← hq]; exact HQZ.out)
                  rw [hq] at HQ ⊢
                  clear hq HQZ
                  refine wpAnyH_ready (rs := [13]) (by kernel_rfl) (by simp) (AllReadyH.cons (o := { dst := none, op := Op.store 24 (Operand.tmp 15) (Operand.tmp 118), type := 0, pos := "outright.go:134", after := #[{ on := 12, ground := Ground.data }, { on := 10, ground := Ground.data }, { on := 8, ground := Ground.chain }, { on := 0, ground := Ground.phase }, { on := 1, ground := Ground.phase }, { on := 2, ground := Ground.phase }, { on := 3, ground := Ground.phase }, { on := 4, ground := Ground.phase }, { on := 5, ground := Ground.phase }, { on := 6, ground := Ground.phase }, { on := 7, ground := Ground.phase }, { on := 8, ground := Ground.phase }, { on := 9, ground := Ground.phase }, { on := 10, ground := Ground.phase }, { on := 11, ground := Ground.textOnly Departure.lateStores }, { on := 12, ground := Ground.phase }], guard := none }) rfl (fun K hK => ?_) AllReadyH.nil)
                  refine wp_store_row 24 (.tmp 15) (.tmp 118) rfl q #[.int .u8 (kn4 : Int), .int .i64 tx4, .string ke4, .string en4, .string va4, .int .i64 li4, .int .u8 (eg4 : Int)] rfl rfl 24 #[.int .u8 0, .int .i64 0, .string { data := #[] }, .string { data := #[] }, .string { data := #[] }, .int .i64 0, .int .u8 0] HQ.out (by kernel_rfl) rfl (by first | rfl | (simp [Value.oneCell']; done)) ?_
                  replace HH := Lib.hid (below_setRow HH.out HQL.out #[.int .u8 (kn4 : Int), .int .i64 tx4, .string ke4, .string en4, .string va4, .int .i64 li4, .int .u8 (eg4 : Int)])
                  clear hHeld
                  refine hK.out _ _ HH.out (fun hHeld => ?_)
                  clear hK K
                  refine wpAnyH_take (i := 14) (oi := { dst := some 16, op := Op.assign (Operand.tmp 119), type := 26, pos := "outright.go:134", after := #[{ on := 11, ground := Ground.data }, { on := 13, ground := Ground.chain }, { on := 0, ground := Ground.phase }, { on := 1, ground := Ground.phase }, { on := 2, ground := Ground.phase }, { on := 3, ground := Ground.phase }, { on := 4, ground := Ground.phase }, { on := 5, ground := Ground.phase }, { on := 6, ground := Ground.phase }, { on := 7, ground := Ground.phase }, { on := 8, ground := Ground.phase }, { on := 9, ground := Ground.phase }, { on := 10, ground := Ground.phase }, { on := 11, ground := Ground.phase }, { on := 12, ground := Ground.phase }, { on := 13, ground := Ground.phase }], guard := none }) (v := ?_) rfl (by kernel_rfl) (by kernel_rfl) (by kernel_rfl) (fun _ _ _ h => h) (Or.inl ⟨by rfl, ?_⟩) (by assumption) ?_
                  rotate_left
                  · intro W hSw
                    clear hSw
                    go_simp
                    try with_reducible rfl
                  simp only [Act.put, List.setIfInBounds_toArray, List.set_cons_zero, List.set_cons_succ]
                  refine wpAnyH_done (by kernel_rfl) (NoPanic.normal ?_) _
                  have HF := Lib.hid (stepB HB.out HH.out)
                  clear hHeld HH HPT
                  go_wp2
                  go_ret
                  exact ⟨rfl, HF.out⟩
                · go_simp
                  have hby : Below Wd.heap.size Wd (Wd.alloc (.cells #[.int .u8 0, .int .i64 0, .string { data := #[] }, .string { data := #[] }, .string { data := #[] }, .int .i64 0, .int .u8 0] 24)) := (Below.refl _ _).alloc (Nat.le_refl _) _
                  have HQ : Hid (Blk (Wd.alloc (.cells #[.int .u8 0, .int .i64 0, .string { data := #[] }, .string { data := #[] }, .string { data := #[] }, .int .i64 0, .int .u8 0] 24)) Wd.heap.size #[.int .u8 0, .int .i64 0, .string { data := #[] }, .string { data := #[] }, .string { data := #[] }, .int .i64 0, .int .u8 0] 24) := Blk.new Wd _ _
                  have HQZ : Hid (W0.heap.size ≤ Wd.heap.size) := Lib.hid HH.out.size
                  replace HH := Lib.hid (stepB HH.out hby)
                  clear hby hHeld
                  refine hK.out _ _ HH.out (fun hHeld => ?_)
                  clear hK K
                  generalize Wd.alloc (.cells #[.int .u8 0, .int .i64 0, .string { data := #[] }, .string { data := #[] }, .string { data := #[] }, .int .i64 0, .int .u8 0] 24) = Wq at *
                  obtain ⟨q, hq⟩ : ∃ x, Wd.heap.size = x := ⟨_, rfl⟩
                  have HQL : Hid (W0.heap.size ≤ q) := Lib.hid (by rw [← hq]; exact HQZ.out)
                  rw [hq] at HQ ⊢
                  clear hq HQZ
                  refine wpAnyH_ready (rs := [8]) (by kernel_rfl) (by simp) (AllReadyH.cons (o := { dst := some 117, op := Op.call { callee := Callee.value (Operand.func 11), args := #[Operand.tmp 116], argTypes := #[9] }, type := 27, pos := "outright.go:134", after := #[{ on := 7, ground := Ground.data }], guard := none }) rfl (fun K hK => ?_) AllReadyH.nil)
                  have HCL := Lib.hid (HPT.out _ (HG.out.later HH.out))
                  go_simp
                  refine HCL.out.mono ?_
                  rintro e Wa ⟨rfl, hb⟩
                  replace HQ := Lib.hid (HQ.out.later hb)
                  replace HH := Lib.hid (stepB HH.out hb)
                  clear hb HCL hHeld
                  refine hK.out _ _ HH.out (fun hHeld => ?_)
                  clear hK K
                  refine wpAnyH_take (i := 9) (oi := { dst := some 108, op := Op.move (Operand.tmp 117), type := 27, pos := "outright.go:134", after := #[{ on := 8, ground := Ground.data }], guard := none }) (v := ?_) rfl (by kernel_rfl) (by kernel_rfl) (by kernel_rfl) (fun _ _ _ h => h) (Or.inl ⟨by rfl, ?_⟩) (by assumption) ?_
                  rotate_left
                  · intro W hSw
                    clear hSw
                    go_simp
                    try with_reducible rfl
                  simp only [Act.put, List.setIfInBounds_toArray, List.set_cons_zero, List.set_cons_succ]
                  refine wpAnyH_take (i := 10) (oi := { dst := some 118, op := Op.extract (Operand.tmp 108) 0, type := 24, pos := "outright.go:134", after := #[{ on := 9, ground := Ground.data }], guard := none }) (v := ?_) rfl (by kernel_rfl) (by kernel_rfl) (by kernel_rfl) (fun _ _ _ h => h) (Or.inl ⟨by rfl, ?_⟩) (by assumption) ?_
                  rotate_left
                  · intro W hSw
                    clear hSw
                    go_simp
                    try with_reducible rfl
                  simp only [Act.put, List.setIfInBounds_toArray, List.set_cons_zero, List.set_cons_succ]
                  refine wpAnyH_take (i := 11) (oi := { dst := some 119, op := Op.extract (Operand.tmp 108) 1, type := 26, pos := "outright.go:134", after := #[{ on := 9, ground := Ground.data }, { on := 13, ground := Ground.gcOnly Departure.lateStores }], guard := none }) (v := ?_) rfl (by kernel_rfl) (by kernel_rfl) (by kernel_rfl) (fun _ _ _ h => h) (Or.inl ⟨by rfl, ?_⟩) (by assumption) ?_
                  rotate_left
                  · intro W hSw
                    clear hSw
                    go_simp
                    try with_reducible rfl
                  simp only [Act.put, List.setIfInBounds_toArray, List.set_cons_zero, List.set_cons_succ]
                  refine wpAnyH_ready (rs := [13]) (by kernel_rfl) (by simp) (AllReadyH.cons (o := { dst := none, op := Op.store 24 (Operand.tmp 15) (Operand.tmp 118), type := 0, pos := "outright.go:134", after := #[{ on := 12, ground := Ground.data }, { on := 10, ground := Ground.data }, { on := 8, ground := Ground.chain }, { on := 0, ground := Ground.phase }, { on := 1, ground := Ground.phase }, { on := 2, ground := Ground.phase }, { on := 3, ground := Ground.phase }, { on := 4, ground := Ground.phase }, { on := 5, ground := Ground.phase }, { on := 6, ground := Ground.phase }, { on := 7, ground := Ground.phase }, { on := 8, ground := Ground.phase }, { on := 9, ground := Ground.phase }, { on := 10, ground := Ground.phase }, { on := 11, ground := Ground.textOnly Departure.lateStores }, { on := 12, ground := Ground.phase }], guard := none }) rfl (fun K hK => ?_) AllReadyH.nil)
                  refine wp_store_row 24 (.tmp 15) (.tmp 118) rfl q #[.int .u8 (kn4 : Int), .int .i64 tx4, .string ke4, .string en4, .string va4, .int .i64 li4, .int .u8 (eg4 : Int)] rfl rfl 24 #[.int .u8 0, .int .i64 0, .string { data := #[] }, .string { data := #[] }, .string { data := #[] }, .int .i64 0, .int .u8 0] HQ.out (by kernel_rfl) rfl (by first | rfl | (simp [Value.oneCell']; done)) ?_
                  replace HH := Lib.hid (below_setRow HH.out HQL.out #[.int .u8 (kn4 : Int), .int .i64 tx4, .string ke4, .string en4, .string va4, .int .i64 li4, .int .u8 (eg4 : Int)])
                  clear hHeld
                  refine hK.out _ _ HH.out (fun hHeld => ?_)
                  clear hK K
                  refine wpAnyH_take (i := 14) (oi := { dst := some 16, op := Op.assign (Operand.tmp 119), type := 26, pos := "outright.go:134", after := #[{ on := 11, ground := Ground.data }, { on := 13, ground := Ground.chain }, { on := 0, ground := Ground.phase }, { on := 1, ground := Ground.phase }, { on := 2, ground := Ground.phase }, { on := 3, ground := Ground.phase }, { on := 4, ground := Ground.phase }, { on := 5, ground := Ground.phase }, { on := 6, ground := Ground.phase }, { on := 7, ground := Ground.phase }, { on := 8, ground := Ground.phase }, { on := 9, ground := Ground.phase }, { on := 10, ground := Ground.phase }, { on := 11, ground := Ground.phase }, { on := 12, ground := Ground.phase }, { on := 13, ground := Ground.phase }], guard := none }) (v := ?_) rfl (by kernel_rfl) (by kernel_rfl) (by kernel_rfl) (fun _ _ _ h => h) (Or.inl ⟨by rfl, ?_⟩) (by assumption) ?_
                  rotate_left
                  · intro W hSw
                    clear hSw
                    go_simp
                    try with_reducible rfl
                  simp only [Act.put, List.setIfInBounds_toArray, List.set_cons_zero, List.set_cons_succ]
                  refine wpAnyH_done (by kernel_rfl) (NoPanic.normal ?_) _
                  have HF := Lib.hid (stepB HB.out HH.out)
                  clear hHeld HH HPT
                  go_wp2
                  go_ret
                  exact ⟨rfl, HF.out⟩
end Go.Proofs.YtkgdmdcnhbaidaaDoor
