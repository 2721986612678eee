/- CallBack: its walk. -/
import Derived.Test.YtkgdmdcnhbaidaaDoorY3
import Derived.Test.YtkgdmdcnhbaidaaDoorAN
import Derived.Test.YtkgdmdcnhbaidaaDoorRE
import Derived.Test.YtkgdmdcnhbaidaaDoorOE
import Derived.Test.YtkgdmdcnhbaidaaDoorOD
import Derived.Test.YtkgdmdcnhbaidaaDoorWK
namespace Go.Proofs.YtkgdmdcnhbaidaaDoor
open Go.ChangeShapes Go.WideShapes Go.ChangeAt Go.RowKit
set_option linter.unusedVariables false
set_option linter.unusedSimpArgs false

/-- what Parse hands back of a text -/
def parC (s : ByteArray) : Cl := if okP s then clP s else cl0
def parE (s : ByteArray) : Int := if okP s then 0 else 4
theorem parV_eq (s : ByteArray) : parV s = .tuple #[clV (parC s), .int .i64 (parE s)] := rfl
theorem co_of {x : Cl} (h : COk x) (hl : decide (9000 ≤ lgS [x]) = false) : ClOk x ∧ (joinW (showL x)).size ≤ 90000 :=
  cl_ok (l := [x]) ⟨h.1, h.2.1, h.2.2.1, h.2.2.2.1⟩ (by have h := of_decide_eq_false hl; exact Int.not_le.1 h) (List.mem_singleton.2 rfl)
theorem ao_of {a : As} {q : Option Addr × Nat × Nat} (he : inI a.1) (hl : decide (9000 ≤ wdS 0 [(a, q)]) = false) : AsOk a :=
  as_ok he (wd_lt [(a, q)] 0 (Int.le_refl _) (by have h := of_decide_eq_false hl; exact Int.not_le.1 h) (a, q) (List.mem_singleton.2 rfl))
def rdE (s : ByteArray) : Int := if okA s then 0 else 4
set_option maxRecDepth 100000 in
set_option maxHeartbeats 16000000 in
theorem back_walk (kn : Nat) (tx : Int) (ke en va : ByteArray) (li : Int) (eg : Nat) (er : Int) (fo : Bool) (av : ByteArray) (ps : List Pr) (A : Option Addr) (n c : Nat) (s : ByteArray) (W : World) (hx : COk (kn, tx, ke, en, va, li, eg)) (ha : inI er) (hr : RSl pvc 2 W A n ps ∧ n ≤ maxLen) (hs : s.size ≤ maxLen) (hg : Gl W) :
    Calls Tryd.prog 5 #[.agg #[.int .u8 (kn : Int), .int .i64 tx, .string ke, .string en, .string va, .int .i64 li, .int .u8 (eg : Int)], .agg #[.int .i64 er, .bool fo, .string av, .slice A n c], .string s] W fun e w' => e = .returned (.bool true) ∧ Below W.heap.size W w' := by
  have b1 : Below W.heap.size W (W.alloc (.cells #[.int .u8 (kn : Int), .int .i64 tx, .string ke, .string en, .string va, .int .i64 li, .int .u8 (eg : Int)] 24)) := (Below.refl _ _).alloc (Nat.le_refl _) _
  have b2 : Below (W.alloc (.cells #[.int .u8 (kn : Int), .int .i64 tx, .string ke, .string en, .string va, .int .i64 li, .int .u8 (eg : Int)] 24)).heap.size (W.alloc (.cells #[.int .u8 (kn : Int), .int .i64 tx, .string ke, .string en, .string va, .int .i64 li, .int .u8 (eg : Int)] 24)) ((W.alloc (.cells #[.int .u8 (kn : Int), .int .i64 tx, .string ke, .string en, .string va, .int .i64 li, .int .u8 (eg : Int)] 24)).alloc (.cells #[.int .i64 er, .bool fo, .string av, .slice A n c] 37)) := (Below.refl _ _).alloc (Nat.le_refl _) _
  have HX : Hid (Blk ((W.alloc (.cells #[.int .u8 (kn : Int), .int .i64 tx, .string ke, .string en, .string va, .int .i64 li, .int .u8 (eg : Int)] 24)).alloc (.cells #[.int .i64 er, .bool fo, .string av, .slice A n c] 37)) W.heap.size #[.int .u8 (kn : Int), .int .i64 tx, .string ke, .string en, .string va, .int .i64 li, .int .u8 (eg : Int)] 24) := (Blk.new _ _ _).later b2
  have HA : Hid (Blk ((W.alloc (.cells #[.int .u8 (kn : Int), .int .i64 tx, .string ke, .string en, .string va, .int .i64 li, .int .u8 (eg : Int)] 24)).alloc (.cells #[.int .i64 er, .bool fo, .string av, .slice A n c] 37)) (W.heap.size + 1) #[.int .i64 er, .bool fo, .string av, .slice A n c] 37) := Blk.new2 _ _ 37 (by simp)
  have HB := Lib.hid (stepB b1 b2)
  have HG := Lib.hid (hg.later HB.out)
  have HR := Lib.hid (hr.1.later HB.out)
  have HN := Lib.hid hr.2
  have HLN : Hid (ps.length = n) := Lib.hid hr.1.1
  have HCX := Lib.hid hx
  have HER := Lib.hid ha
  have HSS := Lib.hid hs
  clear hg b1 b2 hr hx ha hs
  go_enter Tryd.func5, Tryd.ntmps5
  go_upto_region 1 with (fail)
  generalize ((W.alloc (.cells #[.int .u8 (kn : Int), .int .i64 tx, .string ke, .string en, .string va, .int .i64 li, .int .u8 (eg : Int)] 24)).alloc (.cells #[.int .i64 er, .bool fo, .string av, .slice A n c] 37)) = w2 at *
  obtain ⟨p3, hp3⟩ : ∃ x, W.heap.size = x := ⟨_, rfl⟩
  obtain ⟨p4, hp4⟩ : ∃ x, p3 + 1 = x := ⟨_, rfl⟩
  have HP3 := Lib.hid hp3
  rw [hp3, hp4] at HA
  rw [hp3] at HX
  rw [hp3]
  try rw [hp4]
  clear hp3 hp4
  have HCL_ := Lib.hid (works_any w2 HG.out)
  go_wp2_with fail
  refine HCL_.out.mono ?_
  rintro e w3 ⟨rfl, hb⟩
  replace HX := Lib.hid (HX.out.later hb)
  replace HA := Lib.hid (HA.out.later hb)
  replace HG := Lib.hid (HG.out.later hb)
  replace HR := Lib.hid (HR.out.later hb)
  replace HB := Lib.hid (stepB HB.out hb)
  clear hb HCL_
  have x0 := HX.out.cell 0
  have x1 := HX.out.cell 1
  have x2 := HX.out.cell 2
  have x3 := HX.out.cell 3
  have x4 := HX.out.cell 4
  have x5 := HX.out.cell 5
  have x6 := HX.out.cell 6
  simp only [List.getElem?_toArray, List.getElem?_cons_zero, List.getElem?_cons_succ] at x0 x1 x2 x3 x4 x5 x6
  have hby : Below w3.heap.size w3 (w3.alloc (.cells #[.int .u8 (kn : Int), .int .i64 tx, .string ke, .string en, .string va, .int .i64 li, .int .u8 (eg : Int)] 24)) := (Below.refl _ _).alloc (Nat.le_refl _) _
  have hbs : Blk (w3.alloc (.cells #[.int .u8 (kn : Int), .int .i64 tx, .string ke, .string en, .string va, .int .i64 li, .int .u8 (eg : Int)] 24)) w3.heap.size #[.int .u8 (kn : Int), .int .i64 tx, .string ke, .string en, .string va, .int .i64 li, .int .u8 (eg : Int)] 24 := Blk.new _ _ _
  have HL := Lib.hid (long_any (some ⟨w3.heap.size, 0, none⟩) 1 1 [(kn, tx, ke, en, va, li, eg)] (w3.alloc (.cells #[.int .u8 (kn : Int), .int .i64 tx, .string ke, .string en, .string va, .int .i64 li, .int .u8 (eg : Int)] 24)) (Blk.rsl (enc := clE) (x := (kn, tx, ke, en, va, li, eg)) hbs) (by decide))
  replace HX := Lib.hid (HX.out.later hby)
  replace HA := Lib.hid (HA.out.later hby)
  replace HG := Lib.hid (HG.out.later hby)
  replace HR := Lib.hid (HR.out.later hby)
  replace HB := Lib.hid (stepB HB.out hby)
  clear hby hbs
  go_wp2_with fail
  clear x0 x1 x2 x3 x4 x5 x6
  refine HL.out.mono ?_
  rintro e w5 ⟨rfl, hb⟩
  replace HX := Lib.hid (HX.out.later hb)
  replace HA := Lib.hid (HA.out.later hb)
  replace HG := Lib.hid (HG.out.later hb)
  replace HR := Lib.hid (HR.out.later hb)
  replace HB := Lib.hid (stepB HB.out hb)
  clear hb HL
  obtain ⟨bl_, hbl⟩ : ∃ b, decide (9000 ≤ lgS [(kn, tx, ke, en, va, li, eg)]) = b := ⟨_, rfl⟩
  rw [hbl]
  have HLG := Lib.hid hbl
  clear hbl
  cases bl_ with
  | true =>
    go_wp2_with fail
    refine (works_any w5 HG.out).mono ?_
    rintro e w6 ⟨rfl, hb⟩
    replace HB := Lib.hid (stepB HB.out hb)
    clear hb
    go_wp2
    go_ret
    exact ⟨rfl, HB.out⟩
  | false =>
    have y0 := HA.out.cell 0
    have y1 := HA.out.cell 1
    have y2 := HA.out.cell 2
    have y3 := HA.out.cell 3
    simp only [List.getElem?_toArray, List.getElem?_cons_zero, List.getElem?_cons_succ] at y0 y1 y2 y3
    have hby : Below w5.heap.size w5 (w5.alloc (.cells #[.int .i64 er, .bool fo, .string av, .slice A n c] 37)) := (Below.refl _ _).alloc (Nat.le_refl _) _
    have hbs : Blk (w5.alloc (.cells #[.int .i64 er, .bool fo, .string av, .slice A n c] 37)) w5.heap.size #[.int .i64 er, .bool fo, .string av, .slice A n c] 37 := Blk.new _ _ _
    have HL := Lib.hid (wide_any (some ⟨w5.heap.size, 0, none⟩) 1 1 [((er, fo, av, ps), A, n, c)] (w5.alloc (.cells #[.int .i64 er, .bool fo, .string av, .slice A n c] 37)) (Blk.rsl (enc := asE) (x := ((er, fo, av, ps), A, n, c)) hbs) (fun x hx => by
      obtain rfl := List.mem_singleton.1 hx
      exact ⟨HR.out.later hby, HN.out⟩) (by decide))
    replace HX := Lib.hid (HX.out.later hby)
    replace HA := Lib.hid (HA.out.later hby)
    replace HG := Lib.hid (HG.out.later hby)
    replace HR := Lib.hid (HR.out.later hby)
    replace HB := Lib.hid (stepB HB.out hby)
    clear hby hbs
    go_wp2_with fail
    clear y0 y1 y2 y3
    refine HL.out.mono ?_
    rintro e w6 ⟨rfl, hb⟩
    replace HX := Lib.hid (HX.out.later hb)
    replace HA := Lib.hid (HA.out.later hb)
    replace HG := Lib.hid (HG.out.later hb)
    replace HR := Lib.hid (HR.out.later hb)
    replace HB := Lib.hid (stepB HB.out hb)
    clear hb HL
    obtain ⟨bl_, hbl⟩ : ∃ b, decide (9000 ≤ wdS 0 [((er, fo, av, ps), A, n, c)]) = b := ⟨_, rfl⟩
    rw [hbl]
    have HWD := Lib.hid hbl
    clear hbl
    cases bl_ with
    | true =>
      go_wp2_with fail
      refine (works_any w6 HG.out).mono ?_
      rintro e w7 ⟨rfl, hb⟩
      replace HB := Lib.hid (stepB HB.out hb)
      clear hb
      go_wp2
      go_ret
      exact ⟨rfl, HB.out⟩
    | false =>
      by_cases hsz : 9000 < s.size
      · have d9 : decide (9000 < (s.size : Int)) = true := decide_eq_true (by omega)
        clear hsz
        go_wp2_with fail
        refine (works_any w6 HG.out).mono ?_
        rintro e w7 ⟨rfl, hb⟩
        replace HB := Lib.hid (stepB HB.out hb)
        clear hb
        go_wp2
        go_ret
        exact ⟨rfl, HB.out⟩
      · have d9 : decide (9000 < (s.size : Int)) = false := decide_eq_false (by omega)
        have HSZ : Hid (s.size ≤ 9000) := Lib.hid (by omega)
        clear hsz
        have HCO := Lib.hid (co_of HCX.out HLG.out)
        have HAO := Lib.hid (ao_of HER.out HWD.out)
        clear HLG HWD HSS
        go_upto_region 3 with (fail)
        clear d9
        have x0 := HX.out.cell 0
        have x1 := HX.out.cell 1
        have x2 := HX.out.cell 2
        have x3 := HX.out.cell 3
        have x4 := HX.out.cell 4
        have x5 := HX.out.cell 5
        have x6 := HX.out.cell 6
        simp only [List.getElem?_toArray, List.getElem?_cons_zero, List.getElem?_cons_succ] at x0 x1 x2 x3 x4 x5 x6
        have HCL_ := Lib.hid (show_any (kn, tx, ke, en, va, li, eg) w6 HCO.out.1 HG.out (by have := HCO.out.2; omega))
        go_wp2_with fail
        refine HCL_.out.mono ?_
        rintro e w7 ⟨rfl, hb⟩
        replace HX := Lib.hid (HX.out.later hb)
        replace HA := Lib.hid (HA.out.later hb)
        replace HG := Lib.hid (HG.out.later hb)
        replace HR := Lib.hid (HR.out.later hb)
        replace HB := Lib.hid (stepB HB.out hb)
        clear hb HCL_
        clear x0 x1 x2 x3 x4 x5 x6
        obtain ⟨s1, hs1⟩ : ∃ z, showP (kn, tx, ke, en, va, li, eg) = z := ⟨_, rfl⟩
        rw [hs1]
        have HS1 : Hid (s1.size ≤ 90000) := Lib.hid (by
          rw [← hs1]
          unfold showP
          split
          · exact HCO.out.2
          · show (0 : Nat) ≤ _; omega)
        have HYE : Hid (if mayC (kn, tx, ke, en, va, li, eg) = true then parC s1 = clnC (kn, tx, ke, en, va, li, eg) ∧ parE s1 = 0 else parC s1 = cl0 ∧ parE s1 = 4) := Lib.hid (by
          rw [← hs1]
          by_cases hm : mayC (kn, tx, ke, en, va, li, eg) = true
          · rw [if_pos hm]
            have h := parse_show (x := (kn, tx, ke, en, va, li, eg)) hm HCX.out.2.2.1 HCX.out.2.2.2.1 HCX.out.2.1
            unfold parC parE
            rw [h.1, h.2]
            exact ⟨rfl, rfl⟩
          · rw [if_neg hm]
            have h : showP (kn, tx, ke, en, va, li, eg) = emp := by unfold showP; rw [if_neg hm]
            rw [h]
            unfold parC parE
            rw [parse_emp]
            exact ⟨rfl, rfl⟩)
        clear hs1
        have HPA := parse_any s1 w7 (by have := HS1.out; omega) HG.out
        rw [parV_eq] at HPA
        obtain ⟨y, hy⟩ : ∃ y, parC s1 = y := ⟨_, rfl⟩
        obtain ⟨e_, he_⟩ : ∃ y, parE s1 = y := ⟨_, rfl⟩
        rw [hy, he_] at HPA HYE
        clear hy he_
        obtain ⟨kn2, tx2, ke2, en2, va2, li2, eg2⟩ := y
        unfold clV at HPA
        simp only at HPA
        have HCL_ := Lib.hid (HPA)
        go_wp2_with fail
        refine HCL_.out.mono ?_
        rintro e w8 ⟨rfl, hb⟩
        replace HX := Lib.hid (HX.out.later hb)
        replace HA := Lib.hid (HA.out.later hb)
        replace HG := Lib.hid (HG.out.later hb)
        replace HR := Lib.hid (HR.out.later hb)
        replace HB := Lib.hid (stepB HB.out hb)
        clear hb HCL_
        clear HPA
        have hby : Below w8.heap.size w8 (w8.alloc (.cells #[.int .u8 (kn2 : Int), .int .i64 tx2, .string ke2, .string en2, .string va2, .int .i64 li2, .int .u8 (eg2 : Int)] 24)) := (Below.refl _ _).alloc (Nat.le_refl _) _
        have HY : Hid (Blk (w8.alloc (.cells #[.int .u8 (kn2 : Int), .int .i64 tx2, .string ke2, .string en2, .string va2, .int .i64 li2, .int .u8 (eg2 : Int)] 24)) w8.heap.size #[.int .u8 (kn2 : Int), .int .i64 tx2, .string ke2, .string en2, .string va2, .int .i64 li2, .int .u8 (eg2 : Int)] 24) := Blk.new _ _ _
        replace HX := Lib.hid (HX.out.later hby)
        replace HA := Lib.hid (HA.out.later hby)
        replace HG := Lib.hid (HG.out.later hby)
        replace HR := Lib.hid (HR.out.later hby)
        replace HB := Lib.hid (stepB HB.out hby)
        clear hby
        go_upto_region 4 with (fail)
        generalize w8.alloc (.cells #[.int .u8 (kn2 : Int), .int .i64 tx2, .string ke2, .string en2, .string va2, .int .i64 li2, .int .u8 (eg2 : Int)] 24) = w9 at *
        obtain ⟨p5, hp5⟩ : ∃ x, w8.heap.size = x := ⟨_, rfl⟩
        rw [hp5] at HY ⊢
        clear hp5
        go_cut [60] (fun s60 wx => s60 = .bool false ∧ Below w9.heap.size w9 wx)
        case first =>
          refine wp_region_noPanic ?_
          obtain ⟨W0, rfl⟩ : ∃ W0 : World, W0 = w9 := ⟨_, rfl⟩
          refine wp_region_held_drew (S := fun W => Below W0.heap.size W0 W) (by kernel_rfl) (Below.drew (Below.refl _ _)) (fun hHeld => ?_)
          have HH := Lib.hid hHeld
          by_cases hm : mayC (kn, tx, ke, en, va, li, eg) = true
          · have hye := HYE.out
            rw [if_pos hm] at hye
            obtain ⟨hy1, hy2⟩ := hye
            have HMAY : Hid (∀ V, Below W0.heap.size W0 V → Calls Tryd.prog 13 #[.agg #[.int .u8 (kn : Int), .int .i64 tx, .string ke, .string en, .string va, .int .i64 li, .int .u8 (eg : Int)]] V fun e w' => e = .returned (.int .i64 0) ∧ Below V.heap.size V w') := Lib.hid (fun V hV => by
              have h := may_any (kn, tx, ke, en, va, li, eg) V HCX.out.1 HCX.out.2.1 (HG.out.later hV)
              rw [if_pos hm] at h
              exact h)
            have HCLN : Hid (∀ V, Below W0.heap.size W0 V → Calls Tryd.prog 14 #[.agg #[.int .u8 (kn : Int), .int .i64 tx, .string ke, .string en, .string va, .int .i64 li, .int .u8 (eg : Int)]] V fun e w' => e = .returned (.agg #[.int .u8 (kn2 : Int), .int .i64 tx2, .string ke2, .string en2, .string va2, .int .i64 li2, .int .u8 (eg2 : Int)]) ∧ Below V.heap.size V w') := Lib.hid (fun V hV => by
              have h := clean_any kn tx ke en va li eg V HCX.out.1 (HG.out.later hV)
              rw [← hy1] at h
              exact h)
            have HSAM : Hid (∀ V, Below W0.heap.size W0 V → Calls Tryd.prog 16 #[.agg #[.int .u8 (kn : Int), .int .i64 tx, .string ke, .string en, .string va, .int .i64 li, .int .u8 (eg : Int)], .agg #[.int .u8 (kn2 : Int), .int .i64 tx2, .string ke2, .string en2, .string va2, .int .i64 li2, .int .u8 (eg2 : Int)]] V fun e w' => e = .returned (.bool true) ∧ Below V.heap.size V w') := Lib.hid (fun V hV => by
              have hk : kn2 ≤ 255 := by
                have h1 := congrArg (fun z : Cl => z.1) hy1
                have h2 : kn2 = kn := h1
                have h3 := HCX.out.1
                omega
              have h := same_any kn tx ke en va li eg kn2 tx2 ke2 en2 va2 li2 eg2 V HCX.out.1 hk (HG.out.later hV)
              have hs : sameC (kn, tx, ke, en, va, li, eg) (kn2, tx2, ke2, en2, va2, li2, eg2) = true := by
                unfold sameC
                rw [hy1, cln_cln]
                exact decide_eq_true rfl
              rw [hs] at h
              exact h)
            have HNE : Hid (∀ V : World, (binOp .neq 24 (.agg #[.int .u8 (kn2 : Int), .int .i64 tx2, .string ke2, .string en2, .string va2, .int .i64 li2, .int .u8 (eg2 : Int)]) (.agg #[.int .u8 (kn2 : Int), .int .i64 tx2, .string ke2, .string en2, .string va2, .int .i64 li2, .int .u8 (eg2 : Int)])).run Tryd.prog V = .ok (.bool false) V) := Lib.hid (fun V => by
              have h := neq24 (kn2, tx2, ke2, en2, va2, li2, eg2) (kn2, tx2, ke2, en2, va2, li2, eg2) V
              rw [decide_eq_true rfl] at h
              exact h)
            have qe : (e_ == 0) = true := by rw [hy2]; rfl
            clear hy1 hy2 hm HYE
            refine wpAnyH_take (i := 0) (oi := { dst := some 39, op := Op.move (Operand.tmp 8), type := 26, pos := "outright.go:87", after := #[], guard := none }) (v := ?_) rfl (by kernel_rfl) (by kernel_rfl) (by kernel_rfl) (fun _ _ _ h => h) (Or.inl ⟨by rfl, ?_⟩) (by assumption) ?_
            rotate_left
            · intro W hSw
              clear hSw
              go_simp
              try with_reducible rfl
            simp only [Act.put, List.setIfInBounds_toArray, List.set_cons_zero, List.set_cons_succ]
            refine wpAnyH_take (i := 1) (oi := { dst := some 40, op := Op.binOp BinOp.eql 26 (Operand.tmp 39) (Operand.const (Value.int IntKind.i64 0)) 26, type := 4, pos := "outright.go:87", after := #[{ on := 0, ground := Ground.data }], guard := none }) (v := ?_) rfl (by kernel_rfl) (by kernel_rfl) (by kernel_rfl) (fun _ _ _ h => h) (Or.inl ⟨by rfl, ?_⟩) (by assumption) ?_
            rotate_left
            · intro W hSw
              clear hSw
              go_simp
              try with_reducible rfl
            simp only [Act.put, List.setIfInBounds_toArray, List.set_cons_zero, List.set_cons_succ]
            refine wpAnyH_take (i := 2) (oi := { dst := some 41, op := Op.load 24 (Operand.tmp 3), type := 24, pos := "outright.go:87", after := #[], guard := none }) (v := ?_) rfl (by kernel_rfl) (by kernel_rfl) (by kernel_rfl) (fun _ _ _ h => h) (Or.inl ⟨by rfl, ?_⟩) (by assumption) ?_
            rotate_left
            · intro W hSw
              have k0 := (HX.out.later hSw).cell 0
              have k1 := (HX.out.later hSw).cell 1
              have k2 := (HX.out.later hSw).cell 2
              have k3 := (HX.out.later hSw).cell 3
              have k4 := (HX.out.later hSw).cell 4
              have k5 := (HX.out.later hSw).cell 5
              have k6 := (HX.out.later hSw).cell 6
              simp only [List.getElem?_toArray, List.getElem?_cons_zero, List.getElem?_cons_succ] at k0 k1 k2 k3 k4 k5 k6
              go_simp
              try with_reducible rfl
            simp only [Act.put, List.setIfInBounds_toArray, List.set_cons_zero, List.set_cons_succ]
            refine wpAnyH_ready (rs := [3]) (by kernel_rfl) (by simp) (AllReadyH.cons (o := { dst := some 42, op := Op.call { callee := Callee.value (Operand.func 13), args := #[Operand.tmp 41], argTypes := #[24] }, type := 26, pos := "outright.go:87", after := #[{ on := 2, ground := Ground.data }], guard := none }) rfl (fun K hK => ?_) AllReadyH.nil)
            have HCL := Lib.hid (HMAY.out _ HH.out)
            go_simp
            refine HCL.out.mono ?_
            rintro e Wa ⟨rfl, hb⟩
            replace HH := Lib.hid (stepB HH.out hb)
            clear hb HCL hHeld
            refine hK.out _ _ HH.out (fun hHeld => ?_)
            clear hK K
            refine wpAnyH_take (i := 4) (oi := { dst := some 43, op := Op.binOp BinOp.eql 26 (Operand.tmp 42) (Operand.const (Value.int IntKind.i64 0)) 26, type := 4, pos := "outright.go:87", after := #[{ on := 3, ground := Ground.data }], guard := none }) (v := ?_) rfl (by kernel_rfl) (by kernel_rfl) (by kernel_rfl) (fun _ _ _ h => h) (Or.inl ⟨by rfl, ?_⟩) (by assumption) ?_
            rotate_left
            · intro W hSw
              clear hSw
              go_simp
              try with_reducible rfl
            simp only [Act.put, List.setIfInBounds_toArray, List.set_cons_zero, List.set_cons_succ]
            refine wpAnyH_take (i := 5) (oi := { dst := some 44, op := Op.binOp BinOp.neq 4 (Operand.tmp 40) (Operand.tmp 43) 4, type := 4, pos := "outright.go:87", after := #[{ on := 1, ground := Ground.data }, { on := 4, ground := Ground.data }], guard := none }) (v := ?_) rfl (by kernel_rfl) (by kernel_rfl) (by kernel_rfl) (fun _ _ _ h => h) (Or.inl ⟨by rfl, ?_⟩) (by assumption) ?_
            rotate_left
            · intro W hSw
              clear hSw
              go_simp
              try with_reducible rfl
            simp only [Act.put, List.setIfInBounds_toArray, List.set_cons_zero, List.set_cons_succ]
            refine wpAnyH_take (i := 6) (oi := { dst := some 45, op := Op.move (Operand.tmp 44), type := 4, pos := "outright.go:87", after := #[{ on := 5, ground := Ground.data }, { on := 3, ground := Ground.chain }], guard := none }) (v := ?_) rfl (by kernel_rfl) (by kernel_rfl) (by kernel_rfl) (fun _ _ _ h => h) (Or.inl ⟨by rfl, ?_⟩) (by assumption) ?_
            rotate_left
            · intro W hSw
              clear hSw
              go_simp
              try with_reducible rfl
            simp only [Act.put, List.setIfInBounds_toArray, List.set_cons_zero, List.set_cons_succ]
            refine wpAnyH_take (i := 7) (oi := { dst := some 46, op := Op.move (Operand.tmp 8), type := 26, pos := "outright.go:87", after := #[{ on := 6, ground := Ground.guard }], guard := some (6, false) }) (v := ?_) rfl (by kernel_rfl) (by kernel_rfl) (by kernel_rfl) (fun _ _ _ h => h) (Or.inl ⟨by rfl, ?_⟩) (by assumption) ?_
            rotate_left
            · intro W hSw
              clear hSw
              go_simp
              try with_reducible rfl
            simp only [Act.put, List.setIfInBounds_toArray, List.set_cons_zero, List.set_cons_succ]
            refine wpAnyH_take (i := 8) (oi := { dst := some 47, op := Op.binOp BinOp.eql 26 (Operand.tmp 46) (Operand.const (Value.int IntKind.i64 0)) 26, type := 4, pos := "outright.go:87", after := #[{ on := 7, ground := Ground.data }, { on := 6, ground := Ground.guard }], guard := some (6, false) }) (v := ?_) rfl (by kernel_rfl) (by kernel_rfl) (by kernel_rfl) (fun _ _ _ h => h) (Or.inl ⟨by rfl, ?_⟩) (by assumption) ?_
            rotate_left
            · intro W hSw
              clear hSw
              go_simp
              try with_reducible rfl
            simp only [Act.put, List.setIfInBounds_toArray, List.set_cons_zero, List.set_cons_succ]
            refine wpAnyH_take (i := 9) (oi := { dst := some 48, op := Op.move (Operand.tmp 47), type := 4, pos := "outright.go:87", after := #[{ on := 8, ground := Ground.data }, { on := 6, ground := Ground.chain }, { on := 6, ground := Ground.guard }], guard := some (6, false) }) (v := ?_) rfl (by kernel_rfl) (by kernel_rfl) (by kernel_rfl) (fun _ _ _ h => h) (Or.inl ⟨by rfl, ?_⟩) (by assumption) ?_
            rotate_left
            · intro W hSw
              clear hSw
              go_simp
              try with_reducible rfl
            simp only [Act.put, List.setIfInBounds_toArray, List.set_cons_zero, List.set_cons_succ]
            refine wpAnyH_take (i := 10) (oi := { dst := some 49, op := Op.load 24 (Operand.tmp 7), type := 24, pos := "outright.go:87", after := #[{ on := 9, ground := Ground.guard }], guard := some (9, true) }) (v := ?_) rfl (by kernel_rfl) (by kernel_rfl) (by kernel_rfl) (fun _ _ _ h => h) (Or.inl ⟨by rfl, ?_⟩) (by assumption) ?_
            rotate_left
            · intro W hSw
              have k0 := (HY.out.later hSw).cell 0
              have k1 := (HY.out.later hSw).cell 1
              have k2 := (HY.out.later hSw).cell 2
              have k3 := (HY.out.later hSw).cell 3
              have k4 := (HY.out.later hSw).cell 4
              have k5 := (HY.out.later hSw).cell 5
              have k6 := (HY.out.later hSw).cell 6
              simp only [List.getElem?_toArray, List.getElem?_cons_zero, List.getElem?_cons_succ] at k0 k1 k2 k3 k4 k5 k6
              go_simp
              try with_reducible rfl
            simp only [Act.put, List.setIfInBounds_toArray, List.set_cons_zero, List.set_cons_succ]
            refine wpAnyH_take (i := 11) (oi := { dst := some 50, op := Op.load 24 (Operand.tmp 3), type := 24, pos := "outright.go:87", after := #[{ on := 9, ground := Ground.guard }], guard := some (9, true) }) (v := ?_) rfl (by kernel_rfl) (by kernel_rfl) (by kernel_rfl) (fun _ _ _ h => h) (Or.inl ⟨by rfl, ?_⟩) (by assumption) ?_
            rotate_left
            · intro W hSw
              have k0 := (HX.out.later hSw).cell 0
              have k1 := (HX.out.later hSw).cell 1
              have k2 := (HX.out.later hSw).cell 2
              have k3 := (HX.out.later hSw).cell 3
              have k4 := (HX.out.later hSw).cell 4
              have k5 := (HX.out.later hSw).cell 5
              have k6 := (HX.out.later hSw).cell 6
              simp only [List.getElem?_toArray, List.getElem?_cons_zero, List.getElem?_cons_succ] at k0 k1 k2 k3 k4 k5 k6
              go_simp
              try with_reducible rfl
            simp only [Act.put, List.setIfInBounds_toArray, List.set_cons_zero, List.set_cons_succ]
            refine wpAnyH_ready (rs := [12]) (by kernel_rfl) (by simp) (AllReadyH.cons (o := { dst := some 51, op := Op.call { callee := Callee.value (Operand.func 14), args := #[Operand.tmp 50], argTypes := #[24] }, type := 24, pos := "outright.go:87", after := #[{ on := 11, ground := Ground.data }, { on := 9, ground := Ground.chain }, { on := 9, ground := Ground.guard }], guard := some (9, true) }) rfl (fun K hK => ?_) AllReadyH.nil)
            have HCL := Lib.hid (HCLN.out _ HH.out)
            go_simp
            refine HCL.out.mono ?_
            rintro e Wb ⟨rfl, hb⟩
            replace HH := Lib.hid (stepB HH.out hb)
            clear hb HCL hHeld
            refine hK.out _ _ HH.out (fun hHeld => ?_)
            clear hK K
            refine wpAnyH_take (i := 13) (oi := { dst := some 52, op := Op.binOp BinOp.neq 24 (Operand.tmp 49) (Operand.tmp 51) 24, type := 4, pos := "outright.go:87", after := #[{ on := 10, ground := Ground.data }, { on := 12, ground := Ground.data }, { on := 9, ground := Ground.guard }], guard := some (9, true) }) (v := ?_) rfl (by kernel_rfl) (by kernel_rfl) (by kernel_rfl) (fun _ _ _ h => h) (Or.inl ⟨by rfl, ?_⟩) (by assumption) ?_
            rotate_left
            · intro W hSw
              clear hSw
              have hne := HNE.out
              go_simp
              try with_reducible rfl
            simp only [Act.put, List.setIfInBounds_toArray, List.set_cons_zero, List.set_cons_succ]
            refine wpAnyH_take (i := 14) (oi := { dst := some 53, op := Op.move (Operand.tmp 52), type := 4, pos := "outright.go:87", after := #[{ on := 13, ground := Ground.data }, { on := 12, ground := Ground.chain }, { on := 9, ground := Ground.guard }], guard := some (9, true) }) (v := ?_) rfl (by kernel_rfl) (by kernel_rfl) (by kernel_rfl) (fun _ _ _ h => h) (Or.inl ⟨by rfl, ?_⟩) (by assumption) ?_
            rotate_left
            · intro W hSw
              clear hSw
              go_simp
              try with_reducible rfl
            simp only [Act.put, List.setIfInBounds_toArray, List.set_cons_zero, List.set_cons_succ]
            refine wpAnyH_take (i := 15) (oi := { dst := some 54, op := Op.load 24 (Operand.tmp 3), type := 24, pos := "outright.go:87", after := #[{ on := 14, ground := Ground.guard }], guard := some (14, false) }) (v := ?_) rfl (by kernel_rfl) (by kernel_rfl) (by kernel_rfl) (fun _ _ _ h => h) (Or.inl ⟨by rfl, ?_⟩) (by assumption) ?_
            rotate_left
            · intro W hSw
              have k0 := (HX.out.later hSw).cell 0
              have k1 := (HX.out.later hSw).cell 1
              have k2 := (HX.out.later hSw).cell 2
              have k3 := (HX.out.later hSw).cell 3
              have k4 := (HX.out.later hSw).cell 4
              have k5 := (HX.out.later hSw).cell 5
              have k6 := (HX.out.later hSw).cell 6
              simp only [List.getElem?_toArray, List.getElem?_cons_zero, List.getElem?_cons_succ] at k0 k1 k2 k3 k4 k5 k6
              go_simp
              try with_reducible rfl
            simp only [Act.put, List.setIfInBounds_toArray, List.set_cons_zero, List.set_cons_succ]
            refine wpAnyH_take (i := 16) (oi := { dst := some 55, op := Op.load 24 (Operand.tmp 7), type := 24, pos := "outright.go:87", after := #[{ on := 14, ground := Ground.guard }], guard := some (14, false) }) (v := ?_) rfl (by kernel_rfl) (by kernel_rfl) (by kernel_rfl) (fun _ _ _ h => h) (Or.inl ⟨by rfl, ?_⟩) (by assumption) ?_
            rotate_left
            · intro W hSw
              have k0 := (HY.out.later hSw).cell 0
              have k1 := (HY.out.later hSw).cell 1
              have k2 := (HY.out.later hSw).cell 2
              have k3 := (HY.out.later hSw).cell 3
              have k4 := (HY.out.later hSw).cell 4
              have k5 := (HY.out.later hSw).cell 5
              have k6 := (HY.out.later hSw).cell 6
              simp only [List.getElem?_toArray, List.getElem?_cons_zero, List.getElem?_cons_succ] at k0 k1 k2 k3 k4 k5 k6
              go_simp
              try with_reducible rfl
            simp only [Act.put, List.setIfInBounds_toArray, List.set_cons_zero, List.set_cons_succ]
            refine wpAnyH_ready (rs := [17]) (by kernel_rfl) (by simp) (AllReadyH.cons (o := { dst := some 56, op := Op.call { callee := Callee.value (Operand.func 16), args := #[Operand.tmp 54, Operand.tmp 55], argTypes := #[24, 24] }, type := 4, pos := "outright.go:87", after := #[{ on := 15, ground := Ground.data }, { on := 16, ground := Ground.data }, { on := 14, ground := Ground.chain }, { on := 14, ground := Ground.guard }], guard := some (14, false) }) rfl (fun K hK => ?_) AllReadyH.nil)
            have HCL := Lib.hid (HSAM.out _ HH.out)
            go_simp
            refine HCL.out.mono ?_
            rintro e Wc ⟨rfl, hb⟩
            replace HH := Lib.hid (stepB HH.out hb)
            clear hb HCL hHeld
            refine hK.out _ _ HH.out (fun hHeld => ?_)
            clear hK K
            refine wpAnyH_take (i := 18) (oi := { dst := some 57, op := Op.unOp UnOp.not 4 (Operand.tmp 56), type := 4, pos := "outright.go:87", after := #[{ on := 17, ground := Ground.data }, { on := 14, ground := Ground.guard }], guard := some (14, false) }) (v := ?_) rfl (by kernel_rfl) (by kernel_rfl) (by kernel_rfl) (fun _ _ _ h => h) (Or.inl ⟨by rfl, ?_⟩) (by assumption) ?_
            rotate_left
            · intro W hSw
              clear hSw
              go_simp
              try with_reducible rfl
            simp only [Act.put, List.setIfInBounds_toArray, List.set_cons_zero, List.set_cons_succ]
            refine wpAnyH_take (i := 19) (oi := { dst := some 58, op := Op.pick (Operand.tmp 53) (Operand.const (Value.bool true)) (Operand.tmp 57), type := 4, pos := "outright.go:87", after := #[{ on := 14, ground := Ground.data }, { on := 18, ground := Ground.data }, { on := 9, ground := Ground.guard }], guard := some (9, true) }) (v := ?_) rfl (by kernel_rfl) (by kernel_rfl) (by kernel_rfl) (fun _ _ _ h => h) (Or.inl ⟨by rfl, ?_⟩) (by assumption) ?_
            rotate_left
            · intro W hSw
              clear hSw
              go_simp
              try with_reducible rfl
            simp only [Act.put, List.setIfInBounds_toArray, List.set_cons_zero, List.set_cons_succ]
            refine wpAnyH_take (i := 20) (oi := { dst := some 59, op := Op.pick (Operand.tmp 48) (Operand.tmp 58) (Operand.const (Value.bool false)), type := 4, pos := "outright.go:87", after := #[{ on := 9, ground := Ground.data }, { on := 19, ground := Ground.data }, { on := 6, ground := Ground.guard }], guard := some (6, false) }) (v := ?_) rfl (by kernel_rfl) (by kernel_rfl) (by kernel_rfl) (fun _ _ _ h => h) (Or.inl ⟨by rfl, ?_⟩) (by assumption) ?_
            rotate_left
            · intro W hSw
              clear hSw
              go_simp
              try with_reducible rfl
            simp only [Act.put, List.setIfInBounds_toArray, List.set_cons_zero, List.set_cons_succ]
            refine wpAnyH_take (i := 21) (oi := { dst := some 60, op := Op.pick (Operand.tmp 45) (Operand.const (Value.bool true)) (Operand.tmp 59), type := 4, pos := "outright.go:87", after := #[{ on := 6, ground := Ground.data }, { on := 20, ground := Ground.data }], guard := none }) (v := ?_) rfl (by kernel_rfl) (by kernel_rfl) (by kernel_rfl) (fun _ _ _ h => h) (Or.inl ⟨by rfl, ?_⟩) (by assumption) ?_
            rotate_left
            · intro W hSw
              clear hSw
              go_simp
              try with_reducible rfl
            simp only [Act.put, List.setIfInBounds_toArray, List.set_cons_zero, List.set_cons_succ]
            refine wpAnyH_done (by kernel_rfl) (NoPanic.normal ?_) _
            have HF := HH
            clear hHeld HH HMAY HCLN HSAM HNE qe
            go_wp2
            go_meet
            exact ⟨rfl, HF.out⟩
          · have hye := HYE.out
            rw [if_neg hm] at hye
            obtain ⟨_, hy2⟩ := hye
            have HMAY : Hid (∀ V, Below W0.heap.size W0 V → Calls Tryd.prog 13 #[.agg #[.int .u8 (kn : Int), .int .i64 tx, .string ke, .string en, .string va, .int .i64 li, .int .u8 (eg : Int)]] V fun e w' => e = .returned (.int .i64 1) ∧ Below V.heap.size V w') := Lib.hid (fun V hV => by
              have h := may_any (kn, tx, ke, en, va, li, eg) V HCX.out.1 HCX.out.2.1 (HG.out.later hV)
              rw [if_neg hm] at h
              exact h)
            have qe : (e_ == 0) = false := by rw [hy2]; rfl
            clear hy2 hm HYE
            refine wpAnyH_take (i := 0) (oi := { dst := some 39, op := Op.move (Operand.tmp 8), type := 26, pos := "outright.go:87", after := #[], guard := none }) (v := ?_) rfl (by kernel_rfl) (by kernel_rfl) (by kernel_rfl) (fun _ _ _ h => h) (Or.inl ⟨by rfl, ?_⟩) (by assumption) ?_
            rotate_left
            · intro W hSw
              clear hSw
              go_simp
              try with_reducible rfl
            simp only [Act.put, List.setIfInBounds_toArray, List.set_cons_zero, List.set_cons_succ]
            refine wpAnyH_take (i := 1) (oi := { dst := some 40, op := Op.binOp BinOp.eql 26 (Operand.tmp 39) (Operand.const (Value.int IntKind.i64 0)) 26, type := 4, pos := "outright.go:87", after := #[{ on := 0, ground := Ground.data }], guard := none }) (v := ?_) rfl (by kernel_rfl) (by kernel_rfl) (by kernel_rfl) (fun _ _ _ h => h) (Or.inl ⟨by rfl, ?_⟩) (by assumption) ?_
            rotate_left
            · intro W hSw
              clear hSw
              go_simp
              try with_reducible rfl
            simp only [Act.put, List.setIfInBounds_toArray, List.set_cons_zero, List.set_cons_succ]
            refine wpAnyH_take (i := 2) (oi := { dst := some 41, op := Op.load 24 (Operand.tmp 3), type := 24, pos := "outright.go:87", after := #[], guard := none }) (v := ?_) rfl (by kernel_rfl) (by kernel_rfl) (by kernel_rfl) (fun _ _ _ h => h) (Or.inl ⟨by rfl, ?_⟩) (by assumption) ?_
            rotate_left
            · intro W hSw
              have k0 := (HX.out.later hSw).cell 0
              have k1 := (HX.out.later hSw).cell 1
              have k2 := (HX.out.later hSw).cell 2
              have k3 := (HX.out.later hSw).cell 3
              have k4 := (HX.out.later hSw).cell 4
              have k5 := (HX.out.later hSw).cell 5
              have k6 := (HX.out.later hSw).cell 6
              simp only [List.getElem?_toArray, List.getElem?_cons_zero, List.getElem?_cons_succ] at k0 k1 k2 k3 k4 k5 k6
              go_simp
              try with_reducible rfl
            simp only [Act.put, List.setIfInBounds_toArray, List.set_cons_zero, List.set_cons_succ]
            refine wpAnyH_ready (rs := [3]) (by kernel_rfl) (by simp) (AllReadyH.cons (o := { dst := some 42, op := Op.call { callee := Callee.value (Operand.func 13), args := #[Operand.tmp 41], argTypes := #[24] }, type := 26, pos := "outright.go:87", after := #[{ on := 2, ground := Ground.data }], guard := none }) rfl (fun K hK => ?_) AllReadyH.nil)
            have HCL := Lib.hid (HMAY.out _ HH.out)
            go_simp
            refine HCL.out.mono ?_
            rintro e Wa ⟨rfl, hb⟩
            replace HH := Lib.hid (stepB HH.out hb)
            clear hb HCL hHeld
            refine hK.out _ _ HH.out (fun hHeld => ?_)
            clear hK K
            refine wpAnyH_take (i := 4) (oi := { dst := some 43, op := Op.binOp BinOp.eql 26 (Operand.tmp 42) (Operand.const (Value.int IntKind.i64 0)) 26, type := 4, pos := "outright.go:87", after := #[{ on := 3, ground := Ground.data }], guard := none }) (v := ?_) rfl (by kernel_rfl) (by kernel_rfl) (by kernel_rfl) (fun _ _ _ h => h) (Or.inl ⟨by rfl, ?_⟩) (by assumption) ?_
            rotate_left
            · intro W hSw
              clear hSw
              go_simp
              try with_reducible rfl
            simp only [Act.put, List.setIfInBounds_toArray, List.set_cons_zero, List.set_cons_succ]
            refine wpAnyH_take (i := 5) (oi := { dst := some 44, op := Op.binOp BinOp.neq 4 (Operand.tmp 40) (Operand.tmp 43) 4, type := 4, pos := "outright.go:87", after := #[{ on := 1, ground := Ground.data }, { on := 4, ground := Ground.data }], guard := none }) (v := ?_) rfl (by kernel_rfl) (by kernel_rfl) (by kernel_rfl) (fun _ _ _ h => h) (Or.inl ⟨by rfl, ?_⟩) (by assumption) ?_
            rotate_left
            · intro W hSw
              clear hSw
              go_simp
              try with_reducible rfl
            simp only [Act.put, List.setIfInBounds_toArray, List.set_cons_zero, List.set_cons_succ]
            refine wpAnyH_take (i := 6) (oi := { dst := some 45, op := Op.move (Operand.tmp 44), type := 4, pos := "outright.go:87", after := #[{ on := 5, ground := Ground.data }, { on := 3, ground := Ground.chain }], guard := none }) (v := ?_) rfl (by kernel_rfl) (by kernel_rfl) (by kernel_rfl) (fun _ _ _ h => h) (Or.inl ⟨by rfl, ?_⟩) (by assumption) ?_
            rotate_left
            · intro W hSw
              clear hSw
              go_simp
              try with_reducible rfl
            simp only [Act.put, List.setIfInBounds_toArray, List.set_cons_zero, List.set_cons_succ]
            refine wpAnyH_take (i := 7) (oi := { dst := some 46, op := Op.move (Operand.tmp 8), type := 26, pos := "outright.go:87", after := #[{ on := 6, ground := Ground.guard }], guard := some (6, false) }) (v := ?_) rfl (by kernel_rfl) (by kernel_rfl) (by kernel_rfl) (fun _ _ _ h => h) (Or.inl ⟨by rfl, ?_⟩) (by assumption) ?_
            rotate_left
            · intro W hSw
              clear hSw
              go_simp
              try with_reducible rfl
            simp only [Act.put, List.setIfInBounds_toArray, List.set_cons_zero, List.set_cons_succ]
            refine wpAnyH_take (i := 8) (oi := { dst := some 47, op := Op.binOp BinOp.eql 26 (Operand.tmp 46) (Operand.const (Value.int IntKind.i64 0)) 26, type := 4, pos := "outright.go:87", after := #[{ on := 7, ground := Ground.data }, { on := 6, ground := Ground.guard }], guard := some (6, false) }) (v := ?_) rfl (by kernel_rfl) (by kernel_rfl) (by kernel_rfl) (fun _ _ _ h => h) (Or.inl ⟨by rfl, ?_⟩) (by assumption) ?_
            rotate_left
            · intro W hSw
              clear hSw
              go_simp
              try with_reducible rfl
            simp only [Act.put, List.setIfInBounds_toArray, List.set_cons_zero, List.set_cons_succ]
            refine wpAnyH_take (i := 9) (oi := { dst := some 48, op := Op.move (Operand.tmp 47), type := 4, pos := "outright.go:87", after := #[{ on := 8, ground := Ground.data }, { on := 6, ground := Ground.chain }, { on := 6, ground := Ground.guard }], guard := some (6, false) }) (v := ?_) rfl (by kernel_rfl) (by kernel_rfl) (by kernel_rfl) (fun _ _ _ h => h) (Or.inl ⟨by rfl, ?_⟩) (by assumption) ?_
            rotate_left
            · intro W hSw
              clear hSw
              go_simp
              try with_reducible rfl
            simp only [Act.put, List.setIfInBounds_toArray, List.set_cons_zero, List.set_cons_succ]
            refine wpAnyH_take (i := 10) (oi := { dst := some 49, op := Op.load 24 (Operand.tmp 7), type := 24, pos := "outright.go:87", after := #[{ on := 9, ground := Ground.guard }], guard := some (9, true) }) (v := undef) rfl (by kernel_rfl) (by kernel_rfl) (by kernel_rfl) (fun _ _ _ h => h) (Or.inr ⟨by rfl, rfl⟩) (by assumption) ?_
            simp only [Act.put, List.setIfInBounds_toArray, List.set_cons_zero, List.set_cons_succ]
            refine wpAnyH_take (i := 11) (oi := { dst := some 50, op := Op.load 24 (Operand.tmp 3), type := 24, pos := "outright.go:87", after := #[{ on := 9, ground := Ground.guard }], guard := some (9, true) }) (v := undef) rfl (by kernel_rfl) (by kernel_rfl) (by kernel_rfl) (fun _ _ _ h => h) (Or.inr ⟨by rfl, rfl⟩) (by assumption) ?_
            simp only [Act.put, List.setIfInBounds_toArray, List.set_cons_zero, List.set_cons_succ]
            refine wpAnyH_take (i := 12) (oi := { dst := some 51, op := Op.call { callee := Callee.value (Operand.func 14), args := #[Operand.tmp 50], argTypes := #[24] }, type := 24, pos := "outright.go:87", after := #[{ on := 11, ground := Ground.data }, { on := 9, ground := Ground.chain }, { on := 9, ground := Ground.guard }], guard := some (9, true) }) (v := undef) rfl (by kernel_rfl) (by kernel_rfl) (by kernel_rfl) (fun _ _ _ h => h) (Or.inr ⟨by rfl, rfl⟩) (by assumption) ?_
            simp only [Act.put, List.setIfInBounds_toArray, List.set_cons_zero, List.set_cons_succ]
            refine wpAnyH_take (i := 13) (oi := { dst := some 52, op := Op.binOp BinOp.neq 24 (Operand.tmp 49) (Operand.tmp 51) 24, type := 4, pos := "outright.go:87", after := #[{ on := 10, ground := Ground.data }, { on := 12, ground := Ground.data }, { on := 9, ground := Ground.guard }], guard := some (9, true) }) (v := undef) rfl (by kernel_rfl) (by kernel_rfl) (by kernel_rfl) (fun _ _ _ h => h) (Or.inr ⟨by rfl, rfl⟩) (by assumption) ?_
            simp only [Act.put, List.setIfInBounds_toArray, List.set_cons_zero, List.set_cons_succ]
            refine wpAnyH_take (i := 14) (oi := { dst := some 53, op := Op.move (Operand.tmp 52), type := 4, pos := "outright.go:87", after := #[{ on := 13, ground := Ground.data }, { on := 12, ground := Ground.chain }, { on := 9, ground := Ground.guard }], guard := some (9, true) }) (v := undef) rfl (by kernel_rfl) (by kernel_rfl) (by kernel_rfl) (fun _ _ _ h => h) (Or.inr ⟨by rfl, rfl⟩) (by assumption) ?_
            simp only [Act.put, List.setIfInBounds_toArray, List.set_cons_zero, List.set_cons_succ]
            refine wpAnyH_take (i := 15) (oi := { dst := some 54, op := Op.load 24 (Operand.tmp 3), type := 24, pos := "outright.go:87", after := #[{ on := 14, ground := Ground.guard }], guard := some (14, false) }) (v := undef) rfl (by kernel_rfl) (by kernel_rfl) (by kernel_rfl) (fun _ _ _ h => h) (Or.inr ⟨by rfl, rfl⟩) (by assumption) ?_
            simp only [Act.put, List.setIfInBounds_toArray, List.set_cons_zero, List.set_cons_succ]
            refine wpAnyH_take (i := 16) (oi := { dst := some 55, op := Op.load 24 (Operand.tmp 7), type := 24, pos := "outright.go:87", after := #[{ on := 14, ground := Ground.guard }], guard := some (14, false) }) (v := undef) rfl (by kernel_rfl) (by kernel_rfl) (by kernel_rfl) (fun _ _ _ h => h) (Or.inr ⟨by rfl, rfl⟩) (by assumption) ?_
            simp only [Act.put, List.setIfInBounds_toArray, List.set_cons_zero, List.set_cons_succ]
            refine wpAnyH_take (i := 17) (oi := { dst := some 56, op := Op.call { callee := Callee.value (Operand.func 16), args := #[Operand.tmp 54, Operand.tmp 55], argTypes := #[24, 24] }, type := 4, pos := "outright.go:87", after := #[{ on := 15, ground := Ground.data }, { on := 16, ground := Ground.data }, { on := 14, ground := Ground.chain }, { on := 14, ground := Ground.guard }], guard := some (14, false) }) (v := undef) rfl (by kernel_rfl) (by kernel_rfl) (by kernel_rfl) (fun _ _ _ h => h) (Or.inr ⟨by rfl, rfl⟩) (by assumption) ?_
            simp only [Act.put, List.setIfInBounds_toArray, List.set_cons_zero, List.set_cons_succ]
            refine wpAnyH_take (i := 18) (oi := { dst := some 57, op := Op.unOp UnOp.not 4 (Operand.tmp 56), type := 4, pos := "outright.go:87", after := #[{ on := 17, ground := Ground.data }, { on := 14, ground := Ground.guard }], guard := some (14, false) }) (v := undef) rfl (by kernel_rfl) (by kernel_rfl) (by kernel_rfl) (fun _ _ _ h => h) (Or.inr ⟨by rfl, rfl⟩) (by assumption) ?_
            simp only [Act.put, List.setIfInBounds_toArray, List.set_cons_zero, List.set_cons_succ]
            refine wpAnyH_take (i := 19) (oi := { dst := some 58, op := Op.pick (Operand.tmp 53) (Operand.const (Value.bool true)) (Operand.tmp 57), type := 4, pos := "outright.go:87", after := #[{ on := 14, ground := Ground.data }, { on := 18, ground := Ground.data }, { on := 9, ground := Ground.guard }], guard := some (9, true) }) (v := undef) rfl (by kernel_rfl) (by kernel_rfl) (by kernel_rfl) (fun _ _ _ h => h) (Or.inr ⟨by rfl, rfl⟩) (by assumption) ?_
            simp only [Act.put, List.setIfInBounds_toArray, List.set_cons_zero, List.set_cons_succ]
            refine wpAnyH_take (i := 20) (oi := { dst := some 59, op := Op.pick (Operand.tmp 48) (Operand.tmp 58) (Operand.const (Value.bool false)), type := 4, pos := "outright.go:87", after := #[{ on := 9, ground := Ground.data }, { on := 19, ground := Ground.data }, { on := 6, ground := Ground.guard }], guard := some (6, false) }) (v := ?_) rfl (by kernel_rfl) (by kernel_rfl) (by kernel_rfl) (fun _ _ _ h => h) (Or.inl ⟨by rfl, ?_⟩) (by assumption) ?_
            rotate_left
            · intro W hSw
              clear hSw
              go_simp
              try with_reducible rfl
            simp only [Act.put, List.setIfInBounds_toArray, List.set_cons_zero, List.set_cons_succ]
            refine wpAnyH_take (i := 21) (oi := { dst := some 60, op := Op.pick (Operand.tmp 45) (Operand.const (Value.bool true)) (Operand.tmp 59), type := 4, pos := "outright.go:87", after := #[{ on := 6, ground := Ground.data }, { on := 20, ground := Ground.data }], guard := none }) (v := ?_) rfl (by kernel_rfl) (by kernel_rfl) (by kernel_rfl) (fun _ _ _ h => h) (Or.inl ⟨by rfl, ?_⟩) (by assumption) ?_
            rotate_left
            · intro W hSw
              clear hSw
              go_simp
              try with_reducible rfl
            simp only [Act.put, List.setIfInBounds_toArray, List.set_cons_zero, List.set_cons_succ]
            refine wpAnyH_done (by kernel_rfl) (NoPanic.normal ?_) _
            have HF := HH
            clear hHeld HH HMAY qe
            go_wp2
            go_meet
            exact ⟨rfl, HF.out⟩
        case rest =>
          obtain ⟨rfl, hb⟩ := hcut
          replace HX := Lib.hid (HX.out.later hb)
          replace HA := Lib.hid (HA.out.later hb)
          replace HG := Lib.hid (HG.out.later hb)
          replace HR := Lib.hid (HR.out.later hb)
          replace HB := Lib.hid (stepB HB.out hb)
          clear hb HYE HS1 HCO HY
          have y0 := HA.out.cell 0
          have y1 := HA.out.cell 1
          have y2 := HA.out.cell 2
          have y3 := HA.out.cell 3
          simp only [List.getElem?_toArray, List.getElem?_cons_zero, List.getElem?_cons_succ] at y0 y1 y2 y3
          have HTZ : Hid (n ≤ 100000) := Lib.hid (by have h1 := HAO.out.2.2.2.1; have h2 := HLN.out; simp only at h1; omega)
          have HTS : Hid ((joinW (tellL er fo av ps)).size ≤ 100000) := HAO.out.2.2.2.2
          have HCL_ := Lib.hid (tell_any er fo av A n c ps wc HER.out HAO.out.2.1 HAO.out.2.2.1 HR.out HTZ.out HG.out (by have := HTS.out; omega))
          go_wp2_with fail
          refine HCL_.out.mono ?_
          rintro e w10 ⟨rfl, hb⟩
          replace HX := Lib.hid (HX.out.later hb)
          replace HA := Lib.hid (HA.out.later hb)
          replace HG := Lib.hid (HG.out.later hb)
          replace HR := Lib.hid (HR.out.later hb)
          replace HB := Lib.hid (stepB HB.out hb)
          clear hb HCL_
          clear y0 y1 y2 y3
          have HRT : Hid (okA (joinW (tellL er fo av ps)) = true ∧ asP (joinW (tellL er fo av ps)) = (er, fo, av, ps)) := Lib.hid (read_tell (er, fo, av, ps) HER.out)
          obtain ⟨s2, hs2⟩ : ∃ z, joinW (tellL er fo av ps) = z := ⟨_, rfl⟩
          rw [hs2] at HRT HTS ⊢
          clear hs2
          have HRE := Lib.hid (read_any s2 w10 HTS.out HG.out)
          go_wp2_with fail
          refine HRE.out.mono ?_
          rintro e w11 ⟨v, rfl, hrow, hb⟩
          rw [HRT.out.2] at hrow ⊢
          rw [HRT.out.1]
          replace HX := Lib.hid (HX.out.later hb)
          replace HA := Lib.hid (HA.out.later hb)
          replace HG := Lib.hid (HG.out.later hb)
          replace HR := Lib.hid (HR.out.later hb)
          replace HB := Lib.hid (stepB HB.out hb)
          clear hb HRE HRT HTS
          simp only at hrow
          obtain ⟨Av, cv, hv, _, _⟩ := hrow.sl
          subst hv
          have HRB := Lib.hid (hrow.rsl pvc_len)
          clear hrow
          obtain ⟨n2, hn2⟩ : ∃ z, ps.length = z := ⟨_, rfl⟩
          rw [hn2] at HRB ⊢
          clear hn2
          unfold asV
          simp only [if_true]
          have hby : Below w11.heap.size w11 (w11.alloc (.cells #[.int .i64 er, .bool fo, .string av, .slice Av n2 cv] 37)) := (Below.refl _ _).alloc (Nat.le_refl _) _
          have HBB : Hid (Blk (w11.alloc (.cells #[.int .i64 er, .bool fo, .string av, .slice Av n2 cv] 37)) w11.heap.size #[.int .i64 er, .bool fo, .string av, .slice Av n2 cv] 37) := Blk.new _ _ _
          replace HX := Lib.hid (HX.out.later hby)
          replace HA := Lib.hid (HA.out.later hby)
          replace HG := Lib.hid (HG.out.later hby)
          replace HR := Lib.hid (HR.out.later hby)
          replace HB := Lib.hid (stepB HB.out hby)
          replace HRB := Lib.hid (HRB.out.later hby)
          clear hby
          go_upto_region 7 with (fail)
          generalize w11.alloc (.cells #[.int .i64 er, .bool fo, .string av, .slice Av n2 cv] 37) = w12 at *
          obtain ⟨p6, hp6⟩ : ∃ x, w11.heap.size = x := ⟨_, rfl⟩
          rw [hp6] at HBB ⊢
          clear hp6
          have HNP : Hid (n2 = ps.length) := Lib.hid HRB.out.1.symm
          have HCA : Hid (∀ V, Below w12.heap.size w12 V → Calls Tryd.prog 18 #[.agg #[.int .i64 er, .bool fo, .string av, .slice A n c], .agg #[.int .i64 er, .bool fo, .string av, .slice Av n2 cv]] V fun e w' => e = .returned (.bool true) ∧ Below V.heap.size V w') := Lib.hid (fun V hV => by
            have h := answers_any er er fo fo av av A Av n n2 c cv ps ps V (HR.out.later hV) (HRB.out.later hV) HTZ.out
            unfold Bl at h
            rw [decide_eq_true rfl] at h
            exact h)
          have y0 := HA.out.cell 0
          have y1 := HA.out.cell 1
          have y2 := HA.out.cell 2
          have y3 := HA.out.cell 3
          simp only [List.getElem?_toArray, List.getElem?_cons_zero, List.getElem?_cons_succ] at y0 y1 y2 y3
          have z0 := HBB.out.cell 0
          have z1 := HBB.out.cell 1
          have z2 := HBB.out.cell 2
          have z3 := HBB.out.cell 3
          simp only [List.getElem?_toArray, List.getElem?_cons_zero, List.getElem?_cons_succ] at z0 z1 z2 z3
          go_wp2_with fail
          refine (HCA.out w12 (Below.refl _ _)).mono ?_
          rintro e w13 ⟨rfl, hb⟩
          replace HX := Lib.hid (HX.out.later hb)
          replace HA := Lib.hid (HA.out.later hb)
          replace HG := Lib.hid (HG.out.later hb)
          replace HR := Lib.hid (HR.out.later hb)
          replace HB := Lib.hid (stepB HB.out hb)
          replace HRB := Lib.hid (HRB.out.later hb)
          clear hb HCA HBB HNP
          clear y0 y1 y2 y3
          clear z0 z1 z2 z3
          have HPA := parse_any s w13 (by have := HSZ.out; omega) HG.out
          rw [parV_eq] at HPA
          obtain ⟨z, hz⟩ : ∃ y, parC s = y := ⟨_, rfl⟩
          obtain ⟨ge, hge⟩ : ∃ y, parE s = y := ⟨_, rfl⟩
          rw [hz, hge] at HPA
          have HZ := Lib.hid hz
          have HGE := Lib.hid hge
          clear hz hge
          obtain ⟨kn3, tx3, ke3, en3, va3, li3, eg3⟩ := z
          unfold clV at HPA
          simp only at HPA
          have HPB := Lib.hid HPA
          clear HPA
          go_upto_region 9 with (fail)
          go_wp2_with fail
          refine HPB.out.mono ?_
          rintro e w14 ⟨rfl, hb⟩
          replace HX := Lib.hid (HX.out.later hb)
          replace HA := Lib.hid (HA.out.later hb)
          replace HG := Lib.hid (HG.out.later hb)
          replace HR := Lib.hid (HR.out.later hb)
          replace HB := Lib.hid (stepB HB.out hb)
          replace HRB := Lib.hid (HRB.out.later hb)
          clear hb HPB
          have hby : Below w14.heap.size w14 (w14.alloc (.cells #[.int .u8 (kn3 : Int), .int .i64 tx3, .string ke3, .string en3, .string va3, .int .i64 li3, .int .u8 (eg3 : Int)] 24)) := (Below.refl _ _).alloc (Nat.le_refl _) _
          have HZB : Hid (Blk (w14.alloc (.cells #[.int .u8 (kn3 : Int), .int .i64 tx3, .string ke3, .string en3, .string va3, .int .i64 li3, .int .u8 (eg3 : Int)] 24)) w14.heap.size #[.int .u8 (kn3 : Int), .int .i64 tx3, .string ke3, .string en3, .string va3, .int .i64 li3, .int .u8 (eg3 : Int)] 24) := Blk.new _ _ _
          replace HX := Lib.hid (HX.out.later hby)
          replace HA := Lib.hid (HA.out.later hby)
          replace HG := Lib.hid (HG.out.later hby)
          replace HR := Lib.hid (HR.out.later hby)
          replace HB := Lib.hid (stepB HB.out hby)
          replace HRB := Lib.hid (HRB.out.later hby)
          clear hby
          go_upto_region 10 with (fail)
          generalize w14.alloc (.cells #[.int .u8 (kn3 : Int), .int .i64 tx3, .string ke3, .string en3, .string va3, .int .i64 li3, .int .u8 (eg3 : Int)] 24) = w15 at *
          obtain ⟨p7, hp7⟩ : ∃ x, w14.heap.size = x := ⟨_, rfl⟩
          rw [hp7] at HZB ⊢
          clear hp7
          have HRE := Lib.hid (read_any s w15 (by have := HSZ.out; omega) HG.out)
          go_wp2_with fail
          refine HRE.out.mono ?_
          rintro e w16 ⟨v, rfl, hrow, hb⟩
          replace HX := Lib.hid (HX.out.later hb)
          replace HA := Lib.hid (HA.out.later hb)
          replace HG := Lib.hid (HG.out.later hb)
          replace HR := Lib.hid (HR.out.later hb)
          replace HB := Lib.hid (stepB HB.out hb)
          replace HRB := Lib.hid (HRB.out.later hb)
          replace HZB := Lib.hid (HZB.out.later hb)
          clear hb HRE
          obtain ⟨d, hd⟩ : ∃ y, asP s = y := ⟨_, rfl⟩
          obtain ⟨he_, hhe⟩ : ∃ y, rdE s = y := ⟨_, rfl⟩
          rw [show (if okA s = true then (0 : Int) else 4) = he_ from hhe]
          rw [hd] at hrow ⊢
          have HD := Lib.hid hd
          have HHE := Lib.hid hhe
          clear hd hhe
          obtain ⟨er3, fo3, av3, ps3⟩ := d
          unfold asV
          simp only at hrow ⊢
          obtain ⟨A3, c3, hv, _, _⟩ := hrow.sl
          subst hv
          have HRD := Lib.hid (hrow.rsl pvc_len)
          clear hrow
          obtain ⟨n3, hn3⟩ : ∃ z, ps3.length = z := ⟨_, rfl⟩
          rw [hn3] at HRD ⊢
          clear hn3
          have hby : Below w16.heap.size w16 (w16.alloc (.cells #[.int .i64 er3, .bool fo3, .string av3, .slice A3 n3 c3] 37)) := (Below.refl _ _).alloc (Nat.le_refl _) _
          have HDB : Hid (Blk (w16.alloc (.cells #[.int .i64 er3, .bool fo3, .string av3, .slice A3 n3 c3] 37)) w16.heap.size #[.int .i64 er3, .bool fo3, .string av3, .slice A3 n3 c3] 37) := Blk.new _ _ _
          replace HX := Lib.hid (HX.out.later hby)
          replace HA := Lib.hid (HA.out.later hby)
          replace HG := Lib.hid (HG.out.later hby)
          replace HR := Lib.hid (HR.out.later hby)
          replace HB := Lib.hid (stepB HB.out hby)
          replace HRB := Lib.hid (HRB.out.later hby)
          replace HZB := Lib.hid (HZB.out.later hby)
          replace HRD := Lib.hid (HRD.out.later hby)
          clear hby
          go_upto_region 11 with (fail)
          generalize w16.alloc (.cells #[.int .i64 er3, .bool fo3, .string av3, .slice A3 n3 c3] 37) = w17 at *
          obtain ⟨p8, hp8⟩ : ∃ x, w16.heap.size = x := ⟨_, rfl⟩
          rw [hp8] at HDB ⊢
          clear hp8
          clear HX HA HR HRB
          refine wp_region_noPanic ?_
          obtain ⟨W0, rfl⟩ : ∃ W0 : World, W0 = w17 := ⟨_, rfl⟩
          refine wp_region_held_drew (S := fun W => Below W0.heap.size W0 W) (by kernel_rfl) (Below.drew (Below.refl _ _)) (fun hHeld => ?_)
          have HH := Lib.hid hHeld
          by_cases hm : okP s = true
          · have hz := HZ.out
            unfold parC at hz
            rw [if_pos hm] at hz
            have hb_ := parse_back hm
            have hco := clP_ok hm HSZ.out
            have hsp := show_parse hm
            have hpb : (joinW (showL (clP s))).size ≤ 140737488355328 := by
              rw [← hb_.1, joinW_words]; have := HSZ.out; omega
            rw [hz] at hb_ hco hsp hpb
            have hge : ge = 0 := by rw [← HGE.out]; unfold parE; rw [if_pos hm]
            have hhe : he_ = 4 := by rw [← HHE.out]; unfold rdE; rw [not_both hm]; rfl
            have HSH : Hid (∀ V, Below W0.heap.size W0 V → Calls Tryd.prog 12 #[.agg #[.int .u8 (kn3 : Int), .int .i64 tx3, .string ke3, .string en3, .string va3, .int .i64 li3, .int .u8 (eg3 : Int)]] V fun e w' => e = .returned (.string s) ∧ Below V.heap.size V w') := Lib.hid (fun V hV => by
              have h := show_any (kn3, tx3, ke3, en3, va3, li3, eg3) V hco (HG.out.later hV) hpb
              rw [hsp] at h
              exact h)
            have HMAY : Hid (∀ V, Below W0.heap.size W0 V → Calls Tryd.prog 13 #[.agg #[.int .u8 (kn3 : Int), .int .i64 tx3, .string ke3, .string en3, .string va3, .int .i64 li3, .int .u8 (eg3 : Int)]] V fun e w' => e = .returned (.int .i64 0) ∧ Below V.heap.size V w') := Lib.hid (fun V hV => by
              have h := may_any (kn3, tx3, ke3, en3, va3, li3, eg3) V hco.1 hco.2.1 (HG.out.later hV)
              rw [if_pos hb_.2.1] at h
              exact h)
            have HCLN : Hid (∀ V, Below W0.heap.size W0 V → Calls Tryd.prog 14 #[.agg #[.int .u8 (kn3 : Int), .int .i64 tx3, .string ke3, .string en3, .string va3, .int .i64 li3, .int .u8 (eg3 : Int)]] V fun e w' => e = .returned (.agg #[.int .u8 (kn3 : Int), .int .i64 tx3, .string ke3, .string en3, .string va3, .int .i64 li3, .int .u8 (eg3 : Int)]) ∧ Below V.heap.size V w') := Lib.hid (fun V hV => by
              have h := clean_any kn3 tx3 ke3 en3 va3 li3 eg3 V hco.1 (HG.out.later hV)
              rw [hb_.2.2.1] at h
              exact h)
            have HEQ : Hid (∀ V : World, (binOp .eql 24 (.agg #[.int .u8 (kn3 : Int), .int .i64 tx3, .string ke3, .string en3, .string va3, .int .i64 li3, .int .u8 (eg3 : Int)]) (.agg #[.int .u8 (kn3 : Int), .int .i64 tx3, .string ke3, .string en3, .string va3, .int .i64 li3, .int .u8 (eg3 : Int)])).run Tryd.prog V = .ok (.bool true) V) := Lib.hid (fun V => by
              have h := eql24 (kn3, tx3, ke3, en3, va3, li3, eg3) (kn3, tx3, ke3, en3, va3, li3, eg3) V
              rw [decide_eq_true rfl] at h
              exact h)
            have qs : (s.toList == s.toList) = true := by simp
            subst hge hhe
            clear hz hb_ hco hsp hpb hm HZ HGE HD HHE
            refine wpAnyH_take (i := 0) (oi := { dst := some 85, op := Op.move (Operand.tmp 12), type := 26, pos := "outright.go:96", after := #[], guard := none }) (v := ?_) rfl (by kernel_rfl) (by kernel_rfl) (by kernel_rfl) (fun _ _ _ h => h) (Or.inl ⟨by rfl, ?_⟩) (by assumption) ?_
            rotate_left
            · intro W hSw
              clear hSw
              go_simp
              try with_reducible rfl
            simp only [Act.put, List.setIfInBounds_toArray, List.set_cons_zero, List.set_cons_succ]
            refine wpAnyH_take (i := 1) (oi := { dst := some 86, op := Op.binOp BinOp.neq 26 (Operand.tmp 85) (Operand.const (Value.int IntKind.i64 0)) 26, type := 4, pos := "outright.go:96", after := #[{ on := 0, ground := Ground.data }], guard := none }) (v := ?_) rfl (by kernel_rfl) (by kernel_rfl) (by kernel_rfl) (fun _ _ _ h => h) (Or.inl ⟨by rfl, ?_⟩) (by assumption) ?_
            rotate_left
            · intro W hSw
              clear hSw
              go_simp
              try with_reducible rfl
            simp only [Act.put, List.setIfInBounds_toArray, List.set_cons_zero, List.set_cons_succ]
            refine wpAnyH_take (i := 2) (oi := { dst := some 87, op := Op.move (Operand.tmp 86), type := 4, pos := "outright.go:96", after := #[{ on := 1, ground := Ground.data }], guard := none }) (v := ?_) rfl (by kernel_rfl) (by kernel_rfl) (by kernel_rfl) (fun _ _ _ h => h) (Or.inl ⟨by rfl, ?_⟩) (by assumption) ?_
            rotate_left
            · intro W hSw
              clear hSw
              go_simp
              try with_reducible rfl
            simp only [Act.put, List.setIfInBounds_toArray, List.set_cons_zero, List.set_cons_succ]
            refine wpAnyH_take (i := 3) (oi := { dst := some 88, op := Op.load 24 (Operand.tmp 11), type := 24, pos := "outright.go:96", after := #[{ on := 2, ground := Ground.guard }], guard := some (2, false) }) (v := ?_) rfl (by kernel_rfl) (by kernel_rfl) (by kernel_rfl) (fun _ _ _ h => h) (Or.inl ⟨by rfl, ?_⟩) (by assumption) ?_
            rotate_left
            · intro W hSw
              have k0 := (HZB.out.later hSw).cell 0
              have k1 := (HZB.out.later hSw).cell 1
              have k2 := (HZB.out.later hSw).cell 2
              have k3 := (HZB.out.later hSw).cell 3
              have k4 := (HZB.out.later hSw).cell 4
              have k5 := (HZB.out.later hSw).cell 5
              have k6 := (HZB.out.later hSw).cell 6
              simp only [List.getElem?_toArray, List.getElem?_cons_zero, List.getElem?_cons_succ] at k0 k1 k2 k3 k4 k5 k6
              go_simp
              try with_reducible rfl
            simp only [Act.put, List.setIfInBounds_toArray, List.set_cons_zero, List.set_cons_succ]
            refine wpAnyH_take (i := 5) (oi := { dst := some 90, op := Op.move (Operand.tmp 2), type := 9, pos := "outright.go:96", after := #[{ on := 2, ground := Ground.guard }], guard := some (2, false) }) (v := ?_) rfl (by kernel_rfl) (by kernel_rfl) (by kernel_rfl) (fun _ _ _ h => h) (Or.inl ⟨by rfl, ?_⟩) (by assumption) ?_
            rotate_left
            · intro W hSw
              clear hSw
              go_simp
              try with_reducible rfl
            simp only [Act.put, List.setIfInBounds_toArray, List.set_cons_zero, List.set_cons_succ]
            refine wpAnyH_ready (rs := [4]) (by kernel_rfl) (by simp) (AllReadyH.cons (o := { dst := some 89, op := Op.call { callee := Callee.value (Operand.func 12), args := #[Operand.tmp 88], argTypes := #[24] }, type := 9, pos := "outright.go:96", after := #[{ on := 3, ground := Ground.data }, { on := 2, ground := Ground.chain }, { on := 2, ground := Ground.guard }], guard := some (2, false) }) rfl (fun K hK => ?_) AllReadyH.nil)
            have HCL := Lib.hid (HSH.out _ HH.out)
            go_simp
            refine HCL.out.mono ?_
            rintro e Wa ⟨rfl, hb⟩
            replace HH := Lib.hid (stepB HH.out hb)
            clear hb HCL hHeld
            refine hK.out _ _ HH.out (fun hHeld => ?_)
            clear hK K
            refine wpAnyH_take (i := 6) (oi := { dst := some 91, op := Op.binOp BinOp.eql 9 (Operand.tmp 89) (Operand.tmp 90) 9, type := 4, pos := "outright.go:96", after := #[{ on := 4, ground := Ground.data }, { on := 5, ground := Ground.data }, { on := 2, ground := Ground.guard }], guard := some (2, false) }) (v := ?_) rfl (by kernel_rfl) (by kernel_rfl) (by kernel_rfl) (fun _ _ _ h => h) (Or.inl ⟨by rfl, ?_⟩) (by assumption) ?_
            rotate_left
            · intro W hSw
              clear hSw
              have qs2 := qs
              go_simp
              try with_reducible rfl
            simp only [Act.put, List.setIfInBounds_toArray, List.set_cons_zero, List.set_cons_succ]
            refine wpAnyH_take (i := 7) (oi := { dst := some 92, op := Op.move (Operand.tmp 91), type := 4, pos := "outright.go:96", after := #[{ on := 6, ground := Ground.data }, { on := 4, ground := Ground.chain }, { on := 2, ground := Ground.guard }], guard := some (2, false) }) (v := ?_) rfl (by kernel_rfl) (by kernel_rfl) (by kernel_rfl) (fun _ _ _ h => h) (Or.inl ⟨by rfl, ?_⟩) (by assumption) ?_
            rotate_left
            · intro W hSw
              clear hSw
              go_simp
              try with_reducible rfl
            simp only [Act.put, List.setIfInBounds_toArray, List.set_cons_zero, List.set_cons_succ]
            refine wpAnyH_take (i := 8) (oi := { dst := some 93, op := Op.load 24 (Operand.tmp 11), type := 24, pos := "outright.go:96", after := #[{ on := 7, ground := Ground.guard }], guard := some (7, true) }) (v := ?_) rfl (by kernel_rfl) (by kernel_rfl) (by kernel_rfl) (fun _ _ _ h => h) (Or.inl ⟨by rfl, ?_⟩) (by assumption) ?_
            rotate_left
            · intro W hSw
              have k0 := (HZB.out.later hSw).cell 0
              have k1 := (HZB.out.later hSw).cell 1
              have k2 := (HZB.out.later hSw).cell 2
              have k3 := (HZB.out.later hSw).cell 3
              have k4 := (HZB.out.later hSw).cell 4
              have k5 := (HZB.out.later hSw).cell 5
              have k6 := (HZB.out.later hSw).cell 6
              simp only [List.getElem?_toArray, List.getElem?_cons_zero, List.getElem?_cons_succ] at k0 k1 k2 k3 k4 k5 k6
              go_simp
              try with_reducible rfl
            simp only [Act.put, List.setIfInBounds_toArray, List.set_cons_zero, List.set_cons_succ]
            refine wpAnyH_ready (rs := [9]) (by kernel_rfl) (by simp) (AllReadyH.cons (o := { dst := some 94, op := Op.call { callee := Callee.value (Operand.func 13), args := #[Operand.tmp 93], argTypes := #[24] }, type := 26, pos := "outright.go:96", after := #[{ on := 8, ground := Ground.data }, { on := 7, ground := Ground.chain }, { on := 7, ground := Ground.guard }], guard := some (7, true) }) rfl (fun K hK => ?_) AllReadyH.nil)
            have HCL := Lib.hid (HMAY.out _ HH.out)
            go_simp
            refine HCL.out.mono ?_
            rintro e Wb ⟨rfl, hb⟩
            replace HH := Lib.hid (stepB HH.out hb)
            clear hb HCL hHeld
            refine hK.out _ _ HH.out (fun hHeld => ?_)
            clear hK K
            refine wpAnyH_take (i := 10) (oi := { dst := some 95, op := Op.binOp BinOp.eql 26 (Operand.tmp 94) (Operand.const (Value.int IntKind.i64 0)) 26, type := 4, pos := "outright.go:96", after := #[{ on := 9, ground := Ground.data }, { on := 7, ground := Ground.guard }], guard := some (7, true) }) (v := ?_) rfl (by kernel_rfl) (by kernel_rfl) (by kernel_rfl) (fun _ _ _ h => h) (Or.inl ⟨by rfl, ?_⟩) (by assumption) ?_
            rotate_left
            · intro W hSw
              clear hSw
              go_simp
              try with_reducible rfl
            simp only [Act.put, List.setIfInBounds_toArray, List.set_cons_zero, List.set_cons_succ]
            refine wpAnyH_take (i := 11) (oi := { dst := some 96, op := Op.pick (Operand.tmp 92) (Operand.tmp 95) (Operand.const (Value.bool false)), type := 4, pos := "outright.go:96", after := #[{ on := 7, ground := Ground.data }, { on := 10, ground := Ground.data }, { on := 2, ground := Ground.guard }], guard := some (2, false) }) (v := ?_) rfl (by kernel_rfl) (by kernel_rfl) (by kernel_rfl) (fun _ _ _ h => h) (Or.inl ⟨by rfl, ?_⟩) (by assumption) ?_
            rotate_left
            · intro W hSw
              clear hSw
              go_simp
              try with_reducible rfl
            simp only [Act.put, List.setIfInBounds_toArray, List.set_cons_zero, List.set_cons_succ]
            refine wpAnyH_take (i := 12) (oi := { dst := some 97, op := Op.move (Operand.tmp 96), type := 4, pos := "outright.go:96", after := #[{ on := 11, ground := Ground.data }, { on := 9, ground := Ground.chain }, { on := 2, ground := Ground.guard }], guard := some (2, false) }) (v := ?_) rfl (by kernel_rfl) (by kernel_rfl) (by kernel_rfl) (fun _ _ _ h => h) (Or.inl ⟨by rfl, ?_⟩) (by assumption) ?_
            rotate_left
            · intro W hSw
              clear hSw
              go_simp
              try with_reducible rfl
            simp only [Act.put, List.setIfInBounds_toArray, List.set_cons_zero, List.set_cons_succ]
            refine wpAnyH_take (i := 13) (oi := { dst := some 98, op := Op.load 24 (Operand.tmp 11), type := 24, pos := "outright.go:96", after := #[{ on := 12, ground := Ground.guard }], guard := some (12, true) }) (v := ?_) rfl (by kernel_rfl) (by kernel_rfl) (by kernel_rfl) (fun _ _ _ h => h) (Or.inl ⟨by rfl, ?_⟩) (by assumption) ?_
            rotate_left
            · intro W hSw
              have k0 := (HZB.out.later hSw).cell 0
              have k1 := (HZB.out.later hSw).cell 1
              have k2 := (HZB.out.later hSw).cell 2
              have k3 := (HZB.out.later hSw).cell 3
              have k4 := (HZB.out.later hSw).cell 4
              have k5 := (HZB.out.later hSw).cell 5
              have k6 := (HZB.out.later hSw).cell 6
              simp only [List.getElem?_toArray, List.getElem?_cons_zero, List.getElem?_cons_succ] at k0 k1 k2 k3 k4 k5 k6
              go_simp
              try with_reducible rfl
            simp only [Act.put, List.setIfInBounds_toArray, List.set_cons_zero, List.set_cons_succ]
            refine wpAnyH_take (i := 15) (oi := { dst := some 100, op := Op.load 24 (Operand.tmp 11), type := 24, pos := "outright.go:96", after := #[{ on := 12, ground := Ground.guard }], guard := some (12, true) }) (v := ?_) rfl (by kernel_rfl) (by kernel_rfl) (by kernel_rfl) (fun _ _ _ h => h) (Or.inl ⟨by rfl, ?_⟩) (by assumption) ?_
            rotate_left
            · intro W hSw
              have k0 := (HZB.out.later hSw).cell 0
              have k1 := (HZB.out.later hSw).cell 1
              have k2 := (HZB.out.later hSw).cell 2
              have k3 := (HZB.out.later hSw).cell 3
              have k4 := (HZB.out.later hSw).cell 4
              have k5 := (HZB.out.later hSw).cell 5
              have k6 := (HZB.out.later hSw).cell 6
              simp only [List.getElem?_toArray, List.getElem?_cons_zero, List.getElem?_cons_succ] at k0 k1 k2 k3 k4 k5 k6
              go_simp
              try with_reducible rfl
            simp only [Act.put, List.setIfInBounds_toArray, List.set_cons_zero, List.set_cons_succ]
            refine wpAnyH_ready (rs := [14]) (by kernel_rfl) (by simp) (AllReadyH.cons (o := { dst := some 99, op := Op.call { callee := Callee.value (Operand.func 14), args := #[Operand.tmp 98], argTypes := #[24] }, type := 24, pos := "outright.go:96", after := #[{ on := 13, ground := Ground.data }, { on := 12, ground := Ground.chain }, { on := 12, ground := Ground.guard }], guard := some (12, true) }) rfl (fun K hK => ?_) AllReadyH.nil)
            have HCL := Lib.hid (HCLN.out _ HH.out)
            go_simp
            refine HCL.out.mono ?_
            rintro e Wc ⟨rfl, hb⟩
            replace HH := Lib.hid (stepB HH.out hb)
            clear hb HCL hHeld
            refine hK.out _ _ HH.out (fun hHeld => ?_)
            clear hK K
            refine wpAnyH_take (i := 16) (oi := { dst := some 101, op := Op.binOp BinOp.eql 24 (Operand.tmp 99) (Operand.tmp 100) 24, type := 4, pos := "outright.go:96", after := #[{ on := 14, ground := Ground.data }, { on := 15, ground := Ground.data }, { on := 12, ground := Ground.guard }], guard := some (12, true) }) (v := ?_) rfl (by kernel_rfl) (by kernel_rfl) (by kernel_rfl) (fun _ _ _ h => h) (Or.inl ⟨by rfl, ?_⟩) (by assumption) ?_
            rotate_left
            · intro W hSw
              clear hSw
              have hne := HEQ.out
              go_simp
              try with_reducible rfl
            simp only [Act.put, List.setIfInBounds_toArray, List.set_cons_zero, List.set_cons_succ]
            refine wpAnyH_take (i := 17) (oi := { dst := some 102, op := Op.pick (Operand.tmp 97) (Operand.tmp 101) (Operand.const (Value.bool false)), type := 4, pos := "outright.go:96", after := #[{ on := 12, ground := Ground.data }, { on := 16, ground := Ground.data }, { on := 2, ground := Ground.guard }], guard := some (2, false) }) (v := ?_) rfl (by kernel_rfl) (by kernel_rfl) (by kernel_rfl) (fun _ _ _ h => h) (Or.inl ⟨by rfl, ?_⟩) (by assumption) ?_
            rotate_left
            · intro W hSw
              clear hSw
              go_simp
              try with_reducible rfl
            simp only [Act.put, List.setIfInBounds_toArray, List.set_cons_zero, List.set_cons_succ]
            refine wpAnyH_take (i := 18) (oi := { dst := some 103, op := Op.pick (Operand.tmp 87) (Operand.const (Value.bool true)) (Operand.tmp 102), type := 4, pos := "outright.go:96", after := #[{ on := 2, ground := Ground.data }, { on := 17, ground := Ground.data }], guard := none }) (v := ?_) rfl (by kernel_rfl) (by kernel_rfl) (by kernel_rfl) (fun _ _ _ h => h) (Or.inl ⟨by rfl, ?_⟩) (by assumption) ?_
            rotate_left
            · intro W hSw
              clear hSw
              go_simp
              try with_reducible rfl
            simp only [Act.put, List.setIfInBounds_toArray, List.set_cons_zero, List.set_cons_succ]
            refine wpAnyH_take (i := 19) (oi := { dst := some 104, op := Op.move (Operand.tmp 103), type := 4, pos := "outright.go:96", after := #[{ on := 18, ground := Ground.data }, { on := 14, ground := Ground.chain }], guard := none }) (v := ?_) rfl (by kernel_rfl) (by kernel_rfl) (by kernel_rfl) (fun _ _ _ h => h) (Or.inl ⟨by rfl, ?_⟩) (by assumption) ?_
            rotate_left
            · intro W hSw
              clear hSw
              go_simp
              try with_reducible rfl
            simp only [Act.put, List.setIfInBounds_toArray, List.set_cons_zero, List.set_cons_succ]
            refine wpAnyH_take (i := 20) (oi := { dst := some 105, op := Op.move (Operand.tmp 14), type := 26, pos := "outright.go:96", after := #[{ on := 19, ground := Ground.guard }], guard := some (19, true) }) (v := ?_) rfl (by kernel_rfl) (by kernel_rfl) (by kernel_rfl) (fun _ _ _ h => h) (Or.inl ⟨by rfl, ?_⟩) (by assumption) ?_
            rotate_left
            · intro W hSw
              clear hSw
              go_simp
              try with_reducible rfl
            simp only [Act.put, List.setIfInBounds_toArray, List.set_cons_zero, List.set_cons_succ]
            refine wpAnyH_take (i := 21) (oi := { dst := some 106, op := Op.binOp BinOp.neq 26 (Operand.tmp 105) (Operand.const (Value.int IntKind.i64 0)) 26, type := 4, pos := "outright.go:96", after := #[{ on := 20, ground := Ground.data }, { on := 19, ground := Ground.guard }], guard := some (19, true) }) (v := ?_) rfl (by kernel_rfl) (by kernel_rfl) (by kernel_rfl) (fun _ _ _ h => h) (Or.inl ⟨by rfl, ?_⟩) (by assumption) ?_
            rotate_left
            · intro W hSw
              clear hSw
              go_simp
              try with_reducible rfl
            simp only [Act.put, List.setIfInBounds_toArray, List.set_cons_zero, List.set_cons_succ]
            refine wpAnyH_take (i := 22) (oi := { dst := some 107, op := Op.move (Operand.tmp 106), type := 4, pos := "outright.go:96", after := #[{ on := 21, ground := Ground.data }, { on := 19, ground := Ground.chain }, { on := 19, ground := Ground.guard }], guard := some (19, true) }) (v := ?_) rfl (by kernel_rfl) (by kernel_rfl) (by kernel_rfl) (fun _ _ _ h => h) (Or.inl ⟨by rfl, ?_⟩) (by assumption) ?_
            rotate_left
            · intro W hSw
              clear hSw
              go_simp
              try with_reducible rfl
            simp only [Act.put, List.setIfInBounds_toArray, List.set_cons_zero, List.set_cons_succ]
            refine wpAnyH_take (i := 23) (oi := { dst := some 108, op := Op.load 37 (Operand.tmp 13), type := 37, pos := "outright.go:96", after := #[{ on := 22, ground := Ground.guard }], guard := some (22, false) }) (v := undef) rfl (by kernel_rfl) (by kernel_rfl) (by kernel_rfl) (fun _ _ _ h => h) (Or.inr ⟨by rfl, rfl⟩) (by assumption) ?_
            simp only [Act.put, List.setIfInBounds_toArray, List.set_cons_zero, List.set_cons_succ]
            refine wpAnyH_take (i := 24) (oi := { dst := some 109, op := Op.call { callee := Callee.value (Operand.func 22), args := #[Operand.tmp 108], argTypes := #[37] }, type := 9, pos := "outright.go:96", after := #[{ on := 23, ground := Ground.data }, { on := 22, ground := Ground.chain }, { on := 22, ground := Ground.guard }], guard := some (22, false) }) (v := undef) rfl (by kernel_rfl) (by kernel_rfl) (by kernel_rfl) (fun _ _ _ h => h) (Or.inr ⟨by rfl, rfl⟩) (by assumption) ?_
            simp only [Act.put, List.setIfInBounds_toArray, List.set_cons_zero, List.set_cons_succ]
            refine wpAnyH_take (i := 25) (oi := { dst := some 110, op := Op.move (Operand.tmp 2), type := 9, pos := "outright.go:96", after := #[{ on := 22, ground := Ground.guard }], guard := some (22, false) }) (v := undef) rfl (by kernel_rfl) (by kernel_rfl) (by kernel_rfl) (fun _ _ _ h => h) (Or.inr ⟨by rfl, rfl⟩) (by assumption) ?_
            simp only [Act.put, List.setIfInBounds_toArray, List.set_cons_zero, List.set_cons_succ]
            refine wpAnyH_take (i := 26) (oi := { dst := some 111, op := Op.binOp BinOp.eql 9 (Operand.tmp 109) (Operand.tmp 110) 9, type := 4, pos := "outright.go:96", after := #[{ on := 24, ground := Ground.data }, { on := 25, ground := Ground.data }, { on := 22, ground := Ground.guard }], guard := some (22, false) }) (v := undef) rfl (by kernel_rfl) (by kernel_rfl) (by kernel_rfl) (fun _ _ _ h => h) (Or.inr ⟨by rfl, rfl⟩) (by assumption) ?_
            simp only [Act.put, List.setIfInBounds_toArray, List.set_cons_zero, List.set_cons_succ]
            refine wpAnyH_take (i := 27) (oi := { dst := some 112, op := Op.pick (Operand.tmp 107) (Operand.const (Value.bool true)) (Operand.tmp 111), type := 4, pos := "outright.go:96", after := #[{ on := 22, ground := Ground.data }, { on := 26, ground := Ground.data }, { on := 19, ground := Ground.guard }], guard := some (19, true) }) (v := ?_) rfl (by kernel_rfl) (by kernel_rfl) (by kernel_rfl) (fun _ _ _ h => h) (Or.inl ⟨by rfl, ?_⟩) (by assumption) ?_
            rotate_left
            · intro W hSw
              clear hSw
              go_simp
              try with_reducible rfl
            simp only [Act.put, List.setIfInBounds_toArray, List.set_cons_zero, List.set_cons_succ]
            refine wpAnyH_take (i := 28) (oi := { dst := some 113, op := Op.pick (Operand.tmp 104) (Operand.tmp 112) (Operand.const (Value.bool false)), type := 4, pos := "outright.go:96", after := #[{ on := 19, ground := Ground.data }, { on := 27, ground := Ground.data }], guard := none }) (v := ?_) rfl (by kernel_rfl) (by kernel_rfl) (by kernel_rfl) (fun _ _ _ h => h) (Or.inl ⟨by rfl, ?_⟩) (by assumption) ?_
            rotate_left
            · intro W hSw
              clear hSw
              go_simp
              try with_reducible rfl
            simp only [Act.put, List.setIfInBounds_toArray, List.set_cons_zero, List.set_cons_succ]
            refine wpAnyH_take (i := 29) (oi := { dst := some 114, op := Op.move (Operand.tmp 113), type := 4, pos := "outright.go:96", after := #[{ on := 28, ground := Ground.data }, { on := 24, ground := Ground.chain }], guard := none }) (v := ?_) rfl (by kernel_rfl) (by kernel_rfl) (by kernel_rfl) (fun _ _ _ h => h) (Or.inl ⟨by rfl, ?_⟩) (by assumption) ?_
            rotate_left
            · intro W hSw
              clear hSw
              go_simp
              try with_reducible rfl
            simp only [Act.put, List.setIfInBounds_toArray, List.set_cons_zero, List.set_cons_succ]
            refine wpAnyH_take (i := 30) (oi := { dst := some 115, op := Op.move (Operand.tmp 12), type := 26, pos := "outright.go:96", after := #[{ on := 29, ground := Ground.guard }], guard := some (29, true) }) (v := ?_) rfl (by kernel_rfl) (by kernel_rfl) (by kernel_rfl) (fun _ _ _ h => h) (Or.inl ⟨by rfl, ?_⟩) (by assumption) ?_
            rotate_left
            · intro W hSw
              clear hSw
              go_simp
              try with_reducible rfl
            simp only [Act.put, List.setIfInBounds_toArray, List.set_cons_zero, List.set_cons_succ]
            refine wpAnyH_take (i := 31) (oi := { dst := some 116, op := Op.binOp BinOp.neq 26 (Operand.tmp 115) (Operand.const (Value.int IntKind.i64 0)) 26, type := 4, pos := "outright.go:96", after := #[{ on := 30, ground := Ground.data }, { on := 29, ground := Ground.guard }], guard := some (29, true) }) (v := ?_) rfl (by kernel_rfl) (by kernel_rfl) (by kernel_rfl) (fun _ _ _ h => h) (Or.inl ⟨by rfl, ?_⟩) (by assumption) ?_
            rotate_left
            · intro W hSw
              clear hSw
              go_simp
              try with_reducible rfl
            simp only [Act.put, List.setIfInBounds_toArray, List.set_cons_zero, List.set_cons_succ]
            refine wpAnyH_take (i := 32) (oi := { dst := some 117, op := Op.move (Operand.tmp 116), type := 4, pos := "outright.go:96", after := #[{ on := 31, ground := Ground.data }, { on := 29, ground := Ground.chain }, { on := 29, ground := Ground.guard }], guard := some (29, true) }) (v := ?_) rfl (by kernel_rfl) (by kernel_rfl) (by kernel_rfl) (fun _ _ _ h => h) (Or.inl ⟨by rfl, ?_⟩) (by assumption) ?_
            rotate_left
            · intro W hSw
              clear hSw
              go_simp
              try with_reducible rfl
            simp only [Act.put, List.setIfInBounds_toArray, List.set_cons_zero, List.set_cons_succ]
            refine wpAnyH_take (i := 33) (oi := { dst := some 118, op := Op.move (Operand.tmp 14), type := 26, pos := "outright.go:96", after := #[{ on := 32, ground := Ground.guard }], guard := some (32, false) }) (v := ?_) rfl (by kernel_rfl) (by kernel_rfl) (by kernel_rfl) (fun _ _ _ h => h) (Or.inl ⟨by rfl, ?_⟩) (by assumption) ?_
            rotate_left
            · intro W hSw
              clear hSw
              go_simp
              try with_reducible rfl
            simp only [Act.put, List.setIfInBounds_toArray, List.set_cons_zero, List.set_cons_succ]
            refine wpAnyH_take (i := 34) (oi := { dst := some 119, op := Op.binOp BinOp.neq 26 (Operand.tmp 118) (Operand.const (Value.int IntKind.i64 0)) 26, type := 4, pos := "outright.go:96", after := #[{ on := 33, ground := Ground.data }, { on := 32, ground := Ground.guard }], guard := some (32, false) }) (v := ?_) rfl (by kernel_rfl) (by kernel_rfl) (by kernel_rfl) (fun _ _ _ h => h) (Or.inl ⟨by rfl, ?_⟩) (by assumption) ?_
            rotate_left
            · intro W hSw
              clear hSw
              go_simp
              try with_reducible rfl
            simp only [Act.put, List.setIfInBounds_toArray, List.set_cons_zero, List.set_cons_succ]
            refine wpAnyH_take (i := 35) (oi := { dst := some 120, op := Op.pick (Operand.tmp 117) (Operand.const (Value.bool true)) (Operand.tmp 119), type := 4, pos := "outright.go:96", after := #[{ on := 32, ground := Ground.data }, { on := 34, ground := Ground.data }, { on := 29, ground := Ground.guard }], guard := some (29, true) }) (v := ?_) rfl (by kernel_rfl) (by kernel_rfl) (by kernel_rfl) (fun _ _ _ h => h) (Or.inl ⟨by rfl, ?_⟩) (by assumption) ?_
            rotate_left
            · intro W hSw
              clear hSw
              go_simp
              try with_reducible rfl
            simp only [Act.put, List.setIfInBounds_toArray, List.set_cons_zero, List.set_cons_succ]
            refine wpAnyH_take (i := 36) (oi := { dst := some 121, op := Op.pick (Operand.tmp 114) (Operand.tmp 120) (Operand.const (Value.bool false)), type := 4, pos := "outright.go:96", after := #[{ on := 29, ground := Ground.data }, { on := 35, ground := Ground.data }], guard := none }) (v := ?_) rfl (by kernel_rfl) (by kernel_rfl) (by kernel_rfl) (fun _ _ _ h => h) (Or.inl ⟨by rfl, ?_⟩) (by assumption) ?_
            rotate_left
            · intro W hSw
              clear hSw
              go_simp
              try with_reducible rfl
            simp only [Act.put, List.setIfInBounds_toArray, List.set_cons_zero, List.set_cons_succ]
            refine wpAnyH_take (i := 37) (oi := { dst := some 6, op := Op.assign (Operand.tmp 121), type := 4, pos := "outright.go:96", after := #[{ on := 36, ground := Ground.data }, { on := 32, ground := Ground.chain }, { on := 0, ground := Ground.phase }, { on := 1, ground := Ground.phase }, { on := 2, ground := Ground.phase }, { on := 3, ground := Ground.phase }, { on := 4, ground := Ground.phase }, { on := 5, ground := Ground.phase }, { on := 6, ground := Ground.phase }, { on := 7, ground := Ground.phase }, { on := 8, ground := Ground.phase }, { on := 9, ground := Ground.phase }, { on := 10, ground := Ground.phase }, { on := 11, ground := Ground.phase }, { on := 12, ground := Ground.phase }, { on := 13, ground := Ground.phase }, { on := 14, ground := Ground.phase }, { on := 15, ground := Ground.phase }, { on := 16, ground := Ground.phase }, { on := 17, ground := Ground.phase }, { on := 18, ground := Ground.phase }, { on := 19, ground := Ground.phase }, { on := 20, ground := Ground.phase }, { on := 21, ground := Ground.phase }, { on := 22, ground := Ground.phase }, { on := 23, ground := Ground.phase }, { on := 24, ground := Ground.phase }, { on := 25, ground := Ground.phase }, { on := 26, ground := Ground.phase }, { on := 27, ground := Ground.phase }, { on := 28, ground := Ground.phase }, { on := 29, ground := Ground.phase }, { on := 30, ground := Ground.phase }, { on := 31, ground := Ground.phase }, { on := 32, ground := Ground.phase }, { on := 33, ground := Ground.phase }, { on := 34, ground := Ground.phase }, { on := 35, ground := Ground.phase }, { on := 36, ground := Ground.phase }], guard := none }) (v := ?_) rfl (by kernel_rfl) (by kernel_rfl) (by kernel_rfl) (fun _ _ _ h => h) (Or.inl ⟨by rfl, ?_⟩) (by assumption) ?_
            rotate_left
            · intro W hSw
              clear hSw
              go_simp
              try with_reducible rfl
            simp only [Act.put, List.setIfInBounds_toArray, List.set_cons_zero, List.set_cons_succ]
            clear HSH HMAY HCLN HEQ qs
            refine wpAnyH_done (by kernel_rfl) (NoPanic.normal ?_) _
            have HF := Lib.hid (stepB HB.out HH.out)
            clear hHeld HH
            go_wp2
            go_ret
            exact ⟨rfl, HF.out⟩
          · have hge : ge = 4 := by rw [← HGE.out]; unfold parE; rw [if_neg hm]
            subst hge
            clear HZ HGE hm
            by_cases ha : okA s = true
            · have hao := asP_ok ha HSZ.out
              have htr := tell_read ha
              unfold telT at htr
              rw [HD.out] at hao htr
              have hhe : he_ = 0 := by rw [← HHE.out]; unfold rdE; rw [if_pos ha]
              have hn3 : n3 ≤ 100000 := by have h1 := HRD.out.1; have h2 := hao.2.2.2.1; simp only at h2; omega
              have HTE : Hid (∀ V, Below W0.heap.size W0 V → Calls Tryd.prog 22 #[.agg #[.int .i64 er3, .bool fo3, .string av3, .slice A3 n3 c3]] V fun e w' => e = .returned (.string s) ∧ Below V.heap.size V w') := Lib.hid (fun V hV => by
                have h := tell_any er3 fo3 av3 A3 n3 c3 ps3 V hao.1 hao.2.1 hao.2.2.1 (HRD.out.later hV) hn3 (HG.out.later hV) (by rw [htr]; have := HSZ.out; omega)
                rw [htr] at h
                exact h)
              have qs : (s.toList == s.toList) = true := by simp
              subst hhe
              clear hao htr ha hn3 HD HHE
              refine wpAnyH_take (i := 0) (oi := { dst := some 85, op := Op.move (Operand.tmp 12), type := 26, pos := "outright.go:96", after := #[], guard := none }) (v := ?_) rfl (by kernel_rfl) (by kernel_rfl) (by kernel_rfl) (fun _ _ _ h => h) (Or.inl ⟨by rfl, ?_⟩) (by assumption) ?_
              rotate_left
              · intro W hSw
                clear hSw
                go_simp
                try with_reducible rfl
              simp only [Act.put, List.setIfInBounds_toArray, List.set_cons_zero, List.set_cons_succ]
              refine wpAnyH_take (i := 1) (oi := { dst := some 86, op := Op.binOp BinOp.neq 26 (Operand.tmp 85) (Operand.const (Value.int IntKind.i64 0)) 26, type := 4, pos := "outright.go:96", after := #[{ on := 0, ground := Ground.data }], guard := none }) (v := ?_) rfl (by kernel_rfl) (by kernel_rfl) (by kernel_rfl) (fun _ _ _ h => h) (Or.inl ⟨by rfl, ?_⟩) (by assumption) ?_
              rotate_left
              · intro W hSw
                clear hSw
                go_simp
                try with_reducible rfl
              simp only [Act.put, List.setIfInBounds_toArray, List.set_cons_zero, List.set_cons_succ]
              refine wpAnyH_take (i := 2) (oi := { dst := some 87, op := Op.move (Operand.tmp 86), type := 4, pos := "outright.go:96", after := #[{ on := 1, ground := Ground.data }], guard := none }) (v := ?_) rfl (by kernel_rfl) (by kernel_rfl) (by kernel_rfl) (fun _ _ _ h => h) (Or.inl ⟨by rfl, ?_⟩) (by assumption) ?_
              rotate_left
              · intro W hSw
                clear hSw
                go_simp
                try with_reducible rfl
              simp only [Act.put, List.setIfInBounds_toArray, List.set_cons_zero, List.set_cons_succ]
              refine wpAnyH_take (i := 3) (oi := { dst := some 88, op := Op.load 24 (Operand.tmp 11), type := 24, pos := "outright.go:96", after := #[{ on := 2, ground := Ground.guard }], guard := some (2, false) }) (v := undef) rfl (by kernel_rfl) (by kernel_rfl) (by kernel_rfl) (fun _ _ _ h => h) (Or.inr ⟨by rfl, rfl⟩) (by assumption) ?_
              simp only [Act.put, List.setIfInBounds_toArray, List.set_cons_zero, List.set_cons_succ]
              refine wpAnyH_take (i := 4) (oi := { dst := some 89, op := Op.call { callee := Callee.value (Operand.func 12), args := #[Operand.tmp 88], argTypes := #[24] }, type := 9, pos := "outright.go:96", after := #[{ on := 3, ground := Ground.data }, { on := 2, ground := Ground.chain }, { on := 2, ground := Ground.guard }], guard := some (2, false) }) (v := undef) rfl (by kernel_rfl) (by kernel_rfl) (by kernel_rfl) (fun _ _ _ h => h) (Or.inr ⟨by rfl, rfl⟩) (by assumption) ?_
              simp only [Act.put, List.setIfInBounds_toArray, List.set_cons_zero, List.set_cons_succ]
              refine wpAnyH_take (i := 5) (oi := { dst := some 90, op := Op.move (Operand.tmp 2), type := 9, pos := "outright.go:96", after := #[{ on := 2, ground := Ground.guard }], guard := some (2, false) }) (v := undef) rfl (by kernel_rfl) (by kernel_rfl) (by kernel_rfl) (fun _ _ _ h => h) (Or.inr ⟨by rfl, rfl⟩) (by assumption) ?_
              simp only [Act.put, List.setIfInBounds_toArray, List.set_cons_zero, List.set_cons_succ]
              refine wpAnyH_take (i := 6) (oi := { dst := some 91, op := Op.binOp BinOp.eql 9 (Operand.tmp 89) (Operand.tmp 90) 9, type := 4, pos := "outright.go:96", after := #[{ on := 4, ground := Ground.data }, { on := 5, ground := Ground.data }, { on := 2, ground := Ground.guard }], guard := some (2, false) }) (v := undef) rfl (by kernel_rfl) (by kernel_rfl) (by kernel_rfl) (fun _ _ _ h => h) (Or.inr ⟨by rfl, rfl⟩) (by assumption) ?_
              simp only [Act.put, List.setIfInBounds_toArray, List.set_cons_zero, List.set_cons_succ]
              refine wpAnyH_take (i := 7) (oi := { dst := some 92, op := Op.move (Operand.tmp 91), type := 4, pos := "outright.go:96", after := #[{ on := 6, ground := Ground.data }, { on := 4, ground := Ground.chain }, { on := 2, ground := Ground.guard }], guard := some (2, false) }) (v := undef) rfl (by kernel_rfl) (by kernel_rfl) (by kernel_rfl) (fun _ _ _ h => h) (Or.inr ⟨by rfl, rfl⟩) (by assumption) ?_
              simp only [Act.put, List.setIfInBounds_toArray, List.set_cons_zero, List.set_cons_succ]
              refine wpAnyH_take (i := 8) (oi := { dst := some 93, op := Op.load 24 (Operand.tmp 11), type := 24, pos := "outright.go:96", after := #[{ on := 7, ground := Ground.guard }], guard := some (7, true) }) (v := undef) rfl (by kernel_rfl) (by kernel_rfl) (by kernel_rfl) (fun _ _ _ h => h) (Or.inr ⟨by rfl, rfl⟩) (by assumption) ?_
              simp only [Act.put, List.setIfInBounds_toArray, List.set_cons_zero, List.set_cons_succ]
              refine wpAnyH_take (i := 9) (oi := { dst := some 94, op := Op.call { callee := Callee.value (Operand.func 13), args := #[Operand.tmp 93], argTypes := #[24] }, type := 26, pos := "outright.go:96", after := #[{ on := 8, ground := Ground.data }, { on := 7, ground := Ground.chain }, { on := 7, ground := Ground.guard }], guard := some (7, true) }) (v := undef) rfl (by kernel_rfl) (by kernel_rfl) (by kernel_rfl) (fun _ _ _ h => h) (Or.inr ⟨by rfl, rfl⟩) (by assumption) ?_
              simp only [Act.put, List.setIfInBounds_toArray, List.set_cons_zero, List.set_cons_succ]
              refine wpAnyH_take (i := 10) (oi := { dst := some 95, op := Op.binOp BinOp.eql 26 (Operand.tmp 94) (Operand.const (Value.int IntKind.i64 0)) 26, type := 4, pos := "outright.go:96", after := #[{ on := 9, ground := Ground.data }, { on := 7, ground := Ground.guard }], guard := some (7, true) }) (v := undef) rfl (by kernel_rfl) (by kernel_rfl) (by kernel_rfl) (fun _ _ _ h => h) (Or.inr ⟨by rfl, rfl⟩) (by assumption) ?_
              simp only [Act.put, List.setIfInBounds_toArray, List.set_cons_zero, List.set_cons_succ]
              refine wpAnyH_take (i := 11) (oi := { dst := some 96, op := Op.pick (Operand.tmp 92) (Operand.tmp 95) (Operand.const (Value.bool false)), type := 4, pos := "outright.go:96", after := #[{ on := 7, ground := Ground.data }, { on := 10, ground := Ground.data }, { on := 2, ground := Ground.guard }], guard := some (2, false) }) (v := undef) rfl (by kernel_rfl) (by kernel_rfl) (by kernel_rfl) (fun _ _ _ h => h) (Or.inr ⟨by rfl, rfl⟩) (by assumption) ?_
              simp only [Act.put, List.setIfInBounds_toArray, List.set_cons_zero, List.set_cons_succ]
              refine wpAnyH_take (i := 12) (oi := { dst := some 97, op := Op.move (Operand.tmp 96), type := 4, pos := "outright.go:96", after := #[{ on := 11, ground := Ground.data }, { on := 9, ground := Ground.chain }, { on := 2, ground := Ground.guard }], guard := some (2, false) }) (v := undef) rfl (by kernel_rfl) (by kernel_rfl) (by kernel_rfl) (fun _ _ _ h => h) (Or.inr ⟨by rfl, rfl⟩) (by assumption) ?_
              simp only [Act.put, List.setIfInBounds_toArray, List.set_cons_zero, List.set_cons_succ]
              refine wpAnyH_take (i := 13) (oi := { dst := some 98, op := Op.load 24 (Operand.tmp 11), type := 24, pos := "outright.go:96", after := #[{ on := 12, ground := Ground.guard }], guard := some (12, true) }) (v := undef) rfl (by kernel_rfl) (by kernel_rfl) (by kernel_rfl) (fun _ _ _ h => h) (Or.inr ⟨by rfl, rfl⟩) (by assumption) ?_
              simp only [Act.put, List.setIfInBounds_toArray, List.set_cons_zero, List.set_cons_succ]
              refine wpAnyH_take (i := 14) (oi := { dst := some 99, op := Op.call { callee := Callee.value (Operand.func 14), args := #[Operand.tmp 98], argTypes := #[24] }, type := 24, pos := "outright.go:96", after := #[{ on := 13, ground := Ground.data }, { on := 12, ground := Ground.chain }, { on := 12, ground := Ground.guard }], guard := some (12, true) }) (v := undef) rfl (by kernel_rfl) (by kernel_rfl) (by kernel_rfl) (fun _ _ _ h => h) (Or.inr ⟨by rfl, rfl⟩) (by assumption) ?_
              simp only [Act.put, List.setIfInBounds_toArray, List.set_cons_zero, List.set_cons_succ]
              refine wpAnyH_take (i := 15) (oi := { dst := some 100, op := Op.load 24 (Operand.tmp 11), type := 24, pos := "outright.go:96", after := #[{ on := 12, ground := Ground.guard }], guard := some (12, true) }) (v := undef) rfl (by kernel_rfl) (by kernel_rfl) (by kernel_rfl) (fun _ _ _ h => h) (Or.inr ⟨by rfl, rfl⟩) (by assumption) ?_
              simp only [Act.put, List.setIfInBounds_toArray, List.set_cons_zero, List.set_cons_succ]
              refine wpAnyH_take (i := 16) (oi := { dst := some 101, op := Op.binOp BinOp.eql 24 (Operand.tmp 99) (Operand.tmp 100) 24, type := 4, pos := "outright.go:96", after := #[{ on := 14, ground := Ground.data }, { on := 15, ground := Ground.data }, { on := 12, ground := Ground.guard }], guard := some (12, true) }) (v := undef) rfl (by kernel_rfl) (by kernel_rfl) (by kernel_rfl) (fun _ _ _ h => h) (Or.inr ⟨by rfl, rfl⟩) (by assumption) ?_
              simp only [Act.put, List.setIfInBounds_toArray, List.set_cons_zero, List.set_cons_succ]
              refine wpAnyH_take (i := 17) (oi := { dst := some 102, op := Op.pick (Operand.tmp 97) (Operand.tmp 101) (Operand.const (Value.bool false)), type := 4, pos := "outright.go:96", after := #[{ on := 12, ground := Ground.data }, { on := 16, ground := Ground.data }, { on := 2, ground := Ground.guard }], guard := some (2, false) }) (v := undef) rfl (by kernel_rfl) (by kernel_rfl) (by kernel_rfl) (fun _ _ _ h => h) (Or.inr ⟨by rfl, rfl⟩) (by assumption) ?_
              simp only [Act.put, List.setIfInBounds_toArray, List.set_cons_zero, List.set_cons_succ]
              refine wpAnyH_take (i := 18) (oi := { dst := some 103, op := Op.pick (Operand.tmp 87) (Operand.const (Value.bool true)) (Operand.tmp 102), type := 4, pos := "outright.go:96", after := #[{ on := 2, ground := Ground.data }, { on := 17, ground := Ground.data }], guard := none }) (v := ?_) rfl (by kernel_rfl) (by kernel_rfl) (by kernel_rfl) (fun _ _ _ h => h) (Or.inl ⟨by rfl, ?_⟩) (by assumption) ?_
              rotate_left
              · intro W hSw
                clear hSw
                go_simp
                try with_reducible rfl
              simp only [Act.put, List.setIfInBounds_toArray, List.set_cons_zero, List.set_cons_succ]
              refine wpAnyH_take (i := 19) (oi := { dst := some 104, op := Op.move (Operand.tmp 103), type := 4, pos := "outright.go:96", after := #[{ on := 18, ground := Ground.data }, { on := 14, ground := Ground.chain }], guard := none }) (v := ?_) rfl (by kernel_rfl) (by kernel_rfl) (by kernel_rfl) (fun _ _ _ h => h) (Or.inl ⟨by rfl, ?_⟩) (by assumption) ?_
              rotate_left
              · intro W hSw
                clear hSw
                go_simp
                try with_reducible rfl
              simp only [Act.put, List.setIfInBounds_toArray, List.set_cons_zero, List.set_cons_succ]
              refine wpAnyH_take (i := 20) (oi := { dst := some 105, op := Op.move (Operand.tmp 14), type := 26, pos := "outright.go:96", after := #[{ on := 19, ground := Ground.guard }], guard := some (19, true) }) (v := ?_) rfl (by kernel_rfl) (by kernel_rfl) (by kernel_rfl) (fun _ _ _ h => h) (Or.inl ⟨by rfl, ?_⟩) (by assumption) ?_
              rotate_left
              · intro W hSw
                clear hSw
                go_simp
                try with_reducible rfl
              simp only [Act.put, List.setIfInBounds_toArray, List.set_cons_zero, List.set_cons_succ]
              refine wpAnyH_take (i := 21) (oi := { dst := some 106, op := Op.binOp BinOp.neq 26 (Operand.tmp 105) (Operand.const (Value.int IntKind.i64 0)) 26, type := 4, pos := "outright.go:96", after := #[{ on := 20, ground := Ground.data }, { on := 19, ground := Ground.guard }], guard := some (19, true) }) (v := ?_) rfl (by kernel_rfl) (by kernel_rfl) (by kernel_rfl) (fun _ _ _ h => h) (Or.inl ⟨by rfl, ?_⟩) (by assumption) ?_
              rotate_left
              · intro W hSw
                clear hSw
                go_simp
                try with_reducible rfl
              simp only [Act.put, List.setIfInBounds_toArray, List.set_cons_zero, List.set_cons_succ]
              refine wpAnyH_take (i := 22) (oi := { dst := some 107, op := Op.move (Operand.tmp 106), type := 4, pos := "outright.go:96", after := #[{ on := 21, ground := Ground.data }, { on := 19, ground := Ground.chain }, { on := 19, ground := Ground.guard }], guard := some (19, true) }) (v := ?_) rfl (by kernel_rfl) (by kernel_rfl) (by kernel_rfl) (fun _ _ _ h => h) (Or.inl ⟨by rfl, ?_⟩) (by assumption) ?_
              rotate_left
              · intro W hSw
                clear hSw
                go_simp
                try with_reducible rfl
              simp only [Act.put, List.setIfInBounds_toArray, List.set_cons_zero, List.set_cons_succ]
              refine wpAnyH_take (i := 23) (oi := { dst := some 108, op := Op.load 37 (Operand.tmp 13), type := 37, pos := "outright.go:96", after := #[{ on := 22, ground := Ground.guard }], guard := some (22, false) }) (v := ?_) rfl (by kernel_rfl) (by kernel_rfl) (by kernel_rfl) (fun _ _ _ h => h) (Or.inl ⟨by rfl, ?_⟩) (by assumption) ?_
              rotate_left
              · intro W hSw
                have k0 := (HDB.out.later hSw).cell 0
                have k1 := (HDB.out.later hSw).cell 1
                have k2 := (HDB.out.later hSw).cell 2
                have k3 := (HDB.out.later hSw).cell 3
                simp only [List.getElem?_toArray, List.getElem?_cons_zero, List.getElem?_cons_succ] at k0 k1 k2 k3
                go_simp
                try with_reducible rfl
              simp only [Act.put, List.setIfInBounds_toArray, List.set_cons_zero, List.set_cons_succ]
              refine wpAnyH_take (i := 25) (oi := { dst := some 110, op := Op.move (Operand.tmp 2), type := 9, pos := "outright.go:96", after := #[{ on := 22, ground := Ground.guard }], guard := some (22, false) }) (v := ?_) rfl (by kernel_rfl) (by kernel_rfl) (by kernel_rfl) (fun _ _ _ h => h) (Or.inl ⟨by rfl, ?_⟩) (by assumption) ?_
              rotate_left
              · intro W hSw
                clear hSw
                go_simp
                try with_reducible rfl
              simp only [Act.put, List.setIfInBounds_toArray, List.set_cons_zero, List.set_cons_succ]
              refine wpAnyH_ready (rs := [24]) (by kernel_rfl) (by simp) (AllReadyH.cons (o := { dst := some 109, op := Op.call { callee := Callee.value (Operand.func 22), args := #[Operand.tmp 108], argTypes := #[37] }, type := 9, pos := "outright.go:96", after := #[{ on := 23, ground := Ground.data }, { on := 22, ground := Ground.chain }, { on := 22, ground := Ground.guard }], guard := some (22, false) }) rfl (fun K hK => ?_) AllReadyH.nil)
              have HCL := Lib.hid (HTE.out _ HH.out)
              go_simp
              refine HCL.out.mono ?_
              rintro e Wa ⟨rfl, hb⟩
              replace HH := Lib.hid (stepB HH.out hb)
              clear hb HCL hHeld
              refine hK.out _ _ HH.out (fun hHeld => ?_)
              clear hK K
              refine wpAnyH_take (i := 26) (oi := { dst := some 111, op := Op.binOp BinOp.eql 9 (Operand.tmp 109) (Operand.tmp 110) 9, type := 4, pos := "outright.go:96", after := #[{ on := 24, ground := Ground.data }, { on := 25, ground := Ground.data }, { on := 22, ground := Ground.guard }], guard := some (22, false) }) (v := ?_) rfl (by kernel_rfl) (by kernel_rfl) (by kernel_rfl) (fun _ _ _ h => h) (Or.inl ⟨by rfl, ?_⟩) (by assumption) ?_
              rotate_left
              · intro W hSw
                clear hSw
                have qs2 := qs
                go_simp
                try with_reducible rfl
              simp only [Act.put, List.setIfInBounds_toArray, List.set_cons_zero, List.set_cons_succ]
              refine wpAnyH_take (i := 27) (oi := { dst := some 112, op := Op.pick (Operand.tmp 107) (Operand.const (Value.bool true)) (Operand.tmp 111), type := 4, pos := "outright.go:96", after := #[{ on := 22, ground := Ground.data }, { on := 26, ground := Ground.data }, { on := 19, ground := Ground.guard }], guard := some (19, true) }) (v := ?_) rfl (by kernel_rfl) (by kernel_rfl) (by kernel_rfl) (fun _ _ _ h => h) (Or.inl ⟨by rfl, ?_⟩) (by assumption) ?_
              rotate_left
              · intro W hSw
                clear hSw
                go_simp
                try with_reducible rfl
              simp only [Act.put, List.setIfInBounds_toArray, List.set_cons_zero, List.set_cons_succ]
              refine wpAnyH_take (i := 28) (oi := { dst := some 113, op := Op.pick (Operand.tmp 104) (Operand.tmp 112) (Operand.const (Value.bool false)), type := 4, pos := "outright.go:96", after := #[{ on := 19, ground := Ground.data }, { on := 27, ground := Ground.data }], guard := none }) (v := ?_) rfl (by kernel_rfl) (by kernel_rfl) (by kernel_rfl) (fun _ _ _ h => h) (Or.inl ⟨by rfl, ?_⟩) (by assumption) ?_
              rotate_left
              · intro W hSw
                clear hSw
                go_simp
                try with_reducible rfl
              simp only [Act.put, List.setIfInBounds_toArray, List.set_cons_zero, List.set_cons_succ]
              refine wpAnyH_take (i := 29) (oi := { dst := some 114, op := Op.move (Operand.tmp 113), type := 4, pos := "outright.go:96", after := #[{ on := 28, ground := Ground.data }, { on := 24, ground := Ground.chain }], guard := none }) (v := ?_) rfl (by kernel_rfl) (by kernel_rfl) (by kernel_rfl) (fun _ _ _ h => h) (Or.inl ⟨by rfl, ?_⟩) (by assumption) ?_
              rotate_left
              · intro W hSw
                clear hSw
                go_simp
                try with_reducible rfl
              simp only [Act.put, List.setIfInBounds_toArray, List.set_cons_zero, List.set_cons_succ]
              refine wpAnyH_take (i := 30) (oi := { dst := some 115, op := Op.move (Operand.tmp 12), type := 26, pos := "outright.go:96", after := #[{ on := 29, ground := Ground.guard }], guard := some (29, true) }) (v := ?_) rfl (by kernel_rfl) (by kernel_rfl) (by kernel_rfl) (fun _ _ _ h => h) (Or.inl ⟨by rfl, ?_⟩) (by assumption) ?_
              rotate_left
              · intro W hSw
                clear hSw
                go_simp
                try with_reducible rfl
              simp only [Act.put, List.setIfInBounds_toArray, List.set_cons_zero, List.set_cons_succ]
              refine wpAnyH_take (i := 31) (oi := { dst := some 116, op := Op.binOp BinOp.neq 26 (Operand.tmp 115) (Operand.const (Value.int IntKind.i64 0)) 26, type := 4, pos := "outright.go:96", after := #[{ on := 30, ground := Ground.data }, { on := 29, ground := Ground.guard }], guard := some (29, true) }) (v := ?_) rfl (by kernel_rfl) (by kernel_rfl) (by kernel_rfl) (fun _ _ _ h => h) (Or.inl ⟨by rfl, ?_⟩) (by assumption) ?_
              rotate_left
              · intro W hSw
                clear hSw
                go_simp
                try with_reducible rfl
              simp only [Act.put, List.setIfInBounds_toArray, List.set_cons_zero, List.set_cons_succ]
              refine wpAnyH_take (i := 32) (oi := { dst := some 117, op := Op.move (Operand.tmp 116), type := 4, pos := "outright.go:96", after := #[{ on := 31, ground := Ground.data }, { on := 29, ground := Ground.chain }, { on := 29, ground := Ground.guard }], guard := some (29, true) }) (v := ?_) rfl (by kernel_rfl) (by kernel_rfl) (by kernel_rfl) (fun _ _ _ h => h) (Or.inl ⟨by rfl, ?_⟩) (by assumption) ?_
              rotate_left
              · intro W hSw
                clear hSw
                go_simp
                try with_reducible rfl
              simp only [Act.put, List.setIfInBounds_toArray, List.set_cons_zero, List.set_cons_succ]
              refine wpAnyH_take (i := 33) (oi := { dst := some 118, op := Op.move (Operand.tmp 14), type := 26, pos := "outright.go:96", after := #[{ on := 32, ground := Ground.guard }], guard := some (32, false) }) (v := undef) rfl (by kernel_rfl) (by kernel_rfl) (by kernel_rfl) (fun _ _ _ h => h) (Or.inr ⟨by rfl, rfl⟩) (by assumption) ?_
              simp only [Act.put, List.setIfInBounds_toArray, List.set_cons_zero, List.set_cons_succ]
              refine wpAnyH_take (i := 34) (oi := { dst := some 119, op := Op.binOp BinOp.neq 26 (Operand.tmp 118) (Operand.const (Value.int IntKind.i64 0)) 26, type := 4, pos := "outright.go:96", after := #[{ on := 33, ground := Ground.data }, { on := 32, ground := Ground.guard }], guard := some (32, false) }) (v := undef) rfl (by kernel_rfl) (by kernel_rfl) (by kernel_rfl) (fun _ _ _ h => h) (Or.inr ⟨by rfl, rfl⟩) (by assumption) ?_
              simp only [Act.put, List.setIfInBounds_toArray, List.set_cons_zero, List.set_cons_succ]
              refine wpAnyH_take (i := 35) (oi := { dst := some 120, op := Op.pick (Operand.tmp 117) (Operand.const (Value.bool true)) (Operand.tmp 119), type := 4, pos := "outright.go:96", after := #[{ on := 32, ground := Ground.data }, { on := 34, ground := Ground.data }, { on := 29, ground := Ground.guard }], guard := some (29, true) }) (v := ?_) rfl (by kernel_rfl) (by kernel_rfl) (by kernel_rfl) (fun _ _ _ h => h) (Or.inl ⟨by rfl, ?_⟩) (by assumption) ?_
              rotate_left
              · intro W hSw
                clear hSw
                go_simp
                try with_reducible rfl
              simp only [Act.put, List.setIfInBounds_toArray, List.set_cons_zero, List.set_cons_succ]
              refine wpAnyH_take (i := 36) (oi := { dst := some 121, op := Op.pick (Operand.tmp 114) (Operand.tmp 120) (Operand.const (Value.bool false)), type := 4, pos := "outright.go:96", after := #[{ on := 29, ground := Ground.data }, { on := 35, ground := Ground.data }], guard := none }) (v := ?_) rfl (by kernel_rfl) (by kernel_rfl) (by kernel_rfl) (fun _ _ _ h => h) (Or.inl ⟨by rfl, ?_⟩) (by assumption) ?_
              rotate_left
              · intro W hSw
                clear hSw
                go_simp
                try with_reducible rfl
              simp only [Act.put, List.setIfInBounds_toArray, List.set_cons_zero, List.set_cons_succ]
              refine wpAnyH_take (i := 37) (oi := { dst := some 6, op := Op.assign (Operand.tmp 121), type := 4, pos := "outright.go:96", after := #[{ on := 36, ground := Ground.data }, { on := 32, ground := Ground.chain }, { on := 0, ground := Ground.phase }, { on := 1, ground := Ground.phase }, { on := 2, ground := Ground.phase }, { on := 3, ground := Ground.phase }, { on := 4, ground := Ground.phase }, { on := 5, ground := Ground.phase }, { on := 6, ground := Ground.phase }, { on := 7, ground := Ground.phase }, { on := 8, ground := Ground.phase }, { on := 9, ground := Ground.phase }, { on := 10, ground := Ground.phase }, { on := 11, ground := Ground.phase }, { on := 12, ground := Ground.phase }, { on := 13, ground := Ground.phase }, { on := 14, ground := Ground.phase }, { on := 15, ground := Ground.phase }, { on := 16, ground := Ground.phase }, { on := 17, ground := Ground.phase }, { on := 18, ground := Ground.phase }, { on := 19, ground := Ground.phase }, { on := 20, ground := Ground.phase }, { on := 21, ground := Ground.phase }, { on := 22, ground := Ground.phase }, { on := 23, ground := Ground.phase }, { on := 24, ground := Ground.phase }, { on := 25, ground := Ground.phase }, { on := 26, ground := Ground.phase }, { on := 27, ground := Ground.phase }, { on := 28, ground := Ground.phase }, { on := 29, ground := Ground.phase }, { on := 30, ground := Ground.phase }, { on := 31, ground := Ground.phase }, { on := 32, ground := Ground.phase }, { on := 33, ground := Ground.phase }, { on := 34, ground := Ground.phase }, { on := 35, ground := Ground.phase }, { on := 36, ground := Ground.phase }], guard := none }) (v := ?_) rfl (by kernel_rfl) (by kernel_rfl) (by kernel_rfl) (fun _ _ _ h => h) (Or.inl ⟨by rfl, ?_⟩) (by assumption) ?_
              rotate_left
              · intro W hSw
                clear hSw
                go_simp
                try with_reducible rfl
              simp only [Act.put, List.setIfInBounds_toArray, List.set_cons_zero, List.set_cons_succ]
              clear HTE qs
              refine wpAnyH_done (by kernel_rfl) (NoPanic.normal ?_) _
              have HF := Lib.hid (stepB HB.out HH.out)
              clear hHeld HH
              go_wp2
              go_ret
              exact ⟨rfl, HF.out⟩
            · have hhe : he_ = 4 := by rw [← HHE.out]; unfold rdE; rw [if_neg ha]
              subst hhe
              clear ha HD HHE
              refine wpAnyH_take (i := 0) (oi := { dst := some 85, op := Op.move (Operand.tmp 12), type := 26, pos := "outright.go:96", after := #[], guard := none }) (v := ?_) rfl (by kernel_rfl) (by kernel_rfl) (by kernel_rfl) (fun _ _ _ h => h) (Or.inl ⟨by rfl, ?_⟩) (by assumption) ?_
              rotate_left
              · intro W hSw
                clear hSw
                go_simp
                try with_reducible rfl
              simp only [Act.put, List.setIfInBounds_toArray, List.set_cons_zero, List.set_cons_succ]
              refine wpAnyH_take (i := 1) (oi := { dst := some 86, op := Op.binOp BinOp.neq 26 (Operand.tmp 85) (Operand.const (Value.int IntKind.i64 0)) 26, type := 4, pos := "outright.go:96", after := #[{ on := 0, ground := Ground.data }], guard := none }) (v := ?_) rfl (by kernel_rfl) (by kernel_rfl) (by kernel_rfl) (fun _ _ _ h => h) (Or.inl ⟨by rfl, ?_⟩) (by assumption) ?_
              rotate_left
              · intro W hSw
                clear hSw
                go_simp
                try with_reducible rfl
              simp only [Act.put, List.setIfInBounds_toArray, List.set_cons_zero, List.set_cons_succ]
              refine wpAnyH_take (i := 2) (oi := { dst := some 87, op := Op.move (Operand.tmp 86), type := 4, pos := "outright.go:96", after := #[{ on := 1, ground := Ground.data }], guard := none }) (v := ?_) rfl (by kernel_rfl) (by kernel_rfl) (by kernel_rfl) (fun _ _ _ h => h) (Or.inl ⟨by rfl, ?_⟩) (by assumption) ?_
              rotate_left
              · intro W hSw
                clear hSw
                go_simp
                try with_reducible rfl
              simp only [Act.put, List.setIfInBounds_toArray, List.set_cons_zero, List.set_cons_succ]
              refine wpAnyH_take (i := 3) (oi := { dst := some 88, op := Op.load 24 (Operand.tmp 11), type := 24, pos := "outright.go:96", after := #[{ on := 2, ground := Ground.guard }], guard := some (2, false) }) (v := undef) rfl (by kernel_rfl) (by kernel_rfl) (by kernel_rfl) (fun _ _ _ h => h) (Or.inr ⟨by rfl, rfl⟩) (by assumption) ?_
              simp only [Act.put, List.setIfInBounds_toArray, List.set_cons_zero, List.set_cons_succ]
              refine wpAnyH_take (i := 4) (oi := { dst := some 89, op := Op.call { callee := Callee.value (Operand.func 12), args := #[Operand.tmp 88], argTypes := #[24] }, type := 9, pos := "outright.go:96", after := #[{ on := 3, ground := Ground.data }, { on := 2, ground := Ground.chain }, { on := 2, ground := Ground.guard }], guard := some (2, false) }) (v := undef) rfl (by kernel_rfl) (by kernel_rfl) (by kernel_rfl) (fun _ _ _ h => h) (Or.inr ⟨by rfl, rfl⟩) (by assumption) ?_
              simp only [Act.put, List.setIfInBounds_toArray, List.set_cons_zero, List.set_cons_succ]
              refine wpAnyH_take (i := 5) (oi := { dst := some 90, op := Op.move (Operand.tmp 2), type := 9, pos := "outright.go:96", after := #[{ on := 2, ground := Ground.guard }], guard := some (2, false) }) (v := undef) rfl (by kernel_rfl) (by kernel_rfl) (by kernel_rfl) (fun _ _ _ h => h) (Or.inr ⟨by rfl, rfl⟩) (by assumption) ?_
              simp only [Act.put, List.setIfInBounds_toArray, List.set_cons_zero, List.set_cons_succ]
              refine wpAnyH_take (i := 6) (oi := { dst := some 91, op := Op.binOp BinOp.eql 9 (Operand.tmp 89) (Operand.tmp 90) 9, type := 4, pos := "outright.go:96", after := #[{ on := 4, ground := Ground.data }, { on := 5, ground := Ground.data }, { on := 2, ground := Ground.guard }], guard := some (2, false) }) (v := undef) rfl (by kernel_rfl) (by kernel_rfl) (by kernel_rfl) (fun _ _ _ h => h) (Or.inr ⟨by rfl, rfl⟩) (by assumption) ?_
              simp only [Act.put, List.setIfInBounds_toArray, List.set_cons_zero, List.set_cons_succ]
              refine wpAnyH_take (i := 7) (oi := { dst := some 92, op := Op.move (Operand.tmp 91), type := 4, pos := "outright.go:96", after := #[{ on := 6, ground := Ground.data }, { on := 4, ground := Ground.chain }, { on := 2, ground := Ground.guard }], guard := some (2, false) }) (v := undef) rfl (by kernel_rfl) (by kernel_rfl) (by kernel_rfl) (fun _ _ _ h => h) (Or.inr ⟨by rfl, rfl⟩) (by assumption) ?_
              simp only [Act.put, List.setIfInBounds_toArray, List.set_cons_zero, List.set_cons_succ]
              refine wpAnyH_take (i := 8) (oi := { dst := some 93, op := Op.load 24 (Operand.tmp 11), type := 24, pos := "outright.go:96", after := #[{ on := 7, ground := Ground.guard }], guard := some (7, true) }) (v := undef) rfl (by kernel_rfl) (by kernel_rfl) (by kernel_rfl) (fun _ _ _ h => h) (Or.inr ⟨by rfl, rfl⟩) (by assumption) ?_
              simp only [Act.put, List.setIfInBounds_toArray, List.set_cons_zero, List.set_cons_succ]
              refine wpAnyH_take (i := 9) (oi := { dst := some 94, op := Op.call { callee := Callee.value (Operand.func 13), args := #[Operand.tmp 93], argTypes := #[24] }, type := 26, pos := "outright.go:96", after := #[{ on := 8, ground := Ground.data }, { on := 7, ground := Ground.chain }, { on := 7, ground := Ground.guard }], guard := some (7, true) }) (v := undef) rfl (by kernel_rfl) (by kernel_rfl) (by kernel_rfl) (fun _ _ _ h => h) (Or.inr ⟨by rfl, rfl⟩) (by assumption) ?_
              simp only [Act.put, List.setIfInBounds_toArray, List.set_cons_zero, List.set_cons_succ]
              refine wpAnyH_take (i := 10) (oi := { dst := some 95, op := Op.binOp BinOp.eql 26 (Operand.tmp 94) (Operand.const (Value.int IntKind.i64 0)) 26, type := 4, pos := "outright.go:96", after := #[{ on := 9, ground := Ground.data }, { on := 7, ground := Ground.guard }], guard := some (7, true) }) (v := undef) rfl (by kernel_rfl) (by kernel_rfl) (by kernel_rfl) (fun _ _ _ h => h) (Or.inr ⟨by rfl, rfl⟩) (by assumption) ?_
              simp only [Act.put, List.setIfInBounds_toArray, List.set_cons_zero, List.set_cons_succ]
              refine wpAnyH_take (i := 11) (oi := { dst := some 96, op := Op.pick (Operand.tmp 92) (Operand.tmp 95) (Operand.const (Value.bool false)), type := 4, pos := "outright.go:96", after := #[{ on := 7, ground := Ground.data }, { on := 10, ground := Ground.data }, { on := 2, ground := Ground.guard }], guard := some (2, false) }) (v := undef) rfl (by kernel_rfl) (by kernel_rfl) (by kernel_rfl) (fun _ _ _ h => h) (Or.inr ⟨by rfl, rfl⟩) (by assumption) ?_
              simp only [Act.put, List.setIfInBounds_toArray, List.set_cons_zero, List.set_cons_succ]
              refine wpAnyH_take (i := 12) (oi := { dst := some 97, op := Op.move (Operand.tmp 96), type := 4, pos := "outright.go:96", after := #[{ on := 11, ground := Ground.data }, { on := 9, ground := Ground.chain }, { on := 2, ground := Ground.guard }], guard := some (2, false) }) (v := undef) rfl (by kernel_rfl) (by kernel_rfl) (by kernel_rfl) (fun _ _ _ h => h) (Or.inr ⟨by rfl, rfl⟩) (by assumption) ?_
              simp only [Act.put, List.setIfInBounds_toArray, List.set_cons_zero, List.set_cons_succ]
              refine wpAnyH_take (i := 13) (oi := { dst := some 98, op := Op.load 24 (Operand.tmp 11), type := 24, pos := "outright.go:96", after := #[{ on := 12, ground := Ground.guard }], guard := some (12, true) }) (v := undef) rfl (by kernel_rfl) (by kernel_rfl) (by kernel_rfl) (fun _ _ _ h => h) (Or.inr ⟨by rfl, rfl⟩) (by assumption) ?_
              simp only [Act.put, List.setIfInBounds_toArray, List.set_cons_zero, List.set_cons_succ]
              refine wpAnyH_take (i := 14) (oi := { dst := some 99, op := Op.call { callee := Callee.value (Operand.func 14), args := #[Operand.tmp 98], argTypes := #[24] }, type := 24, pos := "outright.go:96", after := #[{ on := 13, ground := Ground.data }, { on := 12, ground := Ground.chain }, { on := 12, ground := Ground.guard }], guard := some (12, true) }) (v := undef) rfl (by kernel_rfl) (by kernel_rfl) (by kernel_rfl) (fun _ _ _ h => h) (Or.inr ⟨by rfl, rfl⟩) (by assumption) ?_
              simp only [Act.put, List.setIfInBounds_toArray, List.set_cons_zero, List.set_cons_succ]
              refine wpAnyH_take (i := 15) (oi := { dst := some 100, op := Op.load 24 (Operand.tmp 11), type := 24, pos := "outright.go:96", after := #[{ on := 12, ground := Ground.guard }], guard := some (12, true) }) (v := undef) rfl (by kernel_rfl) (by kernel_rfl) (by kernel_rfl) (fun _ _ _ h => h) (Or.inr ⟨by rfl, rfl⟩) (by assumption) ?_
              simp only [Act.put, List.setIfInBounds_toArray, List.set_cons_zero, List.set_cons_succ]
              refine wpAnyH_take (i := 16) (oi := { dst := some 101, op := Op.binOp BinOp.eql 24 (Operand.tmp 99) (Operand.tmp 100) 24, type := 4, pos := "outright.go:96", after := #[{ on := 14, ground := Ground.data }, { on := 15, ground := Ground.data }, { on := 12, ground := Ground.guard }], guard := some (12, true) }) (v := undef) rfl (by kernel_rfl) (by kernel_rfl) (by kernel_rfl) (fun _ _ _ h => h) (Or.inr ⟨by rfl, rfl⟩) (by assumption) ?_
              simp only [Act.put, List.setIfInBounds_toArray, List.set_cons_zero, List.set_cons_succ]
              refine wpAnyH_take (i := 17) (oi := { dst := some 102, op := Op.pick (Operand.tmp 97) (Operand.tmp 101) (Operand.const (Value.bool false)), type := 4, pos := "outright.go:96", after := #[{ on := 12, ground := Ground.data }, { on := 16, ground := Ground.data }, { on := 2, ground := Ground.guard }], guard := some (2, false) }) (v := undef) rfl (by kernel_rfl) (by kernel_rfl) (by kernel_rfl) (fun _ _ _ h => h) (Or.inr ⟨by rfl, rfl⟩) (by assumption) ?_
              simp only [Act.put, List.setIfInBounds_toArray, List.set_cons_zero, List.set_cons_succ]
              refine wpAnyH_take (i := 18) (oi := { dst := some 103, op := Op.pick (Operand.tmp 87) (Operand.const (Value.bool true)) (Operand.tmp 102), type := 4, pos := "outright.go:96", after := #[{ on := 2, ground := Ground.data }, { on := 17, ground := Ground.data }], guard := none }) (v := ?_) rfl (by kernel_rfl) (by kernel_rfl) (by kernel_rfl) (fun _ _ _ h => h) (Or.inl ⟨by rfl, ?_⟩) (by assumption) ?_
              rotate_left
              · intro W hSw
                clear hSw
                go_simp
                try with_reducible rfl
              simp only [Act.put, List.setIfInBounds_toArray, List.set_cons_zero, List.set_cons_succ]
              refine wpAnyH_take (i := 19) (oi := { dst := some 104, op := Op.move (Operand.tmp 103), type := 4, pos := "outright.go:96", after := #[{ on := 18, ground := Ground.data }, { on := 14, ground := Ground.chain }], guard := none }) (v := ?_) rfl (by kernel_rfl) (by kernel_rfl) (by kernel_rfl) (fun _ _ _ h => h) (Or.inl ⟨by rfl, ?_⟩) (by assumption) ?_
              rotate_left
              · intro W hSw
                clear hSw
                go_simp
                try with_reducible rfl
              simp only [Act.put, List.setIfInBounds_toArray, List.set_cons_zero, List.set_cons_succ]
              refine wpAnyH_take (i := 20) (oi := { dst := some 105, op := Op.move (Operand.tmp 14), type := 26, pos := "outright.go:96", after := #[{ on := 19, ground := Ground.guard }], guard := some (19, true) }) (v := ?_) rfl (by kernel_rfl) (by kernel_rfl) (by kernel_rfl) (fun _ _ _ h => h) (Or.inl ⟨by rfl, ?_⟩) (by assumption) ?_
              rotate_left
              · intro W hSw
                clear hSw
                go_simp
                try with_reducible rfl
              simp only [Act.put, List.setIfInBounds_toArray, List.set_cons_zero, List.set_cons_succ]
              refine wpAnyH_take (i := 21) (oi := { dst := some 106, op := Op.binOp BinOp.neq 26 (Operand.tmp 105) (Operand.const (Value.int IntKind.i64 0)) 26, type := 4, pos := "outright.go:96", after := #[{ on := 20, ground := Ground.data }, { on := 19, ground := Ground.guard }], guard := some (19, true) }) (v := ?_) rfl (by kernel_rfl) (by kernel_rfl) (by kernel_rfl) (fun _ _ _ h => h) (Or.inl ⟨by rfl, ?_⟩) (by assumption) ?_
              rotate_left
              · intro W hSw
                clear hSw
                go_simp
                try with_reducible rfl
              simp only [Act.put, List.setIfInBounds_toArray, List.set_cons_zero, List.set_cons_succ]
              refine wpAnyH_take (i := 22) (oi := { dst := some 107, op := Op.move (Operand.tmp 106), type := 4, pos := "outright.go:96", after := #[{ on := 21, ground := Ground.data }, { on := 19, ground := Ground.chain }, { on := 19, ground := Ground.guard }], guard := some (19, true) }) (v := ?_) rfl (by kernel_rfl) (by kernel_rfl) (by kernel_rfl) (fun _ _ _ h => h) (Or.inl ⟨by rfl, ?_⟩) (by assumption) ?_
              rotate_left
              · intro W hSw
                clear hSw
                go_simp
                try with_reducible rfl
              simp only [Act.put, List.setIfInBounds_toArray, List.set_cons_zero, List.set_cons_succ]
              refine wpAnyH_take (i := 23) (oi := { dst := some 108, op := Op.load 37 (Operand.tmp 13), type := 37, pos := "outright.go:96", after := #[{ on := 22, ground := Ground.guard }], guard := some (22, false) }) (v := undef) rfl (by kernel_rfl) (by kernel_rfl) (by kernel_rfl) (fun _ _ _ h => h) (Or.inr ⟨by rfl, rfl⟩) (by assumption) ?_
              simp only [Act.put, List.setIfInBounds_toArray, List.set_cons_zero, List.set_cons_succ]
              refine wpAnyH_take (i := 24) (oi := { dst := some 109, op := Op.call { callee := Callee.value (Operand.func 22), args := #[Operand.tmp 108], argTypes := #[37] }, type := 9, pos := "outright.go:96", after := #[{ on := 23, ground := Ground.data }, { on := 22, ground := Ground.chain }, { on := 22, ground := Ground.guard }], guard := some (22, false) }) (v := undef) rfl (by kernel_rfl) (by kernel_rfl) (by kernel_rfl) (fun _ _ _ h => h) (Or.inr ⟨by rfl, rfl⟩) (by assumption) ?_
              simp only [Act.put, List.setIfInBounds_toArray, List.set_cons_zero, List.set_cons_succ]
              refine wpAnyH_take (i := 25) (oi := { dst := some 110, op := Op.move (Operand.tmp 2), type := 9, pos := "outright.go:96", after := #[{ on := 22, ground := Ground.guard }], guard := some (22, false) }) (v := undef) rfl (by kernel_rfl) (by kernel_rfl) (by kernel_rfl) (fun _ _ _ h => h) (Or.inr ⟨by rfl, rfl⟩) (by assumption) ?_
              simp only [Act.put, List.setIfInBounds_toArray, List.set_cons_zero, List.set_cons_succ]
              refine wpAnyH_take (i := 26) (oi := { dst := some 111, op := Op.binOp BinOp.eql 9 (Operand.tmp 109) (Operand.tmp 110) 9, type := 4, pos := "outright.go:96", after := #[{ on := 24, ground := Ground.data }, { on := 25, ground := Ground.data }, { on := 22, ground := Ground.guard }], guard := some (22, false) }) (v := undef) rfl (by kernel_rfl) (by kernel_rfl) (by kernel_rfl) (fun _ _ _ h => h) (Or.inr ⟨by rfl, rfl⟩) (by assumption) ?_
              simp only [Act.put, List.setIfInBounds_toArray, List.set_cons_zero, List.set_cons_succ]
              refine wpAnyH_take (i := 27) (oi := { dst := some 112, op := Op.pick (Operand.tmp 107) (Operand.const (Value.bool true)) (Operand.tmp 111), type := 4, pos := "outright.go:96", after := #[{ on := 22, ground := Ground.data }, { on := 26, ground := Ground.data }, { on := 19, ground := Ground.guard }], guard := some (19, true) }) (v := ?_) rfl (by kernel_rfl) (by kernel_rfl) (by kernel_rfl) (fun _ _ _ h => h) (Or.inl ⟨by rfl, ?_⟩) (by assumption) ?_
              rotate_left
              · intro W hSw
                clear hSw
                go_simp
                try with_reducible rfl
              simp only [Act.put, List.setIfInBounds_toArray, List.set_cons_zero, List.set_cons_succ]
              refine wpAnyH_take (i := 28) (oi := { dst := some 113, op := Op.pick (Operand.tmp 104) (Operand.tmp 112) (Operand.const (Value.bool false)), type := 4, pos := "outright.go:96", after := #[{ on := 19, ground := Ground.data }, { on := 27, ground := Ground.data }], guard := none }) (v := ?_) rfl (by kernel_rfl) (by kernel_rfl) (by kernel_rfl) (fun _ _ _ h => h) (Or.inl ⟨by rfl, ?_⟩) (by assumption) ?_
              rotate_left
              · intro W hSw
                clear hSw
                go_simp
                try with_reducible rfl
              simp only [Act.put, List.setIfInBounds_toArray, List.set_cons_zero, List.set_cons_succ]
              refine wpAnyH_take (i := 29) (oi := { dst := some 114, op := Op.move (Operand.tmp 113), type := 4, pos := "outright.go:96", after := #[{ on := 28, ground := Ground.data }, { on := 24, ground := Ground.chain }], guard := none }) (v := ?_) rfl (by kernel_rfl) (by kernel_rfl) (by kernel_rfl) (fun _ _ _ h => h) (Or.inl ⟨by rfl, ?_⟩) (by assumption) ?_
              rotate_left
              · intro W hSw
                clear hSw
                go_simp
                try with_reducible rfl
              simp only [Act.put, List.setIfInBounds_toArray, List.set_cons_zero, List.set_cons_succ]
              refine wpAnyH_take (i := 30) (oi := { dst := some 115, op := Op.move (Operand.tmp 12), type := 26, pos := "outright.go:96", after := #[{ on := 29, ground := Ground.guard }], guard := some (29, true) }) (v := ?_) rfl (by kernel_rfl) (by kernel_rfl) (by kernel_rfl) (fun _ _ _ h => h) (Or.inl ⟨by rfl, ?_⟩) (by assumption) ?_
              rotate_left
              · intro W hSw
                clear hSw
                go_simp
                try with_reducible rfl
              simp only [Act.put, List.setIfInBounds_toArray, List.set_cons_zero, List.set_cons_succ]
              refine wpAnyH_take (i := 31) (oi := { dst := some 116, op := Op.binOp BinOp.neq 26 (Operand.tmp 115) (Operand.const (Value.int IntKind.i64 0)) 26, type := 4, pos := "outright.go:96", after := #[{ on := 30, ground := Ground.data }, { on := 29, ground := Ground.guard }], guard := some (29, true) }) (v := ?_) rfl (by kernel_rfl) (by kernel_rfl) (by kernel_rfl) (fun _ _ _ h => h) (Or.inl ⟨by rfl, ?_⟩) (by assumption) ?_
              rotate_left
              · intro W hSw
                clear hSw
                go_simp
                try with_reducible rfl
              simp only [Act.put, List.setIfInBounds_toArray, List.set_cons_zero, List.set_cons_succ]
              refine wpAnyH_take (i := 32) (oi := { dst := some 117, op := Op.move (Operand.tmp 116), type := 4, pos := "outright.go:96", after := #[{ on := 31, ground := Ground.data }, { on := 29, ground := Ground.chain }, { on := 29, ground := Ground.guard }], guard := some (29, true) }) (v := ?_) rfl (by kernel_rfl) (by kernel_rfl) (by kernel_rfl) (fun _ _ _ h => h) (Or.inl ⟨by rfl, ?_⟩) (by assumption) ?_
              rotate_left
              · intro W hSw
                clear hSw
                go_simp
                try with_reducible rfl
              simp only [Act.put, List.setIfInBounds_toArray, List.set_cons_zero, List.set_cons_succ]
              refine wpAnyH_take (i := 33) (oi := { dst := some 118, op := Op.move (Operand.tmp 14), type := 26, pos := "outright.go:96", after := #[{ on := 32, ground := Ground.guard }], guard := some (32, false) }) (v := undef) rfl (by kernel_rfl) (by kernel_rfl) (by kernel_rfl) (fun _ _ _ h => h) (Or.inr ⟨by rfl, rfl⟩) (by assumption) ?_
              simp only [Act.put, List.setIfInBounds_toArray, List.set_cons_zero, List.set_cons_succ]
              refine wpAnyH_take (i := 34) (oi := { dst := some 119, op := Op.binOp BinOp.neq 26 (Operand.tmp 118) (Operand.const (Value.int IntKind.i64 0)) 26, type := 4, pos := "outright.go:96", after := #[{ on := 33, ground := Ground.data }, { on := 32, ground := Ground.guard }], guard := some (32, false) }) (v := undef) rfl (by kernel_rfl) (by kernel_rfl) (by kernel_rfl) (fun _ _ _ h => h) (Or.inr ⟨by rfl, rfl⟩) (by assumption) ?_
              simp only [Act.put, List.setIfInBounds_toArray, List.set_cons_zero, List.set_cons_succ]
              refine wpAnyH_take (i := 35) (oi := { dst := some 120, op := Op.pick (Operand.tmp 117) (Operand.const (Value.bool true)) (Operand.tmp 119), type := 4, pos := "outright.go:96", after := #[{ on := 32, ground := Ground.data }, { on := 34, ground := Ground.data }, { on := 29, ground := Ground.guard }], guard := some (29, true) }) (v := ?_) rfl (by kernel_rfl) (by kernel_rfl) (by kernel_rfl) (fun _ _ _ h => h) (Or.inl ⟨by rfl, ?_⟩) (by assumption) ?_
              rotate_left
              · intro W hSw
                clear hSw
                go_simp
                try with_reducible rfl
              simp only [Act.put, List.setIfInBounds_toArray, List.set_cons_zero, List.set_cons_succ]
              refine wpAnyH_take (i := 36) (oi := { dst := some 121, op := Op.pick (Operand.tmp 114) (Operand.tmp 120) (Operand.const (Value.bool false)), type := 4, pos := "outright.go:96", after := #[{ on := 29, ground := Ground.data }, { on := 35, ground := Ground.data }], guard := none }) (v := ?_) rfl (by kernel_rfl) (by kernel_rfl) (by kernel_rfl) (fun _ _ _ h => h) (Or.inl ⟨by rfl, ?_⟩) (by assumption) ?_
              rotate_left
              · intro W hSw
                clear hSw
                go_simp
                try with_reducible rfl
              simp only [Act.put, List.setIfInBounds_toArray, List.set_cons_zero, List.set_cons_succ]
              refine wpAnyH_take (i := 37) (oi := { dst := some 6, op := Op.assign (Operand.tmp 121), type := 4, pos := "outright.go:96", after := #[{ on := 36, ground := Ground.data }, { on := 32, ground := Ground.chain }, { on := 0, ground := Ground.phase }, { on := 1, ground := Ground.phase }, { on := 2, ground := Ground.phase }, { on := 3, ground := Ground.phase }, { on := 4, ground := Ground.phase }, { on := 5, ground := Ground.phase }, { on := 6, ground := Ground.phase }, { on := 7, ground := Ground.phase }, { on := 8, ground := Ground.phase }, { on := 9, ground := Ground.phase }, { on := 10, ground := Ground.phase }, { on := 11, ground := Ground.phase }, { on := 12, ground := Ground.phase }, { on := 13, ground := Ground.phase }, { on := 14, ground := Ground.phase }, { on := 15, ground := Ground.phase }, { on := 16, ground := Ground.phase }, { on := 17, ground := Ground.phase }, { on := 18, ground := Ground.phase }, { on := 19, ground := Ground.phase }, { on := 20, ground := Ground.phase }, { on := 21, ground := Ground.phase }, { on := 22, ground := Ground.phase }, { on := 23, ground := Ground.phase }, { on := 24, ground := Ground.phase }, { on := 25, ground := Ground.phase }, { on := 26, ground := Ground.phase }, { on := 27, ground := Ground.phase }, { on := 28, ground := Ground.phase }, { on := 29, ground := Ground.phase }, { on := 30, ground := Ground.phase }, { on := 31, ground := Ground.phase }, { on := 32, ground := Ground.phase }, { on := 33, ground := Ground.phase }, { on := 34, ground := Ground.phase }, { on := 35, ground := Ground.phase }, { on := 36, ground := Ground.phase }], guard := none }) (v := ?_) rfl (by kernel_rfl) (by kernel_rfl) (by kernel_rfl) (fun _ _ _ h => h) (Or.inl ⟨by rfl, ?_⟩) (by assumption) ?_
              rotate_left
              · intro W hSw
                clear hSw
                go_simp
                try with_reducible rfl
              simp only [Act.put, List.setIfInBounds_toArray, List.set_cons_zero, List.set_cons_succ]
              refine wpAnyH_done (by kernel_rfl) (NoPanic.normal ?_) _
              have HF := Lib.hid (stepB HB.out HH.out)
              clear hHeld HH
              go_wp2
              go_ret
              exact ⟨rfl, HF.out⟩
end Go.Proofs.YtkgdmdcnhbaidaaDoor
