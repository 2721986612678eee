/- CallOne: its walk. -/
import Derived.Test.YtkgdmdcnhbaidaaDoorR5
namespace Go.Proofs.YtkgdmdcnhbaidaaDoor
open Go.ChangeShapes Go.WideShapes Go.ChangeAt Go.RowKit
set_option linter.unusedVariables false
set_option linter.unusedSimpArgs false

theorem Blk.rslL {α : Type} {enc : α → List Value} {k g t : Nat} {W : World} {L : List α} (hk : ∀ x, (enc x).length = k) (h : Blk W g (rv enc L).toArray t) : RSl enc k W (some ⟨g, 0, none⟩) L.length L :=
  ⟨rfl, fun _ => ⟨g, 0, rfl, h.lt, fun j x hx i hi => by
    have h1 := h.cell (0 + j * k + i)
    rw [h1, List.getElem?_toArray, Nat.zero_add]
    exact rv_at hk L j i x hx hi⟩⟩
theorem co_in {x : Cl} {l : List Cl} (h : COk x) (hl : decide (9000 ≤ lgS l) = false) (hm : x ∈ l) : ClOk x ∧ (joinW (showL x)).size ≤ 90000 :=
  cl_ok (l := l) ⟨h.1, h.2.1, h.2.2.1, h.2.2.2.1⟩ (by have h := of_decide_eq_false hl; exact Int.not_le.1 h) hm
theorem ao_in {a : Am} {l : List Am} (he : inI a.1.1) (hl : decide (9000 ≤ wdS 0 l) = false) (hm : a ∈ l) : AsOk a.1 :=
  as_ok he (wd_lt l 0 (Int.le_refl _) (by have h := of_decide_eq_false hl; exact Int.not_le.1 h) a hm)
theorem show_cln (x : Cl) : showL (clnC x) = showL x := by
  have e : (clnC x).1 = x.1 := rfl
  unfold showL
  rw [showN_eq, showN_eq, e]
  unfold clnC clnN
  simp only
  generalize nmK x.1 = n
  obtain ⟨a, b, c, d, e, f⟩ := n
  cases a <;> cases b <;> cases c <;> cases d <;> cases e <;> cases f <;> rfl
theorem showP_cln (x : Cl) : showP (clnC x) = showP x := by unfold showP; rw [may_cln, show_cln]
theorem one_calls {x y : Cl} (hx : COk x) (hy : COk y) (hmx : mayC x = true) (hmy : mayC y = true) : decide (showP x = showP y) = sameC x y := by
  unfold sameC
  rw [Bool.eq_iff_iff, decide_eq_true_eq, decide_eq_true_eq]
  constructor
  · intro h
    have h1 := (parse_show hmx hx.2.2.1 hx.2.2.2.1 hx.2.1).2
    have h2 := (parse_show hmy hy.2.2.1 hy.2.2.2.1 hy.2.1).2
    rw [← h1, ← h2, h]
  · intro h
    rw [← showP_cln x, ← showP_cln y, h]
theorem one_ans {a b : As} (ha : inI a.1) (hb : inI b.1) : decide (telT a = telT b) = decide (a = b) := by
  rw [Bool.eq_iff_iff, decide_eq_true_eq, decide_eq_true_eq]
  constructor
  · intro h
    rw [← (read_tell a ha).2, ← (read_tell b hb).2, h]
  · intro h
    rw [h]
theorem seq_dec (x y : ByteArray) : (x.toList == y.toList) = decide (x = y) := by
  by_cases h : x = y
  · rw [seq_yes h, decide_eq_true h]
  · rw [seq_no h, decide_eq_false h]
set_option maxRecDepth 100000 in
set_option maxHeartbeats 16000000 in
theorem one_walk (kn : Nat) (tx : Int) (ke en va : ByteArray) (li : Int) (eg : Nat) (kn2 : Nat) (tx2 : Int) (ke2 en2 va2 : ByteArray) (li2 : Int) (eg2 : Nat) (er : Int) (fo : Bool) (av : ByteArray) (ps : List Pr) (A : Option Addr) (n c : Nat) (er2 : Int) (fo2 : Bool) (av2 : ByteArray) (ps2 : List Pr) (A2 : Option Addr) (n2 c2 : Nat) (W : World) (hx : COk (kn, tx, ke, en, va, li, eg)) (hy : COk (kn2, tx2, ke2, en2, va2, li2, eg2)) (ha : inI er) (hr : RSl pvc 2 W A n ps ∧ n ≤ maxLen) (ha2 : inI er2) (hr2 : RSl pvc 2 W A2 n2 ps2 ∧ n2 ≤ maxLen) (hg : Gl W) :
    Calls Tryd.prog 6 #[.agg #[.int .u8 (kn : Int), .int .i64 tx, .string ke, .string en, .string va, .int .i64 li, .int .u8 (eg : Int)], .agg #[.int .u8 (kn2 : Int), .int .i64 tx2, .string ke2, .string en2, .string va2, .int .i64 li2, .int .u8 (eg2 : Int)], .agg #[.int .i64 er, .bool fo, .string av, .slice A n c], .agg #[.int .i64 er2, .bool fo2, .string av2, .slice A2 n2 c2]] W fun e w' => e = .returned (.bool true) ∧ Below W.heap.size W w' := by
  have b1 : Below W.heap.size W (W.alloc (.cells #[.int .u8 (kn : Int), .int .i64 tx, .string ke, .string en, .string va, .int .i64 li, .int .u8 (eg : Int)] 24)) := (Below.refl _ _).alloc (Nat.le_refl _) _
  have b2 : Below (W.alloc (.cells #[.int .u8 (kn : Int), .int .i64 tx, .string ke, .string en, .string va, .int .i64 li, .int .u8 (eg : Int)] 24)).heap.size (W.alloc (.cells #[.int .u8 (kn : Int), .int .i64 tx, .string ke, .string en, .string va, .int .i64 li, .int .u8 (eg : Int)] 24)) ((W.alloc (.cells #[.int .u8 (kn : Int), .int .i64 tx, .string ke, .string en, .string va, .int .i64 li, .int .u8 (eg : Int)] 24)).alloc (.cells #[.int .u8 (kn2 : Int), .int .i64 tx2, .string ke2, .string en2, .string va2, .int .i64 li2, .int .u8 (eg2 : Int)] 24)) := (Below.refl _ _).alloc (Nat.le_refl _) _
  have b3 : Below ((W.alloc (.cells #[.int .u8 (kn : Int), .int .i64 tx, .string ke, .string en, .string va, .int .i64 li, .int .u8 (eg : Int)] 24)).alloc (.cells #[.int .u8 (kn2 : Int), .int .i64 tx2, .string ke2, .string en2, .string va2, .int .i64 li2, .int .u8 (eg2 : Int)] 24)).heap.size ((W.alloc (.cells #[.int .u8 (kn : Int), .int .i64 tx, .string ke, .string en, .string va, .int .i64 li, .int .u8 (eg : Int)] 24)).alloc (.cells #[.int .u8 (kn2 : Int), .int .i64 tx2, .string ke2, .string en2, .string va2, .int .i64 li2, .int .u8 (eg2 : Int)] 24)) (((W.alloc (.cells #[.int .u8 (kn : Int), .int .i64 tx, .string ke, .string en, .string va, .int .i64 li, .int .u8 (eg : Int)] 24)).alloc (.cells #[.int .u8 (kn2 : Int), .int .i64 tx2, .string ke2, .string en2, .string va2, .int .i64 li2, .int .u8 (eg2 : Int)] 24)).alloc (.cells #[.int .i64 er, .bool fo, .string av, .slice A n c] 37)) := (Below.refl _ _).alloc (Nat.le_refl _) _
  have b4 : Below (((W.alloc (.cells #[.int .u8 (kn : Int), .int .i64 tx, .string ke, .string en, .string va, .int .i64 li, .int .u8 (eg : Int)] 24)).alloc (.cells #[.int .u8 (kn2 : Int), .int .i64 tx2, .string ke2, .string en2, .string va2, .int .i64 li2, .int .u8 (eg2 : Int)] 24)).alloc (.cells #[.int .i64 er, .bool fo, .string av, .slice A n c] 37)).heap.size (((W.alloc (.cells #[.int .u8 (kn : Int), .int .i64 tx, .string ke, .string en, .string va, .int .i64 li, .int .u8 (eg : Int)] 24)).alloc (.cells #[.int .u8 (kn2 : Int), .int .i64 tx2, .string ke2, .string en2, .string va2, .int .i64 li2, .int .u8 (eg2 : Int)] 24)).alloc (.cells #[.int .i64 er, .bool fo, .string av, .slice A n c] 37)) ((((W.alloc (.cells #[.int .u8 (kn : Int), .int .i64 tx, .string ke, .string en, .string va, .int .i64 li, .int .u8 (eg : Int)] 24)).alloc (.cells #[.int .u8 (kn2 : Int), .int .i64 tx2, .string ke2, .string en2, .string va2, .int .i64 li2, .int .u8 (eg2 : Int)] 24)).alloc (.cells #[.int .i64 er, .bool fo, .string av, .slice A n c] 37)).alloc (.cells #[.int .i64 er2, .bool fo2, .string av2, .slice A2 n2 c2] 37)) := (Below.refl _ _).alloc (Nat.le_refl _) _
  have HX : Hid (Blk ((((W.alloc (.cells #[.int .u8 (kn : Int), .int .i64 tx, .string ke, .string en, .string va, .int .i64 li, .int .u8 (eg : Int)] 24)).alloc (.cells #[.int .u8 (kn2 : Int), .int .i64 tx2, .string ke2, .string en2, .string va2, .int .i64 li2, .int .u8 (eg2 : Int)] 24)).alloc (.cells #[.int .i64 er, .bool fo, .string av, .slice A n c] 37)).alloc (.cells #[.int .i64 er2, .bool fo2, .string av2, .slice A2 n2 c2] 37)) W.heap.size #[.int .u8 (kn : Int), .int .i64 tx, .string ke, .string en, .string va, .int .i64 li, .int .u8 (eg : Int)] 24) := (((Blk.new _ _ _).later b2).later b3).later b4
  have HY : Hid (Blk ((((W.alloc (.cells #[.int .u8 (kn : Int), .int .i64 tx, .string ke, .string en, .string va, .int .i64 li, .int .u8 (eg : Int)] 24)).alloc (.cells #[.int .u8 (kn2 : Int), .int .i64 tx2, .string ke2, .string en2, .string va2, .int .i64 li2, .int .u8 (eg2 : Int)] 24)).alloc (.cells #[.int .i64 er, .bool fo, .string av, .slice A n c] 37)).alloc (.cells #[.int .i64 er2, .bool fo2, .string av2, .slice A2 n2 c2] 37)) (W.heap.size + 1) #[.int .u8 (kn2 : Int), .int .i64 tx2, .string ke2, .string en2, .string va2, .int .i64 li2, .int .u8 (eg2 : Int)] 24) := ((Blk.new2 _ _ 24 (by simp)).later b3).later b4
  have HA : Hid (Blk ((((W.alloc (.cells #[.int .u8 (kn : Int), .int .i64 tx, .string ke, .string en, .string va, .int .i64 li, .int .u8 (eg : Int)] 24)).alloc (.cells #[.int .u8 (kn2 : Int), .int .i64 tx2, .string ke2, .string en2, .string va2, .int .i64 li2, .int .u8 (eg2 : Int)] 24)).alloc (.cells #[.int .i64 er, .bool fo, .string av, .slice A n c] 37)).alloc (.cells #[.int .i64 er2, .bool fo2, .string av2, .slice A2 n2 c2] 37)) (W.heap.size + 1 + 1) #[.int .i64 er, .bool fo, .string av, .slice A n c] 37) := (Blk.new2 _ _ 37 (by simp)).later b4
  have HA2 : Hid (Blk ((((W.alloc (.cells #[.int .u8 (kn : Int), .int .i64 tx, .string ke, .string en, .string va, .int .i64 li, .int .u8 (eg : Int)] 24)).alloc (.cells #[.int .u8 (kn2 : Int), .int .i64 tx2, .string ke2, .string en2, .string va2, .int .i64 li2, .int .u8 (eg2 : Int)] 24)).alloc (.cells #[.int .i64 er, .bool fo, .string av, .slice A n c] 37)).alloc (.cells #[.int .i64 er2, .bool fo2, .string av2, .slice A2 n2 c2] 37)) (W.heap.size + 1 + 1 + 1) #[.int .i64 er2, .bool fo2, .string av2, .slice A2 n2 c2] 37) := Blk.new2 _ _ 37 (by simp)
  have HB := Lib.hid (stepB (stepB (stepB b1 b2) b3) b4)
  have HG := Lib.hid (hg.later HB.out)
  have HR := Lib.hid (hr.1.later HB.out)
  have HR2 := Lib.hid (hr2.1.later HB.out)
  have HN := Lib.hid hr.2
  have HN2 := Lib.hid hr2.2
  have HLN : Hid (ps.length = n) := Lib.hid hr.1.1
  have HLN2 : Hid (ps2.length = n2) := Lib.hid hr2.1.1
  have HCX := Lib.hid hx
  have HCY := Lib.hid hy
  have HER := Lib.hid ha
  have HER2 := Lib.hid ha2
  clear hg b1 b2 b3 b4 hr hr2 hx hy ha ha2
  go_enter Tryd.func6, Tryd.ntmps6
  go_upto_region 1 with (fail)
  generalize ((((W.alloc (.cells #[.int .u8 (kn : Int), .int .i64 tx, .string ke, .string en, .string va, .int .i64 li, .int .u8 (eg : Int)] 24)).alloc (.cells #[.int .u8 (kn2 : Int), .int .i64 tx2, .string ke2, .string en2, .string va2, .int .i64 li2, .int .u8 (eg2 : Int)] 24)).alloc (.cells #[.int .i64 er, .bool fo, .string av, .slice A n c] 37)).alloc (.cells #[.int .i64 er2, .bool fo2, .string av2, .slice A2 n2 c2] 37)) = w2 at *
  obtain ⟨p3, hp3⟩ : ∃ x, W.heap.size = x := ⟨_, rfl⟩
  obtain ⟨p4, hp4⟩ : ∃ x, p3 + 1 = x := ⟨_, rfl⟩
  obtain ⟨p5, hp5⟩ : ∃ x, p4 + 1 = x := ⟨_, rfl⟩
  obtain ⟨p6, hp6⟩ : ∃ x, p5 + 1 = x := ⟨_, rfl⟩
  have HP3 := Lib.hid hp3
  rw [hp3] at HX
  rw [hp3, hp4] at HY
  rw [hp3, hp4, hp5] at HA
  rw [hp3, hp4, hp5, hp6] at HA2
  rw [hp3]
  try rw [hp4]
  try rw [hp5]
  try rw [hp6]
  clear hp3 hp4 hp5 hp6
  have HCL_ := Lib.hid (works_any w2 HG.out)
  go_wp2_with fail
  refine HCL_.out.mono ?_
  rintro e w3 ⟨rfl, hb⟩
  replace HX := Lib.hid (HX.out.later hb)
  replace HY := Lib.hid (HY.out.later hb)
  replace HA := Lib.hid (HA.out.later hb)
  replace HA2 := Lib.hid (HA2.out.later hb)
  replace HG := Lib.hid (HG.out.later hb)
  replace HR := Lib.hid (HR.out.later hb)
  replace HR2 := Lib.hid (HR2.out.later hb)
  replace HB := Lib.hid (stepB HB.out hb)
  clear hb HCL_
  have x0 := HX.out.cell 0
  have x1 := HX.out.cell 1
  have x2 := HX.out.cell 2
  have x3 := HX.out.cell 3
  have x4 := HX.out.cell 4
  have x5 := HX.out.cell 5
  have x6 := HX.out.cell 6
  simp only [List.getElem?_toArray, List.getElem?_cons_zero, List.getElem?_cons_succ] at x0 x1 x2 x3 x4 x5 x6
  have y0 := HY.out.cell 0
  have y1 := HY.out.cell 1
  have y2 := HY.out.cell 2
  have y3 := HY.out.cell 3
  have y4 := HY.out.cell 4
  have y5 := HY.out.cell 5
  have y6 := HY.out.cell 6
  simp only [List.getElem?_toArray, List.getElem?_cons_zero, List.getElem?_cons_succ] at y0 y1 y2 y3 y4 y5 y6
  have hby : Below w3.heap.size w3 (w3.alloc (.cells #[.int .u8 (kn : Int), .int .i64 tx, .string ke, .string en, .string va, .int .i64 li, .int .u8 (eg : Int), .int .u8 (kn2 : Int), .int .i64 tx2, .string ke2, .string en2, .string va2, .int .i64 li2, .int .u8 (eg2 : Int)] 24)) := (Below.refl _ _).alloc (Nat.le_refl _) _
  have hbs : Blk (w3.alloc (.cells #[.int .u8 (kn : Int), .int .i64 tx, .string ke, .string en, .string va, .int .i64 li, .int .u8 (eg : Int), .int .u8 (kn2 : Int), .int .i64 tx2, .string ke2, .string en2, .string va2, .int .i64 li2, .int .u8 (eg2 : Int)] 24)) w3.heap.size #[.int .u8 (kn : Int), .int .i64 tx, .string ke, .string en, .string va, .int .i64 li, .int .u8 (eg : Int), .int .u8 (kn2 : Int), .int .i64 tx2, .string ke2, .string en2, .string va2, .int .i64 li2, .int .u8 (eg2 : Int)] 24 := Blk.new _ _ _
  have HL := Lib.hid (long_any (some ⟨w3.heap.size, 0, none⟩) 2 2 [(kn, tx, ke, en, va, li, eg), (kn2, tx2, ke2, en2, va2, li2, eg2)] (w3.alloc (.cells #[.int .u8 (kn : Int), .int .i64 tx, .string ke, .string en, .string va, .int .i64 li, .int .u8 (eg : Int), .int .u8 (kn2 : Int), .int .i64 tx2, .string ke2, .string en2, .string va2, .int .i64 li2, .int .u8 (eg2 : Int)] 24)) (Blk.rslL (enc := clE) (L := [(kn, tx, ke, en, va, li, eg), (kn2, tx2, ke2, en2, va2, li2, eg2)]) clE_len hbs) (by decide))
  replace HX := Lib.hid (HX.out.later hby)
  replace HY := Lib.hid (HY.out.later hby)
  replace HA := Lib.hid (HA.out.later hby)
  replace HA2 := Lib.hid (HA2.out.later hby)
  replace HG := Lib.hid (HG.out.later hby)
  replace HR := Lib.hid (HR.out.later hby)
  replace HR2 := Lib.hid (HR2.out.later hby)
  replace HB := Lib.hid (stepB HB.out hby)
  clear hby hbs
  go_wp2_with fail
  clear x0 x1 x2 x3 x4 x5 x6
  clear y0 y1 y2 y3 y4 y5 y6
  refine HL.out.mono ?_
  rintro e w5 ⟨rfl, hb⟩
  replace HX := Lib.hid (HX.out.later hb)
  replace HY := Lib.hid (HY.out.later hb)
  replace HA := Lib.hid (HA.out.later hb)
  replace HA2 := Lib.hid (HA2.out.later hb)
  replace HG := Lib.hid (HG.out.later hb)
  replace HR := Lib.hid (HR.out.later hb)
  replace HR2 := Lib.hid (HR2.out.later hb)
  replace HB := Lib.hid (stepB HB.out hb)
  clear hb HL
  obtain ⟨bl_, hbl⟩ : ∃ b, decide (9000 ≤ lgS [(kn, tx, ke, en, va, li, eg), (kn2, tx2, ke2, en2, va2, li2, eg2)]) = b := ⟨_, rfl⟩
  rw [hbl]
  have HLG := Lib.hid hbl
  clear hbl
  cases bl_ with
  | true =>
    go_wp2_with fail
    refine (works_any w5 HG.out).mono ?_
    rintro e w6 ⟨rfl, hb⟩
    replace HB := Lib.hid (stepB HB.out hb)
    clear hb
    go_wp2
    go_ret
    exact ⟨rfl, HB.out⟩
  | false =>
    have y0 := HA.out.cell 0
    have y1 := HA.out.cell 1
    have y2 := HA.out.cell 2
    have y3 := HA.out.cell 3
    simp only [List.getElem?_toArray, List.getElem?_cons_zero, List.getElem?_cons_succ] at y0 y1 y2 y3
    have z0 := HA2.out.cell 0
    have z1 := HA2.out.cell 1
    have z2 := HA2.out.cell 2
    have z3 := HA2.out.cell 3
    simp only [List.getElem?_toArray, List.getElem?_cons_zero, List.getElem?_cons_succ] at z0 z1 z2 z3
    have hby : Below w5.heap.size w5 (w5.alloc (.cells #[.int .i64 er, .bool fo, .string av, .slice A n c, .int .i64 er2, .bool fo2, .string av2, .slice A2 n2 c2] 37)) := (Below.refl _ _).alloc (Nat.le_refl _) _
    have hbs : Blk (w5.alloc (.cells #[.int .i64 er, .bool fo, .string av, .slice A n c, .int .i64 er2, .bool fo2, .string av2, .slice A2 n2 c2] 37)) w5.heap.size #[.int .i64 er, .bool fo, .string av, .slice A n c, .int .i64 er2, .bool fo2, .string av2, .slice A2 n2 c2] 37 := Blk.new _ _ _
    have HL := Lib.hid (wide_any (some ⟨w5.heap.size, 0, none⟩) 2 2 [((er, fo, av, ps), A, n, c), ((er2, fo2, av2, ps2), A2, n2, c2)] (w5.alloc (.cells #[.int .i64 er, .bool fo, .string av, .slice A n c, .int .i64 er2, .bool fo2, .string av2, .slice A2 n2 c2] 37)) (Blk.rslL (enc := asE) (L := [((er, fo, av, ps), A, n, c), ((er2, fo2, av2, ps2), A2, n2, c2)]) (fun _ => rfl) hbs) (fun x hx => by
      rcases List.mem_cons.1 hx with rfl | hx
      · exact ⟨HR.out.later hby, HN.out⟩
      · obtain rfl := List.mem_singleton.1 hx
        exact ⟨HR2.out.later hby, HN2.out⟩) (by decide))
    replace HX := Lib.hid (HX.out.later hby)
    replace HY := Lib.hid (HY.out.later hby)
    replace HA := Lib.hid (HA.out.later hby)
    replace HA2 := Lib.hid (HA2.out.later hby)
    replace HG := Lib.hid (HG.out.later hby)
    replace HR := Lib.hid (HR.out.later hby)
    replace HR2 := Lib.hid (HR2.out.later hby)
    replace HB := Lib.hid (stepB HB.out hby)
    clear hby hbs
    go_wp2_with fail
    clear y0 y1 y2 y3
    clear z0 z1 z2 z3
    refine HL.out.mono ?_
    rintro e w6 ⟨rfl, hb⟩
    replace HX := Lib.hid (HX.out.later hb)
    replace HY := Lib.hid (HY.out.later hb)
    replace HA := Lib.hid (HA.out.later hb)
    replace HA2 := Lib.hid (HA2.out.later hb)
    replace HG := Lib.hid (HG.out.later hb)
    replace HR := Lib.hid (HR.out.later hb)
    replace HR2 := Lib.hid (HR2.out.later hb)
    replace HB := Lib.hid (stepB HB.out hb)
    clear hb HL
    obtain ⟨bl_, hbl⟩ : ∃ b, decide (9000 ≤ wdS 0 [((er, fo, av, ps), A, n, c), ((er2, fo2, av2, ps2), A2, n2, c2)]) = b := ⟨_, rfl⟩
    rw [hbl]
    have HWD := Lib.hid hbl
    clear hbl
    cases bl_ with
    | true =>
      go_wp2_with fail
      refine (works_any w6 HG.out).mono ?_
      rintro e w7 ⟨rfl, hb⟩
      replace HB := Lib.hid (stepB HB.out hb)
      clear hb
      go_wp2
      go_ret
      exact ⟨rfl, HB.out⟩
    | false =>
      have HCO := Lib.hid (co_in HCX.out HLG.out (List.mem_cons_self ..))
      have HCO2 := Lib.hid (co_in HCY.out HLG.out (List.mem_cons_of_mem _ (List.mem_singleton.2 rfl)))
      have HAO := Lib.hid (ao_in (a := ((er, fo, av, ps), A, n, c)) HER.out HWD.out (List.mem_cons_self ..))
      have HAO2 := Lib.hid (ao_in (a := ((er2, fo2, av2, ps2), A2, n2, c2)) HER2.out HWD.out (List.mem_cons_of_mem _ (List.mem_singleton.2 rfl)))
      clear HLG HWD
      go_upto_region 3 with (fail)
      go_cut [42] (fun s42 wx => s42 = .bool false ∧ Below w6.heap.size w6 wx)
      case first =>
        refine wp_region_noPanic ?_
        obtain ⟨W0, rfl⟩ : ∃ W0 : World, W0 = w6 := ⟨_, rfl⟩
        refine wp_region_held_drew (S := fun W => Below W0.heap.size W0 W) (by kernel_rfl) (Below.drew (Below.refl _ _)) (fun hHeld => ?_)
        have HH := Lib.hid hHeld
        by_cases hm : mayC (kn, tx, ke, en, va, li, eg) = true
        · have HM1 : Hid (∀ V, Below W0.heap.size W0 V → Calls Tryd.prog 13 #[.agg #[.int .u8 (kn : Int), .int .i64 tx, .string ke, .string en, .string va, .int .i64 li, .int .u8 (eg : Int)]] V fun e w' => e = .returned (.int .i64 0) ∧ Below V.heap.size V w') := Lib.hid (fun V hV => by
            have h := may_any (kn, tx, ke, en, va, li, eg) V HCX.out.1 HCX.out.2.1 (HG.out.later hV)
            rw [if_pos hm] at h
            exact h)
          refine wpAnyH_take (i := 0) (oi := { dst := some 24, op := Op.load 24 (Operand.tmp 4), type := 24, pos := "outright.go:104", after := #[], guard := none }) (v := ?_) rfl (by kernel_rfl) (by kernel_rfl) (by kernel_rfl) (fun _ _ _ h => h) (Or.inl ⟨by rfl, ?_⟩) (by assumption) ?_
          rotate_left
          · intro W hSw
            have k0 := (HX.out.later hSw).cell 0
            have k1 := (HX.out.later hSw).cell 1
            have k2 := (HX.out.later hSw).cell 2
            have k3 := (HX.out.later hSw).cell 3
            have k4 := (HX.out.later hSw).cell 4
            have k5 := (HX.out.later hSw).cell 5
            have k6 := (HX.out.later hSw).cell 6
            simp only [List.getElem?_toArray, List.getElem?_cons_zero, List.getElem?_cons_succ] at k0 k1 k2 k3 k4 k5 k6
            go_simp
            try with_reducible rfl
          simp only [Act.put, List.setIfInBounds_toArray, List.set_cons_zero, List.set_cons_succ]
          refine wpAnyH_ready (rs := [1]) (by kernel_rfl) (by simp) (AllReadyH.cons (o := { dst := some 25, op := Op.call { callee := Callee.value (Operand.func 13), args := #[Operand.tmp 24], argTypes := #[24] }, type := 26, pos := "outright.go:104", after := #[{ on := 0, ground := Ground.data }], guard := none }) rfl (fun K hK => ?_) AllReadyH.nil)
          have HCL := Lib.hid (HM1.out _ HH.out)
          go_simp
          refine HCL.out.mono ?_
          rintro e Wa ⟨rfl, hb⟩
          replace HH := Lib.hid (stepB HH.out hb)
          clear hb HCL hHeld
          refine hK.out _ _ HH.out (fun hHeld => ?_)
          clear hK K
          refine wpAnyH_take (i := 2) (oi := { dst := some 26, op := Op.binOp BinOp.eql 26 (Operand.tmp 25) (Operand.const (Value.int IntKind.i64 0)) 26, type := 4, pos := "outright.go:104", after := #[{ on := 1, ground := Ground.data }], guard := none }) (v := ?_) rfl (by kernel_rfl) (by kernel_rfl) (by kernel_rfl) (fun _ _ _ h => h) (Or.inl ⟨by rfl, ?_⟩) (by assumption) ?_
          rotate_left
          · intro W hSw
            clear hSw
            go_simp
            try with_reducible rfl
          simp only [Act.put, List.setIfInBounds_toArray, List.set_cons_zero, List.set_cons_succ]
          refine wpAnyH_take (i := 3) (oi := { dst := some 27, op := Op.move (Operand.tmp 26), type := 4, pos := "outright.go:104", after := #[{ on := 2, ground := Ground.data }, { on := 1, ground := Ground.chain }], guard := none }) (v := ?_) rfl (by kernel_rfl) (by kernel_rfl) (by kernel_rfl) (fun _ _ _ h => h) (Or.inl ⟨by rfl, ?_⟩) (by assumption) ?_
          rotate_left
          · intro W hSw
            clear hSw
            go_simp
            try with_reducible rfl
          simp only [Act.put, List.setIfInBounds_toArray, List.set_cons_zero, List.set_cons_succ]
          refine wpAnyH_take (i := 4) (oi := { dst := some 28, op := Op.load 24 (Operand.tmp 5), type := 24, pos := "outright.go:104", after := #[{ on := 3, ground := Ground.guard }], guard := some (3, true) }) (v := ?_) rfl (by kernel_rfl) (by kernel_rfl) (by kernel_rfl) (fun _ _ _ h => h) (Or.inl ⟨by rfl, ?_⟩) (by assumption) ?_
          rotate_left
          · intro W hSw
            have k0 := (HY.out.later hSw).cell 0
            have k1 := (HY.out.later hSw).cell 1
            have k2 := (HY.out.later hSw).cell 2
            have k3 := (HY.out.later hSw).cell 3
            have k4 := (HY.out.later hSw).cell 4
            have k5 := (HY.out.later hSw).cell 5
            have k6 := (HY.out.later hSw).cell 6
            simp only [List.getElem?_toArray, List.getElem?_cons_zero, List.getElem?_cons_succ] at k0 k1 k2 k3 k4 k5 k6
            go_simp
            try with_reducible rfl
          simp only [Act.put, List.setIfInBounds_toArray, List.set_cons_zero, List.set_cons_succ]
          by_cases hm2 : mayC (kn2, tx2, ke2, en2, va2, li2, eg2) = true
          · have HM2 : Hid (∀ V, Below W0.heap.size W0 V → Calls Tryd.prog 13 #[.agg #[.int .u8 (kn2 : Int), .int .i64 tx2, .string ke2, .string en2, .string va2, .int .i64 li2, .int .u8 (eg2 : Int)]] V fun e w' => e = .returned (.int .i64 0) ∧ Below V.heap.size V w') := Lib.hid (fun V hV => by
              have h := may_any (kn2, tx2, ke2, en2, va2, li2, eg2) V HCY.out.1 HCY.out.2.1 (HG.out.later hV)
              rw [if_pos hm2] at h
              exact h)
            obtain ⟨s1, hs1⟩ : ∃ z, showP (kn, tx, ke, en, va, li, eg) = z := ⟨_, rfl⟩
            obtain ⟨s2, hs2⟩ : ∃ z, showP (kn2, tx2, ke2, en2, va2, li2, eg2) = z := ⟨_, rfl⟩
            obtain ⟨bs, hbs⟩ : ∃ z, sameC (kn, tx, ke, en, va, li, eg) (kn2, tx2, ke2, en2, va2, li2, eg2) = z := ⟨_, rfl⟩
            have qs : (s1.toList == s2.toList) = bs := by
              rw [seq_dec, ← hs1, ← hs2, ← hbs]
              exact one_calls HCX.out HCY.out hm hm2
            have HS1 : Hid (∀ V, Below W0.heap.size W0 V → Calls Tryd.prog 12 #[.agg #[.int .u8 (kn : Int), .int .i64 tx, .string ke, .string en, .string va, .int .i64 li, .int .u8 (eg : Int)]] V fun e w' => e = .returned (.string s1) ∧ Below V.heap.size V w') := Lib.hid (fun V hV => by
              have h := show_any (kn, tx, ke, en, va, li, eg) V HCO.out.1 (HG.out.later hV) (by have := HCO.out.2; omega)
              rw [hs1] at h
              exact h)
            have HS2 : Hid (∀ V, Below W0.heap.size W0 V → Calls Tryd.prog 12 #[.agg #[.int .u8 (kn2 : Int), .int .i64 tx2, .string ke2, .string en2, .string va2, .int .i64 li2, .int .u8 (eg2 : Int)]] V fun e w' => e = .returned (.string s2) ∧ Below V.heap.size V w') := Lib.hid (fun V hV => by
              have h := show_any (kn2, tx2, ke2, en2, va2, li2, eg2) V HCO2.out.1 (HG.out.later hV) (by have := HCO2.out.2; omega)
              rw [hs2] at h
              exact h)
            have HSM : Hid (∀ V, Below W0.heap.size W0 V → Calls Tryd.prog 16 #[.agg #[.int .u8 (kn : Int), .int .i64 tx, .string ke, .string en, .string va, .int .i64 li, .int .u8 (eg : Int)], .agg #[.int .u8 (kn2 : Int), .int .i64 tx2, .string ke2, .string en2, .string va2, .int .i64 li2, .int .u8 (eg2 : Int)]] V fun e w' => e = .returned (.bool bs) ∧ Below V.heap.size V w') := Lib.hid (fun V hV => by
              have h := same_any kn tx ke en va li eg kn2 tx2 ke2 en2 va2 li2 eg2 V HCX.out.1 HCY.out.1 (HG.out.later hV)
              rw [hbs] at h
              exact h)
            clear hs1 hs2 hbs hm hm2
            refine wpAnyH_ready (rs := [5]) (by kernel_rfl) (by simp) (AllReadyH.cons (o := { dst := some 29, op := Op.call { callee := Callee.value (Operand.func 13), args := #[Operand.tmp 28], argTypes := #[24] }, type := 26, pos := "outright.go:104", after := #[{ on := 4, ground := Ground.data }, { on := 3, ground := Ground.chain }, { on := 3, ground := Ground.guard }], guard := some (3, true) }) rfl (fun K hK => ?_) AllReadyH.nil)
            have HCL := Lib.hid (HM2.out _ HH.out)
            go_simp
            refine HCL.out.mono ?_
            rintro e Wb ⟨rfl, hb⟩
            replace HH := Lib.hid (stepB HH.out hb)
            clear hb HCL hHeld
            refine hK.out _ _ HH.out (fun hHeld => ?_)
            clear hK K
            refine wpAnyH_take (i := 6) (oi := { dst := some 30, op := Op.binOp BinOp.eql 26 (Operand.tmp 29) (Operand.const (Value.int IntKind.i64 0)) 26, type := 4, pos := "outright.go:104", after := #[{ on := 5, ground := Ground.data }, { on := 3, ground := Ground.guard }], guard := some (3, true) }) (v := ?_) rfl (by kernel_rfl) (by kernel_rfl) (by kernel_rfl) (fun _ _ _ h => h) (Or.inl ⟨by rfl, ?_⟩) (by assumption) ?_
            rotate_left
            · intro W hSw
              clear hSw
              go_simp
              try with_reducible rfl
            simp only [Act.put, List.setIfInBounds_toArray, List.set_cons_zero, List.set_cons_succ]
            refine wpAnyH_take (i := 7) (oi := { dst := some 31, op := Op.pick (Operand.tmp 27) (Operand.tmp 30) (Operand.const (Value.bool false)), type := 4, pos := "outright.go:104", after := #[{ on := 3, ground := Ground.data }, { on := 6, ground := Ground.data }], guard := none }) (v := ?_) rfl (by kernel_rfl) (by kernel_rfl) (by kernel_rfl) (fun _ _ _ h => h) (Or.inl ⟨by rfl, ?_⟩) (by assumption) ?_
            rotate_left
            · intro W hSw
              clear hSw
              go_simp
              try with_reducible rfl
            simp only [Act.put, List.setIfInBounds_toArray, List.set_cons_zero, List.set_cons_succ]
            refine wpAnyH_take (i := 8) (oi := { dst := some 32, op := Op.move (Operand.tmp 31), type := 4, pos := "outright.go:104", after := #[{ on := 7, ground := Ground.data }, { on := 5, ground := Ground.chain }], guard := none }) (v := ?_) rfl (by kernel_rfl) (by kernel_rfl) (by kernel_rfl) (fun _ _ _ h => h) (Or.inl ⟨by rfl, ?_⟩) (by assumption) ?_
            rotate_left
            · intro W hSw
              clear hSw
              go_simp
              try with_reducible rfl
            simp only [Act.put, List.setIfInBounds_toArray, List.set_cons_zero, List.set_cons_succ]
            refine wpAnyH_take (i := 9) (oi := { dst := some 33, op := Op.load 24 (Operand.tmp 4), type := 24, pos := "outright.go:104", after := #[{ on := 8, ground := Ground.guard }], guard := some (8, true) }) (v := ?_) rfl (by kernel_rfl) (by kernel_rfl) (by kernel_rfl) (fun _ _ _ h => h) (Or.inl ⟨by rfl, ?_⟩) (by assumption) ?_
            rotate_left
            · intro W hSw
              have k0 := (HX.out.later hSw).cell 0
              have k1 := (HX.out.later hSw).cell 1
              have k2 := (HX.out.later hSw).cell 2
              have k3 := (HX.out.later hSw).cell 3
              have k4 := (HX.out.later hSw).cell 4
              have k5 := (HX.out.later hSw).cell 5
              have k6 := (HX.out.later hSw).cell 6
              simp only [List.getElem?_toArray, List.getElem?_cons_zero, List.getElem?_cons_succ] at k0 k1 k2 k3 k4 k5 k6
              go_simp
              try with_reducible rfl
            simp only [Act.put, List.setIfInBounds_toArray, List.set_cons_zero, List.set_cons_succ]
            refine wpAnyH_take (i := 11) (oi := { dst := some 35, op := Op.load 24 (Operand.tmp 5), type := 24, pos := "outright.go:104", after := #[{ on := 8, ground := Ground.guard }], guard := some (8, true) }) (v := ?_) rfl (by kernel_rfl) (by kernel_rfl) (by kernel_rfl) (fun _ _ _ h => h) (Or.inl ⟨by rfl, ?_⟩) (by assumption) ?_
            rotate_left
            · intro W hSw
              have k0 := (HY.out.later hSw).cell 0
              have k1 := (HY.out.later hSw).cell 1
              have k2 := (HY.out.later hSw).cell 2
              have k3 := (HY.out.later hSw).cell 3
              have k4 := (HY.out.later hSw).cell 4
              have k5 := (HY.out.later hSw).cell 5
              have k6 := (HY.out.later hSw).cell 6
              simp only [List.getElem?_toArray, List.getElem?_cons_zero, List.getElem?_cons_succ] at k0 k1 k2 k3 k4 k5 k6
              go_simp
              try with_reducible rfl
            simp only [Act.put, List.setIfInBounds_toArray, List.set_cons_zero, List.set_cons_succ]
            refine wpAnyH_take (i := 14) (oi := { dst := some 38, op := Op.load 24 (Operand.tmp 4), type := 24, pos := "outright.go:104", after := #[{ on := 8, ground := Ground.guard }], guard := some (8, true) }) (v := ?_) rfl (by kernel_rfl) (by kernel_rfl) (by kernel_rfl) (fun _ _ _ h => h) (Or.inl ⟨by rfl, ?_⟩) (by assumption) ?_
            rotate_left
            · intro W hSw
              have k0 := (HX.out.later hSw).cell 0
              have k1 := (HX.out.later hSw).cell 1
              have k2 := (HX.out.later hSw).cell 2
              have k3 := (HX.out.later hSw).cell 3
              have k4 := (HX.out.later hSw).cell 4
              have k5 := (HX.out.later hSw).cell 5
              have k6 := (HX.out.later hSw).cell 6
              simp only [List.getElem?_toArray, List.getElem?_cons_zero, List.getElem?_cons_succ] at k0 k1 k2 k3 k4 k5 k6
              go_simp
              try with_reducible rfl
            simp only [Act.put, List.setIfInBounds_toArray, List.set_cons_zero, List.set_cons_succ]
            refine wpAnyH_take (i := 15) (oi := { dst := some 39, op := Op.load 24 (Operand.tmp 5), type := 24, pos := "outright.go:104", after := #[{ on := 8, ground := Ground.guard }], guard := some (8, true) }) (v := ?_) rfl (by kernel_rfl) (by kernel_rfl) (by kernel_rfl) (fun _ _ _ h => h) (Or.inl ⟨by rfl, ?_⟩) (by assumption) ?_
            rotate_left
            · intro W hSw
              have k0 := (HY.out.later hSw).cell 0
              have k1 := (HY.out.later hSw).cell 1
              have k2 := (HY.out.later hSw).cell 2
              have k3 := (HY.out.later hSw).cell 3
              have k4 := (HY.out.later hSw).cell 4
              have k5 := (HY.out.later hSw).cell 5
              have k6 := (HY.out.later hSw).cell 6
              simp only [List.getElem?_toArray, List.getElem?_cons_zero, List.getElem?_cons_succ] at k0 k1 k2 k3 k4 k5 k6
              go_simp
              try with_reducible rfl
            simp only [Act.put, List.setIfInBounds_toArray, List.set_cons_zero, List.set_cons_succ]
            refine wpAnyH_ready (rs := [10]) (by kernel_rfl) (by simp) (AllReadyH.cons (o := { dst := some 34, op := Op.call { callee := Callee.value (Operand.func 12), args := #[Operand.tmp 33], argTypes := #[24] }, type := 9, pos := "outright.go:104", after := #[{ on := 9, ground := Ground.data }, { on := 8, ground := Ground.chain }, { on := 8, ground := Ground.guard }], guard := some (8, true) }) rfl (fun K hK => ?_) AllReadyH.nil)
            have HCL := Lib.hid (HS1.out _ HH.out)
            go_simp
            refine HCL.out.mono ?_
            rintro e Wc ⟨rfl, hb⟩
            replace HH := Lib.hid (stepB HH.out hb)
            clear hb HCL hHeld
            refine hK.out _ _ HH.out (fun hHeld => ?_)
            clear hK K
            refine wpAnyH_ready (rs := [12]) (by kernel_rfl) (by simp) (AllReadyH.cons (o := { dst := some 36, op := Op.call { callee := Callee.value (Operand.func 12), args := #[Operand.tmp 35], argTypes := #[24] }, type := 9, pos := "outright.go:104", after := #[{ on := 11, ground := Ground.data }, { on := 10, ground := Ground.chain }, { on := 8, ground := Ground.guard }], guard := some (8, true) }) rfl (fun K hK => ?_) AllReadyH.nil)
            have HCL := Lib.hid (HS2.out _ HH.out)
            go_simp
            refine HCL.out.mono ?_
            rintro e Wd ⟨rfl, hb⟩
            replace HH := Lib.hid (stepB HH.out hb)
            clear hb HCL hHeld
            refine hK.out _ _ HH.out (fun hHeld => ?_)
            clear hK K
            refine wpAnyH_take (i := 13) (oi := { dst := some 37, op := Op.binOp BinOp.eql 9 (Operand.tmp 34) (Operand.tmp 36) 9, type := 4, pos := "outright.go:104", after := #[{ on := 10, ground := Ground.data }, { on := 12, ground := Ground.data }, { on := 8, ground := Ground.guard }], guard := some (8, true) }) (v := ?_) rfl (by kernel_rfl) (by kernel_rfl) (by kernel_rfl) (fun _ _ _ h => h) (Or.inl ⟨by rfl, ?_⟩) (by assumption) ?_
            rotate_left
            · intro W hSw
              clear hSw
              have qs2 := qs
              go_simp
              try with_reducible rfl
            simp only [Act.put, List.setIfInBounds_toArray, List.set_cons_zero, List.set_cons_succ]
            refine wpAnyH_ready (rs := [16]) (by kernel_rfl) (by simp) (AllReadyH.cons (o := { dst := some 40, op := Op.call { callee := Callee.value (Operand.func 16), args := #[Operand.tmp 38, Operand.tmp 39], argTypes := #[24, 24] }, type := 4, pos := "outright.go:104", after := #[{ on := 14, ground := Ground.data }, { on := 15, ground := Ground.data }, { on := 12, ground := Ground.chain }, { on := 8, ground := Ground.guard }], guard := some (8, true) }) rfl (fun K hK => ?_) AllReadyH.nil)
            have HCL := Lib.hid (HSM.out _ HH.out)
            go_simp
            refine HCL.out.mono ?_
            rintro e We ⟨rfl, hb⟩
            replace HH := Lib.hid (stepB HH.out hb)
            clear hb HCL hHeld
            refine hK.out _ _ HH.out (fun hHeld => ?_)
            clear hK K
            refine wpAnyH_take (i := 17) (oi := { dst := some 41, op := Op.binOp BinOp.neq 4 (Operand.tmp 37) (Operand.tmp 40) 4, type := 4, pos := "outright.go:104", after := #[{ on := 13, ground := Ground.data }, { on := 16, ground := Ground.data }, { on := 8, ground := Ground.guard }], guard := some (8, true) }) (v := ?_) rfl (by kernel_rfl) (by kernel_rfl) (by kernel_rfl) (fun _ _ _ h => h) (Or.inl ⟨by rfl, ?_⟩) (by assumption) ?_
            rotate_left
            · intro W hSw
              clear hSw
              go_simp
              try with_reducible rfl
            simp only [Act.put, List.setIfInBounds_toArray, List.set_cons_zero, List.set_cons_succ]
            refine wpAnyH_take (i := 18) (oi := { dst := some 42, op := Op.pick (Operand.tmp 32) (Operand.tmp 41) (Operand.const (Value.bool false)), type := 4, pos := "outright.go:104", after := #[{ on := 8, ground := Ground.data }, { on := 17, ground := Ground.data }], guard := none }) (v := ?_) rfl (by kernel_rfl) (by kernel_rfl) (by kernel_rfl) (fun _ _ _ h => h) (Or.inl ⟨by rfl, ?_⟩) (by assumption) ?_
            rotate_left
            · intro W hSw
              clear hSw
              go_simp
              try with_reducible rfl
            simp only [Act.put, List.setIfInBounds_toArray, List.set_cons_zero, List.set_cons_succ]
            clear HM1 HM2 HS1 HS2 HSM qs
            refine wpAnyH_done (by kernel_rfl) (NoPanic.normal ?_) _
            have HF := HH
            clear hHeld HH
            go_wp2
            go_meet
            exact ⟨rfl, HF.out⟩
          · have HM2 : Hid (∀ V, Below W0.heap.size W0 V → Calls Tryd.prog 13 #[.agg #[.int .u8 (kn2 : Int), .int .i64 tx2, .string ke2, .string en2, .string va2, .int .i64 li2, .int .u8 (eg2 : Int)]] V fun e w' => e = .returned (.int .i64 1) ∧ Below V.heap.size V w') := Lib.hid (fun V hV => by
              have h := may_any (kn2, tx2, ke2, en2, va2, li2, eg2) V HCY.out.1 HCY.out.2.1 (HG.out.later hV)
              rw [if_neg hm2] at h
              exact h)
            clear hm hm2
            refine wpAnyH_ready (rs := [5]) (by kernel_rfl) (by simp) (AllReadyH.cons (o := { dst := some 29, op := Op.call { callee := Callee.value (Operand.func 13), args := #[Operand.tmp 28], argTypes := #[24] }, type := 26, pos := "outright.go:104", after := #[{ on := 4, ground := Ground.data }, { on := 3, ground := Ground.chain }, { on := 3, ground := Ground.guard }], guard := some (3, true) }) rfl (fun K hK => ?_) AllReadyH.nil)
            have HCL := Lib.hid (HM2.out _ HH.out)
            go_simp
            refine HCL.out.mono ?_
            rintro e Wb ⟨rfl, hb⟩
            replace HH := Lib.hid (stepB HH.out hb)
            clear hb HCL hHeld
            refine hK.out _ _ HH.out (fun hHeld => ?_)
            clear hK K
            refine wpAnyH_take (i := 6) (oi := { dst := some 30, op := Op.binOp BinOp.eql 26 (Operand.tmp 29) (Operand.const (Value.int IntKind.i64 0)) 26, type := 4, pos := "outright.go:104", after := #[{ on := 5, ground := Ground.data }, { on := 3, ground := Ground.guard }], guard := some (3, true) }) (v := ?_) rfl (by kernel_rfl) (by kernel_rfl) (by kernel_rfl) (fun _ _ _ h => h) (Or.inl ⟨by rfl, ?_⟩) (by assumption) ?_
            rotate_left
            · intro W hSw
              clear hSw
              go_simp
              try with_reducible rfl
            simp only [Act.put, List.setIfInBounds_toArray, List.set_cons_zero, List.set_cons_succ]
            refine wpAnyH_take (i := 7) (oi := { dst := some 31, op := Op.pick (Operand.tmp 27) (Operand.tmp 30) (Operand.const (Value.bool false)), type := 4, pos := "outright.go:104", after := #[{ on := 3, ground := Ground.data }, { on := 6, ground := Ground.data }], guard := none }) (v := ?_) rfl (by kernel_rfl) (by kernel_rfl) (by kernel_rfl) (fun _ _ _ h => h) (Or.inl ⟨by rfl, ?_⟩) (by assumption) ?_
            rotate_left
            · intro W hSw
              clear hSw
              go_simp
              try with_reducible rfl
            simp only [Act.put, List.setIfInBounds_toArray, List.set_cons_zero, List.set_cons_succ]
            refine wpAnyH_take (i := 8) (oi := { dst := some 32, op := Op.move (Operand.tmp 31), type := 4, pos := "outright.go:104", after := #[{ on := 7, ground := Ground.data }, { on := 5, ground := Ground.chain }], guard := none }) (v := ?_) rfl (by kernel_rfl) (by kernel_rfl) (by kernel_rfl) (fun _ _ _ h => h) (Or.inl ⟨by rfl, ?_⟩) (by assumption) ?_
            rotate_left
            · intro W hSw
              clear hSw
              go_simp
              try with_reducible rfl
            simp only [Act.put, List.setIfInBounds_toArray, List.set_cons_zero, List.set_cons_succ]
            refine wpAnyH_take (i := 9) (oi := { dst := some 33, op := Op.load 24 (Operand.tmp 4), type := 24, pos := "outright.go:104", after := #[{ on := 8, ground := Ground.guard }], guard := some (8, true) }) (v := undef) rfl (by kernel_rfl) (by kernel_rfl) (by kernel_rfl) (fun _ _ _ h => h) (Or.inr ⟨by rfl, rfl⟩) (by assumption) ?_
            simp only [Act.put, List.setIfInBounds_toArray, List.set_cons_zero, List.set_cons_succ]
            refine wpAnyH_take (i := 10) (oi := { dst := some 34, op := Op.call { callee := Callee.value (Operand.func 12), args := #[Operand.tmp 33], argTypes := #[24] }, type := 9, pos := "outright.go:104", after := #[{ on := 9, ground := Ground.data }, { on := 8, ground := Ground.chain }, { on := 8, ground := Ground.guard }], guard := some (8, true) }) (v := undef) rfl (by kernel_rfl) (by kernel_rfl) (by kernel_rfl) (fun _ _ _ h => h) (Or.inr ⟨by rfl, rfl⟩) (by assumption) ?_
            simp only [Act.put, List.setIfInBounds_toArray, List.set_cons_zero, List.set_cons_succ]
            refine wpAnyH_take (i := 11) (oi := { dst := some 35, op := Op.load 24 (Operand.tmp 5), type := 24, pos := "outright.go:104", after := #[{ on := 8, ground := Ground.guard }], guard := some (8, true) }) (v := undef) rfl (by kernel_rfl) (by kernel_rfl) (by kernel_rfl) (fun _ _ _ h => h) (Or.inr ⟨by rfl, rfl⟩) (by assumption) ?_
            simp only [Act.put, List.setIfInBounds_toArray, List.set_cons_zero, List.set_cons_succ]
            refine wpAnyH_take (i := 12) (oi := { dst := some 36, op := Op.call { callee := Callee.value (Operand.func 12), args := #[Operand.tmp 35], argTypes := #[24] }, type := 9, pos := "outright.go:104", after := #[{ on := 11, ground := Ground.data }, { on := 10, ground := Ground.chain }, { on := 8, ground := Ground.guard }], guard := some (8, true) }) (v := undef) rfl (by kernel_rfl) (by kernel_rfl) (by kernel_rfl) (fun _ _ _ h => h) (Or.inr ⟨by rfl, rfl⟩) (by assumption) ?_
            simp only [Act.put, List.setIfInBounds_toArray, List.set_cons_zero, List.set_cons_succ]
            refine wpAnyH_take (i := 13) (oi := { dst := some 37, op := Op.binOp BinOp.eql 9 (Operand.tmp 34) (Operand.tmp 36) 9, type := 4, pos := "outright.go:104", after := #[{ on := 10, ground := Ground.data }, { on := 12, ground := Ground.data }, { on := 8, ground := Ground.guard }], guard := some (8, true) }) (v := undef) rfl (by kernel_rfl) (by kernel_rfl) (by kernel_rfl) (fun _ _ _ h => h) (Or.inr ⟨by rfl, rfl⟩) (by assumption) ?_
            simp only [Act.put, List.setIfInBounds_toArray, List.set_cons_zero, List.set_cons_succ]
            refine wpAnyH_take (i := 14) (oi := { dst := some 38, op := Op.load 24 (Operand.tmp 4), type := 24, pos := "outright.go:104", after := #[{ on := 8, ground := Ground.guard }], guard := some (8, true) }) (v := undef) rfl (by kernel_rfl) (by kernel_rfl) (by kernel_rfl) (fun _ _ _ h => h) (Or.inr ⟨by rfl, rfl⟩) (by assumption) ?_
            simp only [Act.put, List.setIfInBounds_toArray, List.set_cons_zero, List.set_cons_succ]
            refine wpAnyH_take (i := 15) (oi := { dst := some 39, op := Op.load 24 (Operand.tmp 5), type := 24, pos := "outright.go:104", after := #[{ on := 8, ground := Ground.guard }], guard := some (8, true) }) (v := undef) rfl (by kernel_rfl) (by kernel_rfl) (by kernel_rfl) (fun _ _ _ h => h) (Or.inr ⟨by rfl, rfl⟩) (by assumption) ?_
            simp only [Act.put, List.setIfInBounds_toArray, List.set_cons_zero, List.set_cons_succ]
            refine wpAnyH_take (i := 16) (oi := { dst := some 40, op := Op.call { callee := Callee.value (Operand.func 16), args := #[Operand.tmp 38, Operand.tmp 39], argTypes := #[24, 24] }, type := 4, pos := "outright.go:104", after := #[{ on := 14, ground := Ground.data }, { on := 15, ground := Ground.data }, { on := 12, ground := Ground.chain }, { on := 8, ground := Ground.guard }], guard := some (8, true) }) (v := undef) rfl (by kernel_rfl) (by kernel_rfl) (by kernel_rfl) (fun _ _ _ h => h) (Or.inr ⟨by rfl, rfl⟩) (by assumption) ?_
            simp only [Act.put, List.setIfInBounds_toArray, List.set_cons_zero, List.set_cons_succ]
            refine wpAnyH_take (i := 17) (oi := { dst := some 41, op := Op.binOp BinOp.neq 4 (Operand.tmp 37) (Operand.tmp 40) 4, type := 4, pos := "outright.go:104", after := #[{ on := 13, ground := Ground.data }, { on := 16, ground := Ground.data }, { on := 8, ground := Ground.guard }], guard := some (8, true) }) (v := undef) rfl (by kernel_rfl) (by kernel_rfl) (by kernel_rfl) (fun _ _ _ h => h) (Or.inr ⟨by rfl, rfl⟩) (by assumption) ?_
            simp only [Act.put, List.setIfInBounds_toArray, List.set_cons_zero, List.set_cons_succ]
            refine wpAnyH_take (i := 18) (oi := { dst := some 42, op := Op.pick (Operand.tmp 32) (Operand.tmp 41) (Operand.const (Value.bool false)), type := 4, pos := "outright.go:104", after := #[{ on := 8, ground := Ground.data }, { on := 17, ground := Ground.data }], guard := none }) (v := ?_) rfl (by kernel_rfl) (by kernel_rfl) (by kernel_rfl) (fun _ _ _ h => h) (Or.inl ⟨by rfl, ?_⟩) (by assumption) ?_
            rotate_left
            · intro W hSw
              clear hSw
              go_simp
              try with_reducible rfl
            simp only [Act.put, List.setIfInBounds_toArray, List.set_cons_zero, List.set_cons_succ]
            clear HM1 HM2
            refine wpAnyH_done (by kernel_rfl) (NoPanic.normal ?_) _
            have HF := HH
            clear hHeld HH
            go_wp2
            go_meet
            exact ⟨rfl, HF.out⟩
        · have HM1 : Hid (∀ V, Below W0.heap.size W0 V → Calls Tryd.prog 13 #[.agg #[.int .u8 (kn : Int), .int .i64 tx, .string ke, .string en, .string va, .int .i64 li, .int .u8 (eg : Int)]] V fun e w' => e = .returned (.int .i64 1) ∧ Below V.heap.size V w') := Lib.hid (fun V hV => by
            have h := may_any (kn, tx, ke, en, va, li, eg) V HCX.out.1 HCX.out.2.1 (HG.out.later hV)
            rw [if_neg hm] at h
            exact h)
          clear hm
          refine wpAnyH_take (i := 0) (oi := { dst := some 24, op := Op.load 24 (Operand.tmp 4), type := 24, pos := "outright.go:104", after := #[], guard := none }) (v := ?_) rfl (by kernel_rfl) (by kernel_rfl) (by kernel_rfl) (fun _ _ _ h => h) (Or.inl ⟨by rfl, ?_⟩) (by assumption) ?_
          rotate_left
          · intro W hSw
            have k0 := (HX.out.later hSw).cell 0
            have k1 := (HX.out.later hSw).cell 1
            have k2 := (HX.out.later hSw).cell 2
            have k3 := (HX.out.later hSw).cell 3
            have k4 := (HX.out.later hSw).cell 4
            have k5 := (HX.out.later hSw).cell 5
            have k6 := (HX.out.later hSw).cell 6
            simp only [List.getElem?_toArray, List.getElem?_cons_zero, List.getElem?_cons_succ] at k0 k1 k2 k3 k4 k5 k6
            go_simp
            try with_reducible rfl
          simp only [Act.put, List.setIfInBounds_toArray, List.set_cons_zero, List.set_cons_succ]
          refine wpAnyH_ready (rs := [1]) (by kernel_rfl) (by simp) (AllReadyH.cons (o := { dst := some 25, op := Op.call { callee := Callee.value (Operand.func 13), args := #[Operand.tmp 24], argTypes := #[24] }, type := 26, pos := "outright.go:104", after := #[{ on := 0, ground := Ground.data }], guard := none }) rfl (fun K hK => ?_) AllReadyH.nil)
          have HCL := Lib.hid (HM1.out _ HH.out)
          go_simp
          refine HCL.out.mono ?_
          rintro e Wa ⟨rfl, hb⟩
          replace HH := Lib.hid (stepB HH.out hb)
          clear hb HCL hHeld
          refine hK.out _ _ HH.out (fun hHeld => ?_)
          clear hK K
          refine wpAnyH_take (i := 2) (oi := { dst := some 26, op := Op.binOp BinOp.eql 26 (Operand.tmp 25) (Operand.const (Value.int IntKind.i64 0)) 26, type := 4, pos := "outright.go:104", after := #[{ on := 1, ground := Ground.data }], guard := none }) (v := ?_) rfl (by kernel_rfl) (by kernel_rfl) (by kernel_rfl) (fun _ _ _ h => h) (Or.inl ⟨by rfl, ?_⟩) (by assumption) ?_
          rotate_left
          · intro W hSw
            clear hSw
            go_simp
            try with_reducible rfl
          simp only [Act.put, List.setIfInBounds_toArray, List.set_cons_zero, List.set_cons_succ]
          refine wpAnyH_take (i := 3) (oi := { dst := some 27, op := Op.move (Operand.tmp 26), type := 4, pos := "outright.go:104", after := #[{ on := 2, ground := Ground.data }, { on := 1, ground := Ground.chain }], guard := none }) (v := ?_) rfl (by kernel_rfl) (by kernel_rfl) (by kernel_rfl) (fun _ _ _ h => h) (Or.inl ⟨by rfl, ?_⟩) (by assumption) ?_
          rotate_left
          · intro W hSw
            clear hSw
            go_simp
            try with_reducible rfl
          simp only [Act.put, List.setIfInBounds_toArray, List.set_cons_zero, List.set_cons_succ]
          refine wpAnyH_take (i := 4) (oi := { dst := some 28, op := Op.load 24 (Operand.tmp 5), type := 24, pos := "outright.go:104", after := #[{ on := 3, ground := Ground.guard }], guard := some (3, true) }) (v := undef) rfl (by kernel_rfl) (by kernel_rfl) (by kernel_rfl) (fun _ _ _ h => h) (Or.inr ⟨by rfl, rfl⟩) (by assumption) ?_
          simp only [Act.put, List.setIfInBounds_toArray, List.set_cons_zero, List.set_cons_succ]
          refine wpAnyH_take (i := 5) (oi := { dst := some 29, op := Op.call { callee := Callee.value (Operand.func 13), args := #[Operand.tmp 28], argTypes := #[24] }, type := 26, pos := "outright.go:104", after := #[{ on := 4, ground := Ground.data }, { on := 3, ground := Ground.chain }, { on := 3, ground := Ground.guard }], guard := some (3, true) }) (v := undef) rfl (by kernel_rfl) (by kernel_rfl) (by kernel_rfl) (fun _ _ _ h => h) (Or.inr ⟨by rfl, rfl⟩) (by assumption) ?_
          simp only [Act.put, List.setIfInBounds_toArray, List.set_cons_zero, List.set_cons_succ]
          refine wpAnyH_take (i := 6) (oi := { dst := some 30, op := Op.binOp BinOp.eql 26 (Operand.tmp 29) (Operand.const (Value.int IntKind.i64 0)) 26, type := 4, pos := "outright.go:104", after := #[{ on := 5, ground := Ground.data }, { on := 3, ground := Ground.guard }], guard := some (3, true) }) (v := undef) rfl (by kernel_rfl) (by kernel_rfl) (by kernel_rfl) (fun _ _ _ h => h) (Or.inr ⟨by rfl, rfl⟩) (by assumption) ?_
          simp only [Act.put, List.setIfInBounds_toArray, List.set_cons_zero, List.set_cons_succ]
          refine wpAnyH_take (i := 7) (oi := { dst := some 31, op := Op.pick (Operand.tmp 27) (Operand.tmp 30) (Operand.const (Value.bool false)), type := 4, pos := "outright.go:104", after := #[{ on := 3, ground := Ground.data }, { on := 6, ground := Ground.data }], guard := none }) (v := ?_) rfl (by kernel_rfl) (by kernel_rfl) (by kernel_rfl) (fun _ _ _ h => h) (Or.inl ⟨by rfl, ?_⟩) (by assumption) ?_
          rotate_left
          · intro W hSw
            clear hSw
            go_simp
            try with_reducible rfl
          simp only [Act.put, List.setIfInBounds_toArray, List.set_cons_zero, List.set_cons_succ]
          refine wpAnyH_take (i := 8) (oi := { dst := some 32, op := Op.move (Operand.tmp 31), type := 4, pos := "outright.go:104", after := #[{ on := 7, ground := Ground.data }, { on := 5, ground := Ground.chain }], guard := none }) (v := ?_) rfl (by kernel_rfl) (by kernel_rfl) (by kernel_rfl) (fun _ _ _ h => h) (Or.inl ⟨by rfl, ?_⟩) (by assumption) ?_
          rotate_left
          · intro W hSw
            clear hSw
            go_simp
            try with_reducible rfl
          simp only [Act.put, List.setIfInBounds_toArray, List.set_cons_zero, List.set_cons_succ]
          refine wpAnyH_take (i := 9) (oi := { dst := some 33, op := Op.load 24 (Operand.tmp 4), type := 24, pos := "outright.go:104", after := #[{ on := 8, ground := Ground.guard }], guard := some (8, true) }) (v := undef) rfl (by kernel_rfl) (by kernel_rfl) (by kernel_rfl) (fun _ _ _ h => h) (Or.inr ⟨by rfl, rfl⟩) (by assumption) ?_
          simp only [Act.put, List.setIfInBounds_toArray, List.set_cons_zero, List.set_cons_succ]
          refine wpAnyH_take (i := 10) (oi := { dst := some 34, op := Op.call { callee := Callee.value (Operand.func 12), args := #[Operand.tmp 33], argTypes := #[24] }, type := 9, pos := "outright.go:104", after := #[{ on := 9, ground := Ground.data }, { on := 8, ground := Ground.chain }, { on := 8, ground := Ground.guard }], guard := some (8, true) }) (v := undef) rfl (by kernel_rfl) (by kernel_rfl) (by kernel_rfl) (fun _ _ _ h => h) (Or.inr ⟨by rfl, rfl⟩) (by assumption) ?_
          simp only [Act.put, List.setIfInBounds_toArray, List.set_cons_zero, List.set_cons_succ]
          refine wpAnyH_take (i := 11) (oi := { dst := some 35, op := Op.load 24 (Operand.tmp 5), type := 24, pos := "outright.go:104", after := #[{ on := 8, ground := Ground.guard }], guard := some (8, true) }) (v := undef) rfl (by kernel_rfl) (by kernel_rfl) (by kernel_rfl) (fun _ _ _ h => h) (Or.inr ⟨by rfl, rfl⟩) (by assumption) ?_
          simp only [Act.put, List.setIfInBounds_toArray, List.set_cons_zero, List.set_cons_succ]
          refine wpAnyH_take (i := 12) (oi := { dst := some 36, op := Op.call { callee := Callee.value (Operand.func 12), args := #[Operand.tmp 35], argTypes := #[24] }, type := 9, pos := "outright.go:104", after := #[{ on := 11, ground := Ground.data }, { on := 10, ground := Ground.chain }, { on := 8, ground := Ground.guard }], guard := some (8, true) }) (v := undef) rfl (by kernel_rfl) (by kernel_rfl) (by kernel_rfl) (fun _ _ _ h => h) (Or.inr ⟨by rfl, rfl⟩) (by assumption) ?_
          simp only [Act.put, List.setIfInBounds_toArray, List.set_cons_zero, List.set_cons_succ]
          refine wpAnyH_take (i := 13) (oi := { dst := some 37, op := Op.binOp BinOp.eql 9 (Operand.tmp 34) (Operand.tmp 36) 9, type := 4, pos := "outright.go:104", after := #[{ on := 10, ground := Ground.data }, { on := 12, ground := Ground.data }, { on := 8, ground := Ground.guard }], guard := some (8, true) }) (v := undef) rfl (by kernel_rfl) (by kernel_rfl) (by kernel_rfl) (fun _ _ _ h => h) (Or.inr ⟨by rfl, rfl⟩) (by assumption) ?_
          simp only [Act.put, List.setIfInBounds_toArray, List.set_cons_zero, List.set_cons_succ]
          refine wpAnyH_take (i := 14) (oi := { dst := some 38, op := Op.load 24 (Operand.tmp 4), type := 24, pos := "outright.go:104", after := #[{ on := 8, ground := Ground.guard }], guard := some (8, true) }) (v := undef) rfl (by kernel_rfl) (by kernel_rfl) (by kernel_rfl) (fun _ _ _ h => h) (Or.inr ⟨by rfl, rfl⟩) (by assumption) ?_
          simp only [Act.put, List.setIfInBounds_toArray, List.set_cons_zero, List.set_cons_succ]
          refine wpAnyH_take (i := 15) (oi := { dst := some 39, op := Op.load 24 (Operand.tmp 5), type := 24, pos := "outright.go:104", after := #[{ on := 8, ground := Ground.guard }], guard := some (8, true) }) (v := undef) rfl (by kernel_rfl) (by kernel_rfl) (by kernel_rfl) (fun _ _ _ h => h) (Or.inr ⟨by rfl, rfl⟩) (by assumption) ?_
          simp only [Act.put, List.setIfInBounds_toArray, List.set_cons_zero, List.set_cons_succ]
          refine wpAnyH_take (i := 16) (oi := { dst := some 40, op := Op.call { callee := Callee.value (Operand.func 16), args := #[Operand.tmp 38, Operand.tmp 39], argTypes := #[24, 24] }, type := 4, pos := "outright.go:104", after := #[{ on := 14, ground := Ground.data }, { on := 15, ground := Ground.data }, { on := 12, ground := Ground.chain }, { on := 8, ground := Ground.guard }], guard := some (8, true) }) (v := undef) rfl (by kernel_rfl) (by kernel_rfl) (by kernel_rfl) (fun _ _ _ h => h) (Or.inr ⟨by rfl, rfl⟩) (by assumption) ?_
          simp only [Act.put, List.setIfInBounds_toArray, List.set_cons_zero, List.set_cons_succ]
          refine wpAnyH_take (i := 17) (oi := { dst := some 41, op := Op.binOp BinOp.neq 4 (Operand.tmp 37) (Operand.tmp 40) 4, type := 4, pos := "outright.go:104", after := #[{ on := 13, ground := Ground.data }, { on := 16, ground := Ground.data }, { on := 8, ground := Ground.guard }], guard := some (8, true) }) (v := undef) rfl (by kernel_rfl) (by kernel_rfl) (by kernel_rfl) (fun _ _ _ h => h) (Or.inr ⟨by rfl, rfl⟩) (by assumption) ?_
          simp only [Act.put, List.setIfInBounds_toArray, List.set_cons_zero, List.set_cons_succ]
          refine wpAnyH_take (i := 18) (oi := { dst := some 42, op := Op.pick (Operand.tmp 32) (Operand.tmp 41) (Operand.const (Value.bool false)), type := 4, pos := "outright.go:104", after := #[{ on := 8, ground := Ground.data }, { on := 17, ground := Ground.data }], guard := none }) (v := ?_) rfl (by kernel_rfl) (by kernel_rfl) (by kernel_rfl) (fun _ _ _ h => h) (Or.inl ⟨by rfl, ?_⟩) (by assumption) ?_
          rotate_left
          · intro W hSw
            clear hSw
            go_simp
            try with_reducible rfl
          simp only [Act.put, List.setIfInBounds_toArray, List.set_cons_zero, List.set_cons_succ]
          clear HM1
          refine wpAnyH_done (by kernel_rfl) (NoPanic.normal ?_) _
          have HF := HH
          clear hHeld HH
          go_wp2
          go_meet
          exact ⟨rfl, HF.out⟩
      case rest =>
        obtain ⟨rfl, hb⟩ := hcut
        replace HA := Lib.hid (HA.out.later hb)
        replace HA2 := Lib.hid (HA2.out.later hb)
        replace HG := Lib.hid (HG.out.later hb)
        replace HR := Lib.hid (HR.out.later hb)
        replace HR2 := Lib.hid (HR2.out.later hb)
        replace HB := Lib.hid (stepB HB.out hb)
        clear hb HX HY HCO HCO2 HCX HCY
        go_upto_region 5 with (fail)
        refine wp_region_noPanic ?_
        obtain ⟨W0, rfl⟩ : ∃ W0 : World, W0 = wc := ⟨_, rfl⟩
        refine wp_region_held_drew (S := fun W => Below W0.heap.size W0 W) (by kernel_rfl) (Below.drew (Below.refl _ _)) (fun hHeld => ?_)
        have HH := Lib.hid hHeld
        have HTZ : Hid (n ≤ 100000) := Lib.hid (by have h1 := HAO.out.2.2.2.1; have h2 := HLN.out; simp only at h1; omega)
        have HTZ2 : Hid (n2 ≤ 100000) := Lib.hid (by have h1 := HAO2.out.2.2.2.1; have h2 := HLN2.out; simp only at h1; omega)
        obtain ⟨s1, hs1⟩ : ∃ z, telT (er, fo, av, ps) = z := ⟨_, rfl⟩
        obtain ⟨s2, hs2⟩ : ∃ z, telT (er2, fo2, av2, ps2) = z := ⟨_, rfl⟩
        obtain ⟨bs, hbs⟩ : ∃ z, decide (((er, fo, av, ps) : As) = (er2, fo2, av2, ps2)) = z := ⟨_, rfl⟩
        have qs : (s1.toList == s2.toList) = bs := by
          rw [seq_dec, ← hs1, ← hs2, ← hbs]
          exact one_ans HER.out HER2.out
        have HS1 : Hid (∀ V, Below W0.heap.size W0 V → Calls Tryd.prog 22 #[.agg #[.int .i64 er, .bool fo, .string av, .slice A n c]] V fun e w' => e = .returned (.string s1) ∧ Below V.heap.size V w') := Lib.hid (fun V hV => by
          have hz : (joinW (tellL er fo av ps)).size ≤ 100000 := HAO.out.2.2.2.2
          have h := tell_any er fo av A n c ps V HER.out HAO.out.2.1 HAO.out.2.2.1 (HR.out.later hV) HTZ.out (HG.out.later hV) (by omega)
          rw [show joinW (tellL er fo av ps) = s1 from hs1] at h
          exact h)
        have HS2 : Hid (∀ V, Below W0.heap.size W0 V → Calls Tryd.prog 22 #[.agg #[.int .i64 er2, .bool fo2, .string av2, .slice A2 n2 c2]] V fun e w' => e = .returned (.string s2) ∧ Below V.heap.size V w') := Lib.hid (fun V hV => by
          have hz : (joinW (tellL er2 fo2 av2 ps2)).size ≤ 100000 := HAO2.out.2.2.2.2
          have h := tell_any er2 fo2 av2 A2 n2 c2 ps2 V HER2.out HAO2.out.2.1 HAO2.out.2.2.1 (HR2.out.later hV) HTZ2.out (HG.out.later hV) (by omega)
          rw [show joinW (tellL er2 fo2 av2 ps2) = s2 from hs2] at h
          exact h)
        have HSM : Hid (∀ V, Below W0.heap.size W0 V → Calls Tryd.prog 18 #[.agg #[.int .i64 er, .bool fo, .string av, .slice A n c], .agg #[.int .i64 er2, .bool fo2, .string av2, .slice A2 n2 c2]] V fun e w' => e = .returned (.bool bs) ∧ Below V.heap.size V w') := Lib.hid (fun V hV => by
          have h := answers_any er er2 fo fo2 av av2 A A2 n n2 c c2 ps ps2 V (HR.out.later hV) (HR2.out.later hV) HTZ.out
          unfold Bl at h
          rw [hbs] at h
          exact h)
        clear hs1 hs2 hbs
        refine wpAnyH_take (i := 0) (oi := { dst := some 43, op := Op.load 37 (Operand.tmp 6), type := 37, pos := "outright.go:107", after := #[], guard := none }) (v := ?_) rfl (by kernel_rfl) (by kernel_rfl) (by kernel_rfl) (fun _ _ _ h => h) (Or.inl ⟨by rfl, ?_⟩) (by assumption) ?_
        rotate_left
        · intro W hSw
          have k0 := (HA.out.later hSw).cell 0
          have k1 := (HA.out.later hSw).cell 1
          have k2 := (HA.out.later hSw).cell 2
          have k3 := (HA.out.later hSw).cell 3
          simp only [List.getElem?_toArray, List.getElem?_cons_zero, List.getElem?_cons_succ] at k0 k1 k2 k3
          go_simp
          try with_reducible rfl
        simp only [Act.put, List.setIfInBounds_toArray, List.set_cons_zero, List.set_cons_succ]
        refine wpAnyH_take (i := 2) (oi := { dst := some 45, op := Op.load 37 (Operand.tmp 7), type := 37, pos := "outright.go:107", after := #[], guard := none }) (v := ?_) rfl (by kernel_rfl) (by kernel_rfl) (by kernel_rfl) (fun _ _ _ h => h) (Or.inl ⟨by rfl, ?_⟩) (by assumption) ?_
        rotate_left
        · intro W hSw
          have k0 := (HA2.out.later hSw).cell 0
          have k1 := (HA2.out.later hSw).cell 1
          have k2 := (HA2.out.later hSw).cell 2
          have k3 := (HA2.out.later hSw).cell 3
          simp only [List.getElem?_toArray, List.getElem?_cons_zero, List.getElem?_cons_succ] at k0 k1 k2 k3
          go_simp
          try with_reducible rfl
        simp only [Act.put, List.setIfInBounds_toArray, List.set_cons_zero, List.set_cons_succ]
        refine wpAnyH_take (i := 5) (oi := { dst := some 48, op := Op.load 37 (Operand.tmp 6), type := 37, pos := "outright.go:107", after := #[], guard := none }) (v := ?_) rfl (by kernel_rfl) (by kernel_rfl) (by kernel_rfl) (fun _ _ _ h => h) (Or.inl ⟨by rfl, ?_⟩) (by assumption) ?_
        rotate_left
        · intro W hSw
          have k0 := (HA.out.later hSw).cell 0
          have k1 := (HA.out.later hSw).cell 1
          have k2 := (HA.out.later hSw).cell 2
          have k3 := (HA.out.later hSw).cell 3
          simp only [List.getElem?_toArray, List.getElem?_cons_zero, List.getElem?_cons_succ] at k0 k1 k2 k3
          go_simp
          try with_reducible rfl
        simp only [Act.put, List.setIfInBounds_toArray, List.set_cons_zero, List.set_cons_succ]
        refine wpAnyH_take (i := 6) (oi := { dst := some 49, op := Op.load 37 (Operand.tmp 7), type := 37, pos := "outright.go:107", after := #[], guard := none }) (v := ?_) rfl (by kernel_rfl) (by kernel_rfl) (by kernel_rfl) (fun _ _ _ h => h) (Or.inl ⟨by rfl, ?_⟩) (by assumption) ?_
        rotate_left
        · intro W hSw
          have k0 := (HA2.out.later hSw).cell 0
          have k1 := (HA2.out.later hSw).cell 1
          have k2 := (HA2.out.later hSw).cell 2
          have k3 := (HA2.out.later hSw).cell 3
          simp only [List.getElem?_toArray, List.getElem?_cons_zero, List.getElem?_cons_succ] at k0 k1 k2 k3
          go_simp
          try with_reducible rfl
        simp only [Act.put, List.setIfInBounds_toArray, List.set_cons_zero, List.set_cons_succ]
        refine wpAnyH_ready (rs := [1]) (by kernel_rfl) (by simp) (AllReadyH.cons (o := { dst := some 44, op := Op.call { callee := Callee.value (Operand.func 22), args := #[Operand.tmp 43], argTypes := #[37] }, type := 9, pos := "outright.go:107", after := #[{ on := 0, ground := Ground.data }], guard := none }) rfl (fun K hK => ?_) AllReadyH.nil)
        have HCL := Lib.hid (HS1.out _ HH.out)
        go_simp
        refine HCL.out.mono ?_
        rintro e Wa ⟨rfl, hb⟩
        replace HH := Lib.hid (stepB HH.out hb)
        clear hb HCL hHeld
        refine hK.out _ _ HH.out (fun hHeld => ?_)
        clear hK K
        refine wpAnyH_ready (rs := [3]) (by kernel_rfl) (by simp) (AllReadyH.cons (o := { dst := some 46, op := Op.call { callee := Callee.value (Operand.func 22), args := #[Operand.tmp 45], argTypes := #[37] }, type := 9, pos := "outright.go:107", after := #[{ on := 2, ground := Ground.data }, { on := 1, ground := Ground.chain }], guard := none }) rfl (fun K hK => ?_) AllReadyH.nil)
        have HCL := Lib.hid (HS2.out _ HH.out)
        go_simp
        refine HCL.out.mono ?_
        rintro e Wb ⟨rfl, hb⟩
        replace HH := Lib.hid (stepB HH.out hb)
        clear hb HCL hHeld
        refine hK.out _ _ HH.out (fun hHeld => ?_)
        clear hK K
        refine wpAnyH_take (i := 4) (oi := { dst := some 47, op := Op.binOp BinOp.eql 9 (Operand.tmp 44) (Operand.tmp 46) 9, type := 4, pos := "outright.go:107", after := #[{ on := 1, ground := Ground.data }, { on := 3, ground := Ground.data }], guard := none }) (v := ?_) rfl (by kernel_rfl) (by kernel_rfl) (by kernel_rfl) (fun _ _ _ h => h) (Or.inl ⟨by rfl, ?_⟩) (by assumption) ?_
        rotate_left
        · intro W hSw
          clear hSw
          have qs2 := qs
          go_simp
          try with_reducible rfl
        simp only [Act.put, List.setIfInBounds_toArray, List.set_cons_zero, List.set_cons_succ]
        refine wpAnyH_ready (rs := [7]) (by kernel_rfl) (by simp) (AllReadyH.cons (o := { dst := some 50, op := Op.call { callee := Callee.value (Operand.func 18), args := #[Operand.tmp 48, Operand.tmp 49], argTypes := #[37, 37] }, type := 4, pos := "outright.go:107", after := #[{ on := 5, ground := Ground.data }, { on := 6, ground := Ground.data }, { on := 3, ground := Ground.chain }], guard := none }) rfl (fun K hK => ?_) AllReadyH.nil)
        have HCL := Lib.hid (HSM.out _ HH.out)
        go_simp
        refine HCL.out.mono ?_
        rintro e Wc ⟨rfl, hb⟩
        replace HH := Lib.hid (stepB HH.out hb)
        clear hb HCL hHeld
        refine hK.out _ _ HH.out (fun hHeld => ?_)
        clear hK K
        refine wpAnyH_take (i := 8) (oi := { dst := some 51, op := Op.binOp BinOp.eql 4 (Operand.tmp 47) (Operand.tmp 50) 4, type := 4, pos := "outright.go:107", after := #[{ on := 4, ground := Ground.data }, { on := 7, ground := Ground.data }], guard := none }) (v := ?_) rfl (by kernel_rfl) (by kernel_rfl) (by kernel_rfl) (fun _ _ _ h => h) (Or.inl ⟨by rfl, ?_⟩) (by assumption) ?_
        rotate_left
        · intro W hSw
          clear hSw
          go_simp
          try with_reducible rfl
        simp only [Act.put, List.setIfInBounds_toArray, List.set_cons_zero, List.set_cons_succ]
        refine wpAnyH_take (i := 9) (oi := { dst := some 8, op := Op.assign (Operand.tmp 51), type := 4, pos := "outright.go:107", after := #[{ on := 8, ground := Ground.data }, { on := 7, ground := Ground.chain }, { on := 0, ground := Ground.phase }, { on := 1, ground := Ground.phase }, { on := 2, ground := Ground.phase }, { on := 3, ground := Ground.phase }, { on := 4, ground := Ground.phase }, { on := 5, ground := Ground.phase }, { on := 6, ground := Ground.phase }, { on := 7, ground := Ground.phase }, { on := 8, ground := Ground.phase }], guard := none }) (v := ?_) rfl (by kernel_rfl) (by kernel_rfl) (by kernel_rfl) (fun _ _ _ h => h) (Or.inl ⟨by rfl, ?_⟩) (by assumption) ?_
        rotate_left
        · intro W hSw
          clear hSw
          go_simp
          try with_reducible rfl
        simp only [Act.put, List.setIfInBounds_toArray, List.set_cons_zero, List.set_cons_succ]
        clear HS1 HS2 HSM qs
        refine wpAnyH_done (by kernel_rfl) (NoPanic.normal ?_) _
        have HF := Lib.hid (stepB HB.out HH.out)
        clear hHeld HH
        go_wp2
        go_ret
        exact ⟨rfl, HF.out⟩
end Go.Proofs.YtkgdmdcnhbaidaaDoor
