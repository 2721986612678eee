/- The examples, given the sort. -/
import Derived.Test.YtlnfdcaljmfbjaaJ
namespace Go.Proofs.Ytlnfdcaljmfbjaa
open Go.ChangeShapes Go.WideShapes Go.ChangeAt Go.RowKit Go.Maps
set_option linter.unusedVariables false
set_option linter.unusedSimpArgs false

section
variable {w : World} {B p b : Nat} {C C' : List Ct} {c : Int}
theorem add_k (t : Int) (h : DdAt w B p b C) (he : addE C t = c) (hs : addS C t = C') : Calls Try.prog 10 #[.pointer (some ⟨p, 0, none⟩), .int .i64 t] w (DEnd B p b C' (.int .i64 c) w) := he ▸ hs ▸ add_any B p b C t w h
theorem less_k (t : Int) {r : Bool} (h : DdAt w B p b C) (hw : (Lit.int .i64 t).wf = true) (he : decide (ofC C t ≠ 0) = r) (hs : lessS C t = C') : Calls Try.prog 11 #[.pointer (some ⟨p, 0, none⟩), .int .i64 t] w (DEnd B p b C' (.bool r) w) := he ▸ hs ▸ less_any B p b C t w h hw
theorem pass_k (t : Int) (h : DdAt w B p b C) (he : sumC C - sumC (passS C t) = c) (hs : passS C t = C') : Calls Try.prog 12 #[.pointer (some ⟨p, 0, none⟩), .int .i64 t] w (DEnd B p b C' (.int .i64 c) w) := by
  have := pass_any B p b C t w h
  rw [he, hs] at this
  exact this
theorem all_k (h : DdAt w B p b C) (he : sumC C = c) : Calls Try.prog 14 #[.pointer (some ⟨p, 0, none⟩)] w fun x w' => x = .returned (.int .i64 c) ∧ Below w.heap.size w w' := he ▸ all_any B p b C w h
theorem of_k (t : Int) (h : DdAt w B p b C) (hw : (Lit.int .i64 t).wf = true) (he : ofC C t = c) : Calls Try.prog 13 #[.pointer (some ⟨p, 0, none⟩), .int .i64 t] w fun x w' => x = .returned (.int .i64 c) ∧ w = w' := he ▸ of_any B p b C t w h hw
end
set_option maxRecDepth 100000 in
set_option maxHeartbeats 8000000 in
theorem works_of (hS : SortSome) (hN : SortNone) (w : World) : Calls Try.prog 9 #[] w fun x w' => x = .returned (.bool true) ∧ Below w.heap.size w w' := by
  have HSS := Lib.hid hS
  have HSN := Lib.hid hN
  clear hS hN
  go_enter Try.func9, Try.ntmps9
  go_wp2_with fail
  refine (new_any w).mono ?_
  rintro x w0 ⟨rfl, ho, hb⟩
  have O0 := Lib.hid ho
  have HB0 := Lib.hid hb
  clear ho hb
  generalize w.heap.size + 1 = p at *
  go_wp2_with fail
  refine (add_k (C' := [(5, 1)]) (c := 0) 5 O0.out (by decide +kernel) (by decide +kernel)).mono ?_
  rintro x w1 ⟨rfl, ho, hg⟩
  have HB1 := Lib.hid (O0.out.below HB0.out hg)
  have O1 := Lib.hid ho
  clear ho hg O0 HB0
  go_wp2_with fail
  refine (add_k (C' := [(3, 1), (5, 1)]) (c := 0) 3 O1.out (by decide +kernel) (by decide +kernel)).mono ?_
  rintro x w2 ⟨rfl, ho, hg⟩
  have HB2 := Lib.hid (O1.out.below HB1.out hg)
  have O2 := Lib.hid ho
  clear ho hg O1 HB1
  go_wp2_with fail
  refine (add_k (C' := [(3, 1), (5, 2)]) (c := 0) 5 O2.out (by decide +kernel) (by decide +kernel)).mono ?_
  rintro x w3 ⟨rfl, ho, hg⟩
  have HB3 := Lib.hid (O2.out.below HB2.out hg)
  have O3 := Lib.hid ho
  clear ho hg O2 HB2
  go_wp2_with fail
  refine (all_k (c := 3) O3.out (by decide +kernel)).mono ?_
  rintro x w4 ⟨rfl, hb⟩
  have O4 := Lib.hid (O3.out.later hb)
  have HB4 := Lib.hid (stepB HB3.out hb)
  clear hb O3 HB3
  go_wp2_with fail
  refine (of_k (c := 2) 5 O4.out (wf64 (by decide)) (by decide +kernel)).mono ?_
  rintro x _ ⟨rfl, rfl⟩
  go_wp2_with fail
  refine (counts_of HSS.out HSN.out _ _ _ _ _ O4.out).mono ?_
  rintro x w5 ⟨A, c, rfl, hsl, hb⟩
  have O5 := Lib.hid (O4.out.later hb)
  have HB5 := Lib.hid (stepB HB4.out hb)
  clear hb O4 HB4
  obtain ⟨g, rfl, _, _, hcell⟩ := hsl (by decide)
  obtain ⟨x0, x1, _, _⟩ := hcell 0 (by decide)
  obtain ⟨y0, y1, _, _⟩ := hcell 1 (by decide)
  simp only [Nat.zero_mul, Nat.zero_add, Nat.one_mul, List.getD_cons_zero, List.getD_cons_succ, Nat.reduceAdd, Nat.reduceMul] at x0 x1 y0 y1
  have i0 := cindex g 2 c 0 0 rfl (by decide)
  have i1 := cindex g 2 c 1 1 rfl (by decide)
  simp only [Nat.zero_mul, Nat.one_mul] at i0 i1
  simp only [List.length_cons, List.length_nil, Nat.reduceAdd]
  clear hsl hcell HSS HSN
  go_wp2_with fail
  refine (less_k (C' := [(3, 1), (5, 2)]) (r := false) 4 O5.out (wf64 (by decide)) (by decide +kernel) (by decide +kernel)).mono ?_
  rintro x w6 ⟨rfl, ho, hg⟩
  have HB6 := Lib.hid (O5.out.below HB5.out hg)
  have O6 := Lib.hid ho
  clear ho hg O5 HB5
  go_wp2_with fail
  refine (less_k (C' := [(3, 1), (5, 1)]) (r := true) 5 O6.out (wf64 (by decide)) (by decide +kernel) (by decide +kernel)).mono ?_
  rintro x w7 ⟨rfl, ho, hg⟩
  have HB7 := Lib.hid (O6.out.below HB6.out hg)
  have O7 := Lib.hid ho
  clear ho hg O6 HB6
  go_wp2_with fail
  refine (pass_k (C' := [(5, 1)]) (c := 1) 4 O7.out (by decide +kernel) (by decide +kernel)).mono ?_
  rintro x w8 ⟨rfl, ho, hg⟩
  have HB8 := Lib.hid (O7.out.below HB7.out hg)
  have O8 := Lib.hid ho
  clear ho hg O7 HB7
  go_wp2_with fail
  refine (all_k (c := 1) O8.out (by decide +kernel)).mono ?_
  rintro x w9 ⟨rfl, hb⟩
  have O9 := Lib.hid (O8.out.later hb)
  have HB9 := Lib.hid (stepB HB8.out hb)
  clear hb O8 HB8
  go_wp2_with fail
  refine (add_k (C' := [(5, 1)]) (c := 1) 0 O9.out (by decide +kernel) (by decide +kernel)).mono ?_
  rintro x w10 ⟨rfl, ho, hg⟩
  have HB10 := Lib.hid (O9.out.below HB9.out hg)
  have O10 := Lib.hid ho
  clear ho hg O9 HB9
  go_wp2
  go_ret
  exact ⟨rfl, HB10.out⟩
end Go.Proofs.Ytlnfdcaljmfbjaa
