/- An engine in memory: one of its calls. -/
import Derived.Test.YtbncpfkoeahhpaaCDd
namespace Go.Proofs.Ytbncpfkoeahhpaa
open Go.ChangeShapes Go.WideShapes Go.ChangeAt Go.RowKit Go.Maps
set_option linter.unusedVariables false
set_option linter.unusedSimpArgs false

set_option maxRecDepth 100000 in
set_option maxHeartbeats 8000000 in
theorem chread_any (B q : Nat) (cf : Conf) (a m : Nat) (st : AS) (S : Nat → Prop) (nd : Int → Nd) (U : List Int) (K : Nat) (w : World) (h : CR w B q cf a m st S) (hi : CI m st nd U K) (x : Int) (hx : hR x) : Calls Try.prog 9 #[.pointer (some ⟨q, 0, none⟩), .int .u64 x] w fun e w' => e = .returned (.tuple #[ndv (if isA st x then nd x else nd0), .bool (isA st x)]) ∧ Below w.heap.size w w' := by
  have H := Lib.hid h
  have HI := Lib.hid hi
  have hm := h.m256
  have hb0 : Below w.heap.size w (w.alloc (.cells #[.int .i64 0, .int .i64 0, .bool false, .string { data := #[] }, .int .u64 0] 31)) := (Below.refl _ _).alloc (Nat.le_refl _) _
  have HK0 : Hid (Blk (w.alloc (.cells #[.int .i64 0, .int .i64 0, .bool false, .string { data := #[] }, .int .u64 0] 31)) w.heap.size #[.int .i64 0, .int .i64 0, .bool false, .string { data := #[] }, .int .u64 0] 31) := Blk.new _ _ _
  have HB0 := Lib.hid hb0
  have HR0 := Lib.hid (h.later hb0)
  have HQ : Hid (w.heap.size ≤ w.heap.size) := Nat.le_refl _
  clear h hi hb0
  have c8 := HR0.out.c8
  have hbn : Try.prog.built 31 [] = some #[.int .i64 0, .int .i64 0, .bool false, .string { data := #[] }, .int .u64 0] := by kernel_rfl
  by_cases hi : isA st x = true
  · obtain ⟨hv, hrd⟩ := HI.out.val x hx hi
    have HD := Lib.hid (dec_slot hv hm)
    have hre : rdAE x st = 0 := by unfold rdAE; rw [if_pos hi]
    rw [if_pos hi, hi]
    have HRD := Lib.hid (arread_any B a (27 + m) st S _ HR0.out.ar x hx.1 hx.2)
    rw [hrd, hre] at HRD
    generalize nd x = n at *
    obtain ⟨⟨wr_, t, b, v⟩, y⟩ := n
    obtain ⟨TT, hT⟩ : ∃ TT, padT (27 + m) (encT ((wr_, t, b, v), y)) = TT := ⟨_, rfl⟩
    rw [hT] at HD HRD
    have HVN := Lib.hid hv
    have HDC : Hid (∀ W, Calls Try.prog 31 #[.string TT] W fun e w' => e = .returned (.agg #[.int .i64 wr_, .int .i64 t, .bool b, .string v, .int .u64 y]) ∧ Below W.heap.size W w') := fun W => by
      obtain ⟨d1, d2, d3, d4, d5, d6, d7, d8⟩ := HD.out
      have hvn := HVN.out
      have := decode_any TT W d1 d2 d3 (by rw [d4]; exact hvn.1.2) (by rw [d5]; have := hvn.2.1.2; simp only at this ⊢; omega)
      rw [d4, d5, d6, d7, d8] at this
      exact this
    show Calls _ _ _ _ (fun e w' => e = .returned (.tuple #[.agg #[.int .i64 wr_, .int .i64 t, .bool b, .string v, .int .u64 y], .bool true]) ∧ _)
    clear hv hrd hre hi hT hx hbn
    go_enter Try.func9, Try.ntmps9
    go_upto_region 1 with (fail)
    generalize w.alloc (.cells #[.int .i64 0, .int .i64 0, .bool false, .string { data := #[] }, .int .u64 0] 31) = w1 at *
    obtain ⟨r, hr⟩ : ∃ r, w.heap.size = r := ⟨_, rfl⟩
    rw [hr] at HK0
    have HWR : Hid (w.heap.size ≤ r) := by rw [hr]; exact Nat.le_refl _
    try rw [hr]
    clear hr
    go_wp2_with fail
    refine HRD.out.mono ?_
    rintro e w2 ⟨rfl, hb⟩
    have HK2 := Lib.hid (HK0.out.later hb)
    have HB2 := Lib.hid (stepB HB0.out hb)
    clear hb HRD HK0 HB0 HR0 c8
    go_wp2_with fail
    refine (HDC.out w2).mono ?_
    rintro e w3 ⟨rfl, hb⟩
    have HK3 := Lib.hid (HK2.out.later hb)
    have HB3 := Lib.hid (stepB HB2.out hb)
    clear hb HDC HK2 HB2
    have c0 := HK3.out.cell 0
    have c1 := HK3.out.cell 1
    have c2 := HK3.out.cell 2
    have c3 := HK3.out.cell 3
    have c4 := HK3.out.cell 4
    have f := HK3.out.frozen
    have hlq := HK3.out.lt
    simp only [List.getElem?_toArray, List.getElem?_cons_zero, List.getElem?_cons_succ] at c0 c1 c2 c3 c4
    have HF := Lib.hid (S5c.blk (a := .int .i64 wr_) (b := .int .i64 t) (c := .bool b) (d := .string v) (e := .int .u64 y) HK3.out)
    have HBF : Hid (Below w.heap.size w (S5c w3 r (.int .i64 wr_) (.int .i64 t) (.bool b) (.string v) (.int .u64 y))) := HB3.out.grown (S5c.grown w3 r _ _ _ _ _) HB3.out.size (fun j e => by injection e with e; rw [← e]; exact HWR.out)
    go_wp2
    refine bodyPost_ret (results_cell_row2 rfl _ _ r 31 _ (0, 0) _ rfl HF.out Try.underlying31 rfl (by kernel_rfl) rfl) rfl ?_
    exact ⟨rfl, HBF.out⟩
  · have hi' : isA st x = false := by simpa using hi
    have hre : rdAE x st = 5 := by unfold rdAE; rw [if_neg hi]
    have hrd : rdA (27 + m) x st = ByteArray.empty := by unfold rdA; rw [if_neg hi]
    rw [if_neg hi, hi']
    have HRD := Lib.hid (arread_any B a (27 + m) st S _ HR0.out.ar x hx.1 hx.2)
    rw [hrd, hre] at HRD
    show Calls _ _ _ _ (fun e w' => e = .returned (.tuple #[.agg #[.int .i64 0, .int .i64 0, .bool false, .string { data := #[] }, .int .u64 0], .bool false]) ∧ _)
    clear hrd hre hi hi' hx
    go_enter Try.func9, Try.ntmps9
    go_upto_region 1 with (fail)
    generalize w.alloc (.cells #[.int .i64 0, .int .i64 0, .bool false, .string { data := #[] }, .int .u64 0] 31) = w1 at *
    obtain ⟨r, hr⟩ : ∃ r, w.heap.size = r := ⟨_, rfl⟩
    rw [hr] at HK0
    have HWR : Hid (w.heap.size ≤ r) := by rw [hr]; exact Nat.le_refl _
    try rw [hr]
    clear hr
    go_wp2_with fail
    refine HRD.out.mono ?_
    rintro e w3 ⟨rfl, hb⟩
    have HK3 := Lib.hid (HK0.out.later hb)
    have HB3 := Lib.hid (stepB HB0.out hb)
    clear hb HRD HK0 HB0 HR0 c8
    have c0 := HK3.out.cell 0
    have c1 := HK3.out.cell 1
    have c2 := HK3.out.cell 2
    have c3 := HK3.out.cell 3
    have c4 := HK3.out.cell 4
    have f := HK3.out.frozen
    have hlq := HK3.out.lt
    simp only [List.getElem?_toArray, List.getElem?_cons_zero, List.getElem?_cons_succ] at c0 c1 c2 c3 c4
    have HF := Lib.hid (S5c.blk (a := .int .i64 0) (b := .int .i64 0) (c := .bool false) (d := .string { data := #[] }) (e := .int .u64 0) HK3.out)
    have HBF : Hid (Below w.heap.size w (S5c w3 r (.int .i64 0) (.int .i64 0) (.bool false) (.string { data := #[] }) (.int .u64 0))) := HB3.out.grown (S5c.grown w3 r _ _ _ _ _) HB3.out.size (fun j e => by injection e with e; rw [← e]; exact HWR.out)
    go_wp2_with (first
      | (refine wpl_build rfl 31 _ rfl _ hbn ?_)
      | fail)
    refine bodyPost_ret (results_cell_row2 rfl _ _ r 31 _ (0, 0) _ rfl HF.out Try.underlying31 rfl (by kernel_rfl) rfl) rfl ?_
    exact ⟨rfl, HBF.out⟩
end Go.Proofs.Ytbncpfkoeahhpaa
