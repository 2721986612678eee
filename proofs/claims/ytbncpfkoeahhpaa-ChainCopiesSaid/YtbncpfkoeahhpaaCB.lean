/- A version's bytes are made. -/
import Derived.Test.YtbncpfkoeahhpaaBC
import Derived.Test.YtbncpfkoeahhpaaJA
namespace Go.Proofs.Ytbncpfkoeahhpaa
open Go.ChangeShapes Go.WideShapes Go.ChangeAt Go.RowKit Go.Maps
set_option linter.unusedVariables false
set_option linter.unusedSimpArgs false

theorem row_zero (W : World) (n : Nat) (hn : n ≤ 100000) : Row (W.alloc (.cells (madeCells #[.int .u8 0] n) 5)) W.heap.size n n (List.replicate n 0) := by
  refine ⟨by simp [u8s], .inr ⟨W.heap.size, n, madeCells #[.int .u8 0] n, rfl, Nat.zero_le _, Blk.new W _ 5, Nat.le_refl _, by unfold maxLen; omega, by rw [size_madeCells, Nat.mul_one], ?_⟩⟩
  rw [Nat.mul_one]
  unfold u8s
  apply List.ext_getElem?
  intro k
  by_cases hk : k < n
  · rw [List.getElem?_take_of_lt hk, List.getElem?_map, List.getElem?_replicate, if_pos hk]
    unfold madeCells
    simp [hk, Nat.mod_one]
  · rw [List.getElem?_eq_none (by rw [List.length_take]; omega), List.getElem?_eq_none (by simp; omega)]
theorem putAt_in {bs : List Int} {a k : Nat} {m : Int} (h : bs.length = 27) (hk : a + k ≤ 27) : putAt bs (a : Int) k m = putI bs a k m := by
  unfold putAt
  rw [h, if_pos (by unfold inB; exact decide_eq_true ⟨by omega, by omega⟩)]
  simp
theorem idx102 (g m c k : Nat) (i : Int) (hi : i = (k : Int)) (h : k < m) (W : World) : (Instr.indexAt 102 (.slice (some ⟨g, 0, none⟩) m c) (.int .i64 i)).run Try.prog W = .ok (.pointer (some ⟨g, k, none⟩)) W := by
  subst hi
  have h1 : (0 : Int) ≤ (k : Int) ∧ (k : Int) < (m : Int) := by omega
  go_simp
theorem conv_row {g n c : Nat} {bs : List Int} {W : World} (h : Row W g n c bs) : (convert 102 9 (.slice (some ⟨g, 0, none⟩) n c)).run Try.prog W = .ok (.string (strOfNums bs)) W := by
  refine run_convert_bytes_arg W 102 5 Try.underlying102 Try.underlying5 g 0 n c bs h.len (fun i hi => ?_) 9 Try.underlying9
  obtain ⟨g2, off, hA, hc⟩ := h.reads.2 (by omega)
  cases hA
  rw [hc i hi]
set_option maxRecDepth 100000 in
set_option maxHeartbeats 8000000 in
theorem encode_any (wr_ t : Int) (b : Bool) (v : ByteArray) (x : Int) (w : World) (hw : 0 ≤ wr_ ∧ wr_ ≤ 9223372036854775807) (ht : 0 ≤ t ∧ t ≤ 9223372036854775807) (hx : 0 ≤ x ∧ x ≤ 18446744073709551615) (hv : v.size ≤ 65535) : Calls Try.prog 29 #[.agg #[.int .i64 wr_, .int .i64 t, .bool b, .string v, .int .u64 x]] w fun e w' => e = .returned (.string (encT ((wr_, t, b, v), x))) ∧ Below w.heap.size w w' := by
  have HENC : Hid (encT ((wr_, t, b, v), x) = strOfNums (putI (setT b (putI (putI (putI (List.replicate 27 0) 0 8 wr_) 8 8 t) 16 8 x)) 25 2 (v.size : Int)) ++ v) := rfl
  obtain ⟨E, hE⟩ : ∃ E, encT ((wr_, t, b, v), x) = E := ⟨_, rfl⟩
  have HES : Hid (E.size = 27 + v.size) := by rw [← hE]; exact encT_size _
  rw [hE] at HENC
  rw [hE]
  clear hE
  have hb0 : Below w.heap.size w (w.alloc (.cells #[.int .i64 wr_, .int .i64 t, .bool b, .string v, .int .u64 x] 31)) := (Below.refl _ _).alloc (Nat.le_refl _) _
  have HK0 : Hid (Blk (w.alloc (.cells #[.int .i64 wr_, .int .i64 t, .bool b, .string v, .int .u64 x] 31)) w.heap.size #[.int .i64 wr_, .int .i64 t, .bool b, .string v, .int .u64 x] 31) := Blk.new _ _ _
  have HB0 := Lib.hid hb0
  have HSZ : Hid ((w.alloc (.cells #[.int .i64 wr_, .int .i64 t, .bool b, .string v, .int .u64 x] 31)).heap.size = w.heap.size + 1) := by show _ = _; simp
  have HMK := Lib.hid (mk_z 27 (by decide) (w.alloc (.cells #[.int .i64 wr_, .int .i64 t, .bool b, .string v, .int .u64 x] 31)))
  clear hb0
  go_enter Try.func29, Try.ntmps29
  go_upto_region 1 with (fail)
  generalize w.alloc (.cells #[.int .i64 wr_, .int .i64 t, .bool b, .string v, .int .u64 x] 31) = w1 at *
  obtain ⟨q, hq⟩ : ∃ q, w.heap.size = q := ⟨_, rfl⟩
  have HWQ : Hid (w.heap.size ≤ q) := by rw [hq]; exact Nat.le_refl _
  rw [hq] at HK0 HSZ
  try rw [hq]
  clear hq
  have mk : (Instr.makeSlice 102 (.int .i64 27) (.int .i64 27)).run Try.prog w1 = .ok (.slice (some ⟨w1.heap.size, 0, none⟩) 27 27) (w1.alloc (.cells (madeCells #[.int .u8 0] 27) 5)) := HMK.out
  have hb1 : Below w1.heap.size w1 (w1.alloc (.cells (madeCells #[.int .u8 0] 27) 5)) := (Below.refl _ _).alloc (Nat.le_refl _) _
  have HR1 := Lib.hid (row_zero w1 27 (by decide))
  have HK1 := Lib.hid (HK0.out.later hb1)
  have HB1 := Lib.hid (stepB HB0.out hb1)
  have HQG : Hid (q ≠ w1.heap.size) := by rw [HSZ.out]; show _ ≠ _; omega
  have HWG : Hid (w.heap.size ≤ w1.heap.size) := HB0.out.size
  clear hb1 HK0 HB0 HSZ HMK
  go_upto_region 2 with (fail)
  clear mk
  generalize w1.alloc (.cells (madeCells #[.int .u8 0] 27) 5) = w2 at *
  generalize w1.heap.size = g at *
  have uw : IntKind.u64.wrap wr_ = wr_ := by unfold IntKind.wrap; simp [IntKind.bits, IntKind.signed]; omega
  have ut : IntKind.u64.wrap t = t := by unfold IntKind.wrap; simp [IntKind.bits, IntKind.signed]; omega
  have c0 := HK1.out.cell 0
  have c1 := HK1.out.cell 1
  have c2 := HK1.out.cell 2
  have c3 := HK1.out.cell 3
  have c4 := HK1.out.cell 4
  simp only [List.getElem?_toArray, List.getElem?_cons_zero, List.getElem?_cons_succ] at c0 c1 c2 c3 c4
  go_wp2_with fail
  refine (Put64_any g 27 27 0 wr_ w2 (List.replicate 27 0) HR1.out (by decide) (by omega)).mono ?_
  rintro e w3 ⟨rfl, hr, hg⟩
  have HK2 := Lib.hid (HK1.out.grown hg (fun e => by injection e with e; exact HQG.out e))
  have HB2 : Hid (Below w.heap.size w w3) := HB1.out.grown hg HB1.out.size (fun j e => by injection e with e; rw [← e]; exact HWG.out)
  rw [show putAt (List.replicate 27 0) 0 8 wr_ = (putI (List.replicate 27 0) 0 8 wr_) from putAt_in (by simp [putI_len, setT_len]) (by decide)] at hr
  have HR2 := Lib.hid hr
  clear hr hg HK1 HB1 HR1 c0 c1 c2 c3 c4
  have c0 := HK2.out.cell 0
  have c1 := HK2.out.cell 1
  have c2 := HK2.out.cell 2
  have c3 := HK2.out.cell 3
  have c4 := HK2.out.cell 4
  simp only [List.getElem?_toArray, List.getElem?_cons_zero, List.getElem?_cons_succ] at c0 c1 c2 c3 c4
  go_wp2_with fail
  refine (Put64_any g 27 27 8 t w3 (putI (List.replicate 27 0) 0 8 wr_) HR2.out (by decide) (by omega)).mono ?_
  rintro e w4 ⟨rfl, hr, hg⟩
  have HK3 := Lib.hid (HK2.out.grown hg (fun e => by injection e with e; exact HQG.out e))
  have HB3 : Hid (Below w.heap.size w w4) := HB2.out.grown hg HB2.out.size (fun j e => by injection e with e; rw [← e]; exact HWG.out)
  rw [show putAt (putI (List.replicate 27 0) 0 8 wr_) 8 8 t = (putI (putI (List.replicate 27 0) 0 8 wr_) 8 8 t) from putAt_in (by simp [putI_len, setT_len]) (by decide)] at hr
  have HR3 := Lib.hid hr
  clear hr hg HK2 HB2 HR2 c0 c1 c2 c3 c4
  have c0 := HK3.out.cell 0
  have c1 := HK3.out.cell 1
  have c2 := HK3.out.cell 2
  have c3 := HK3.out.cell 3
  have c4 := HK3.out.cell 4
  simp only [List.getElem?_toArray, List.getElem?_cons_zero, List.getElem?_cons_succ] at c0 c1 c2 c3 c4
  go_wp2_with fail
  refine (Put64_any g 27 27 16 x w4 (putI (putI (List.replicate 27 0) 0 8 wr_) 8 8 t) HR3.out (by decide) (by omega)).mono ?_
  rintro e w5 ⟨rfl, hr, hg⟩
  have HK4 := Lib.hid (HK3.out.grown hg (fun e => by injection e with e; exact HQG.out e))
  have HB4 : Hid (Below w.heap.size w w5) := HB3.out.grown hg HB3.out.size (fun j e => by injection e with e; rw [← e]; exact HWG.out)
  rw [show putAt (putI (putI (List.replicate 27 0) 0 8 wr_) 8 8 t) 16 8 x = (putI (putI (putI (List.replicate 27 0) 0 8 wr_) 8 8 t) 16 8 x) from putAt_in (by simp [putI_len, setT_len]) (by decide)] at hr
  have HR4 := Lib.hid hr
  clear hr hg HK3 HB3 HR3 c0 c1 c2 c3 c4
  have c0 := HK4.out.cell 0
  have c1 := HK4.out.cell 1
  have c2 := HK4.out.cell 2
  have c3 := HK4.out.cell 3
  have c4 := HK4.out.cell 4
  simp only [List.getElem?_toArray, List.getElem?_cons_zero, List.getElem?_cons_succ] at c0 c1 c2 c3 c4
  go_upto_region 5 with (fail)
  go_upto_if 23 with (fail)
  go_cut [3] (fun s3 W => s3 = .slice (some ⟨g, 0, none⟩) 27 27 ∧ Row W g 27 27 (setT b (putI (putI (putI (List.replicate 27 0) 0 8 wr_) 8 8 t) 16 8 x)) ∧ Blk W q #[.int .i64 wr_, .int .i64 t, .bool b, .string v, .int .u64 x] 31 ∧ Below w.heap.size w W)
  case first =>
    cases b with
    | true =>
      have i1 := idx102 g 27 27 24 24 rfl (by decide)
      have hst := HR4.out.stored 24 (.int .u8 1)
      rw [u8s_set] at hst
      have Hst := Lib.hid hst
      obtain ⟨g2, off, hA, hc⟩ := HR4.out.reads.2 (by decide)
      cases hA
      have c24 := hc 24 (by decide)
      have f24 := HR4.out.frozenAt 24
      simp only [Nat.zero_add] at c24
      clear hst hc
      go_wp2
      go_meet
      exact ⟨rfl, Hst.out.1, HK4.out.grown Hst.out.2 (fun e => by injection e with e; exact HQG.out e), HB4.out.grown Hst.out.2 HB4.out.size (fun j e => by injection e with e; rw [← e]; exact HWG.out)⟩
    | false =>
      go_wp2
      go_meet
      exact ⟨rfl, HR4.out, HK4.out, HB4.out⟩
  case rest =>
  obtain ⟨rfl, hr, hk, hb⟩ := hcut
  obtain ⟨w6, rfl⟩ : ∃ w : World, w = wc := ⟨_, rfl⟩
  have HR5 := Lib.hid hr
  have HK5 := Lib.hid hk
  have HB5 := Lib.hid hb
  clear hr hk hb HR4 HK4 HB4 c0 c1 c2 c3 c4 uw ut
  have ul : IntKind.u16.wrap (v.size : Int) = (v.size : Int) := by unfold IntKind.wrap; simp [IntKind.bits, IntKind.signed]; omega
  have c0 := HK5.out.cell 0
  have c1 := HK5.out.cell 1
  have c2 := HK5.out.cell 2
  have c3 := HK5.out.cell 3
  have c4 := HK5.out.cell 4
  simp only [List.getElem?_toArray, List.getElem?_cons_zero, List.getElem?_cons_succ] at c0 c1 c2 c3 c4
  go_wp2_with fail
  refine (Put16_any g 27 27 25 (v.size : Int) w6 (setT b (putI (putI (putI (List.replicate 27 0) 0 8 wr_) 8 8 t) 16 8 x)) HR5.out (by decide) (by omega)).mono ?_
  rintro e w7 ⟨rfl, hr, hg⟩
  have HK6 := Lib.hid (HK5.out.grown hg (fun e => by injection e with e; exact HQG.out e))
  have HB6 : Hid (Below w.heap.size w w7) := HB5.out.grown hg HB5.out.size (fun j e => by injection e with e; rw [← e]; exact HWG.out)
  rw [show putAt (setT b (putI (putI (putI (List.replicate 27 0) 0 8 wr_) 8 8 t) 16 8 x)) 25 2 (v.size : Int) = (putI (setT b (putI (putI (putI (List.replicate 27 0) 0 8 wr_) 8 8 t) 16 8 x)) 25 2 (v.size : Int)) from putAt_in (by simp [putI_len, setT_len]) (by decide)] at hr
  have HR6 := Lib.hid hr
  clear hr hg HK5 HB5 HR5 c0 c1 c2 c3 c4
  have c0 := HK6.out.cell 0
  have c1 := HK6.out.cell 1
  have c2 := HK6.out.cell 2
  have c3 := HK6.out.cell 3
  have c4 := HK6.out.cell 4
  simp only [List.getElem?_toArray, List.getElem?_cons_zero, List.getElem?_cons_succ] at c0 c1 c2 c3 c4
  have cv := conv_row HR6.out
  obtain ⟨F, hF⟩ : ∃ F, strOfNums (putI (setT b (putI (putI (putI (List.replicate 27 0) 0 8 wr_) 8 8 t) 16 8 x)) 25 2 (v.size : Int)) = F := ⟨_, rfl⟩
  rw [hF] at HENC cv
  have sa : ∀ W, (Op.stringOp .add F v).run Try.prog W = .ok (.string E) W := fun W => by
    rw [run_string_add_if, if_neg (by rw [← ByteArray.size_append, ← HENC.out, HES.out]; omega), HENC.out]
  clear hF ul
  go_wp2
  go_ret
  exact ⟨rfl, HB6.out⟩
end Go.Proofs.Ytbncpfkoeahhpaa
