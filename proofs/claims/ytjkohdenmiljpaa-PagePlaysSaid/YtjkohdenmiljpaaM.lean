/- The examples. -/
import Derived.Test.YtjkohdenmiljpaaK
namespace Go.Proofs.Ytjkohdenmiljpaa
open Go.ChangeShapes Go.WideShapes Go.ChangeAt Go.RowKit Go.Maps
set_option linter.unusedVariables false
set_option linter.unusedSimpArgs false

theorem info5 : ∃ i : TypeInfo, Try.prog.info? 5 = some i ∧ i.zero = some (.int .u8 0) ∧ i.size = 1 ∧ i.bytes = 1 := ⟨_, rfl, rfl, rfl, rfl⟩
theorem mk998 (W : World) : (Instr.makeSlice 39 (.int .i64 998) (.int .i64 998)).run Try.prog W = .ok (.slice (some ⟨W.heap.size, 0, none⟩) 998 998) (W.alloc (.cells (madeCells #[.int .u8 0] 998) 5)) := by
  obtain ⟨i, hi, hz, hs, hb⟩ := info5
  have := run_make (P := Try.prog) W 39 5 i (.int .u8 0) Try.underlying39 hi hz .i64 .i64 998 998 (by omega) (by omega) (by rw [hb]; omega) (by omega)
  rw [hs] at this
  exact this
theorem made_at (j : Nat) (h : j < 998) : (madeCells #[Value.int .u8 0] 998)[j]? = some (.int .u8 0) := by
  unfold madeCells
  simp [h, Nat.mod_one]
theorem strz_size : (strOfNums (List.replicate 998 0)).size = 998 := by rw [strOfNums_size, List.length_replicate]
set_option maxRecDepth 100000 in
set_option maxHeartbeats 4000000 in
theorem awake_any (w : World) : Calls Try.prog 11 #[] w fun e w' => e = .returned (.bool true) ∧ Below w.heap.size w w' := by
  go_enter Try.func11, Try.ntmps11
  go_wp2_with fail
  refine (aw_new w).mono ?_
  rintro e w0 ⟨rfl, h, hb⟩
  have H := Lib.hid h
  have HB := Lib.hid hb
  have HP := Lib.hid h.hp
  have HQ := Lib.hid h.own.1
  clear h hb
  generalize w.heap.size + 1 = p at *
  go_wp2_with fail
  refine (aw_a0 w.heap.size p w.heap.size w0 H.out).mono ?_
  rintro e w1 ⟨rfl, h, hf⟩
  replace H := Lib.hid h
  replace HB := Lib.hid (hf.below HB.out HB.out.size HP.out HQ.out)
  clear h hf
  go_wp2_with fail
  refine (aw_a1 w.heap.size p w.heap.size w1 H.out).mono ?_
  rintro e w2 ⟨rfl, h, hf⟩
  replace H := Lib.hid h
  replace HB := Lib.hid (hf.below HB.out HB.out.size HP.out HQ.out)
  clear h hf
  go_wp2_with fail
  refine (aw_a2 w.heap.size p w.heap.size w2 H.out).mono ?_
  rintro e w3 ⟨rfl, h, hf⟩
  replace H := Lib.hid h
  replace HB := Lib.hid (hf.below HB.out HB.out.size HP.out HQ.out)
  clear h hf
  go_wp2_with fail
  refine (aw_a3 w.heap.size p w.heap.size w3 H.out).mono ?_
  rintro e w4 ⟨rfl, h, hf⟩
  replace H := Lib.hid h
  replace HB := Lib.hid (hf.below HB.out HB.out.size HP.out HQ.out)
  clear h hf
  go_wp2_with fail
  refine (aw_full w.heap.size p w.heap.size w4 H.out).mono ?_
  rintro e w5 ⟨rfl, hb⟩
  replace H := Lib.hid (H.out.later hb)
  replace HB := Lib.hid (stepB HB.out hb)
  clear hb
  go_wp2_with fail
  refine (aw_err w.heap.size p w.heap.size w5 H.out).mono ?_
  rintro e w6 ⟨rfl, hb⟩
  replace H := Lib.hid (H.out.later hb)
  replace HB := Lib.hid (stepB HB.out hb)
  clear hb
  go_wp2_with fail
  refine (aw_f1 w.heap.size p w.heap.size w6 H.out).mono ?_
  rintro e w7 ⟨rfl, h, hf⟩
  replace H := Lib.hid h
  replace HB := Lib.hid (hf.below HB.out HB.out.size HP.out HQ.out)
  clear h hf
  go_wp2_with fail
  refine (aw_f2 w.heap.size p w.heap.size w7 H.out).mono ?_
  rintro e w8 ⟨rfl, h, hf⟩
  replace H := Lib.hid h
  replace HB := Lib.hid (hf.below HB.out HB.out.size HP.out HQ.out)
  clear h hf
  go_wp2_with fail
  refine (aw_b1 w.heap.size p w.heap.size w8 H.out).mono ?_
  rintro e w9 ⟨rfl, h, hf⟩
  replace H := Lib.hid h
  replace HB := Lib.hid (hf.below HB.out HB.out.size HP.out HQ.out)
  clear h hf
  go_wp2_with fail
  refine (aw_b2 w.heap.size p w.heap.size w9 H.out).mono ?_
  rintro e w10 ⟨rfl, h, hf⟩
  replace H := Lib.hid h
  replace HB := Lib.hid (hf.below HB.out HB.out.size HP.out HQ.out)
  clear h hf
  go_wp2_with fail
  refine (aw_w w.heap.size p w.heap.size w10 H.out).mono ?_
  rintro e w11 ⟨rfl, h, hf⟩
  replace H := Lib.hid h
  replace HB := Lib.hid (hf.below HB.out HB.out.size HP.out HQ.out)
  clear h hf
  go_wp2_with fail
  refine (aw_r w.heap.size p w.heap.size w11 H.out).mono ?_
  rintro e w12 ⟨rfl, hb⟩
  replace H := Lib.hid (H.out.later hb)
  replace HB := Lib.hid (stepB HB.out hb)
  clear hb
  obtain ⟨r, hr⟩ : ∃ r, ab998 = r := ⟨_, rfl⟩
  obtain ⟨z, hz⟩ : ∃ z, strOfNums (List.replicate 998 0) = z := ⟨_, rfl⟩
  obtain ⟨zc, hzc⟩ : ∃ c, madeCells #[Value.int .u8 0] 998 = c := ⟨_, rfl⟩
  have hre : (⟨#[97, 98]⟩ : ByteArray) ++ z = r := by rw [← hr, ← hz]; rfl
  have hzl : z.size = 998 := by rw [← hz]; exact strz_size
  have hmk : ∀ W, (Instr.makeSlice 39 (.int .i64 998) (.int .i64 998)).run Try.prog W = .ok (.slice (some ⟨W.heap.size, 0, none⟩) 998 998) (W.alloc (.cells zc 5)) := fun W => by rw [← hzc]; exact mk998 W
  have hcv : (convert 39 9 (.slice (some ⟨w12.heap.size, 0, none⟩) 998 998)).run Try.prog (w12.alloc (.cells zc 5)) = .ok (.string z) (w12.alloc (.cells zc 5)) := by
    rw [← hz]
    refine run_convert_bytes_arg _ 39 5 Try.underlying39 Try.underlying5 _ 0 998 998 (List.replicate 998 0) (by simp) (fun i hi => ?_) 9 Try.underlying9
    have hc := (Blk.new w12 zc 5).cell i
    rw [Nat.zero_add, hc, ← hzc, made_at i hi, List.getD_eq_getElem?_getD, List.getElem?_replicate, if_pos hi]
    rfl
  have hba : Below w12.heap.size w12 (w12.alloc (.cells zc 5)) := (Below.refl _ _).alloc (Nat.le_refl _) _
  rw [hr]
  replace H := Lib.hid (H.out.later hba)
  replace HB := Lib.hid (stepB HB.out hba)
  clear hba hz hr hzc
  go_wp2_with fail
  refine (aw_n w.heap.size p w.heap.size _ H.out).mono ?_
  rintro e w99 ⟨rfl, hb⟩
  replace HB := Lib.hid (stepB HB.out hb)
  clear hb H hcv hmk
  go_wp2
  go_ret
  exact ⟨rfl, HB.out⟩
end Go.Proofs.Ytjkohdenmiljpaa
