/- Read, Write. -/
import Derived.Test.YtbnbhhmgfogjeaaJG
import Derived.Laws.BytesArg
import Derived.Deep.AppendSrc
namespace Go.Proofs.Ytbnbhhmgfogjeaa
open Go.ChangeShapes Go.WideShapes Go.ChangeAt Go.RowKit Go.Maps
set_option linter.unusedVariables false
set_option linter.unusedSimpArgs false

/-- a text's bytes -/
def sb (S : ByteArray) : List Int := S.data.toList.map fun x => (x.toNat : Int)
theorem sb_len (S : ByteArray) : (sb S).length = S.size := by unfold sb; rw [List.length_map, Array.length_toList]; rfl
/-- a slot's bytes as a text -/
def rdS (bs : List Int) (o n : Nat) : ByteArray := strOfNums ((bs.drop o).take n)
/-- a text put into bytes -/
def putS (bs : List Int) (o : Nat) (S : ByteArray) : List Int := bs.take o ++ sb S ++ bs.drop (o + S.size)
section
variable {W : World} {B p b : Nat} {slot fresh last : Int} {C bs : List Int}
theorem conv_run (h : PgAt W B p b slot fresh last C bs) (o n c : Nat) (hn : o + n ≤ 4096) : (convert 96 9 (.slice (some ⟨p, 4 + o, none⟩) n c)).run Try.prog W = .ok (.string (rdS bs o n)) W := by
  have hl := h.len
  refine run_convert_bytes_arg W 96 5 Try.underlying96 Try.underlying5 p (4 + o) n c ((bs.drop o).take n) (by simp; omega) (fun i hi => ?_) 9 Try.underlying9
  have := h.cb (j := o + i) (by omega)
  rw [show 4 + (o + i) = 4 + o + i from by omega] at this
  rw [this]
  congr 2
  rw [List.getD_eq_getElem?_getD, List.getD_eq_getElem?_getD, List.getElem?_take_of_lt hi, List.getElem?_drop]
theorem copy_run (h : PgAt W B p b slot fresh last C bs) (o n c : Nat) (S : ByteArray) (hS : S.size ≤ n) (hn : o + n ≤ 4096) (ty : TypeId) :
    ∃ W', (Builtin.copy_ #[96, 9] ty #[.slice (some ⟨p, 4 + o, none⟩) n c, .string S]).run Try.prog W = .ok (.int .i64 (S.size : Int)) W' ∧ PgAt W' B p b slot fresh last C (putS bs o S) ∧ W.grownBy W' (some p) := by
  refine ⟨_, ?_, h.row o S.size (sb S) (sb_len S) (by omega), grown_setRow _ _ _⟩
  have hst := store_row h o S.size (sb S) (sb_len S) (by omega)
  have hb : (sb S).map by8 = byteCells S := by
    unfold sb byteCells by8
    rw [List.map_map]; rfl
  have hf := firstCells_string (P := Try.prog) S W
  have hm : Nat.min S.size n = S.size := Nat.min_eq_left hS
  rw [hb] at hst
  simp [Builtin.copy_, run_underlying Try.underlying96, Builtin.lenOf, size5, hm, hf, hst, hb, goInt]
theorem clear_nil (A : Option Addr) (c : Nat) (ty : TypeId) (W : World) : (Builtin.clear_ #[96] ty #[.slice A 0 c]).run Try.prog W = .ok (.tuple #[]) W := by
  cases A <;> simp [Builtin.clear_, run_underlying Try.underlying96]
theorem sl_from (p o m c n : Nat) (hn : n ≤ m) (hm : m ≤ c) (W : World) : ∃ A, (∀ W, (Instr.slice 96 (.slice (some ⟨p, o, none⟩) m c) (some (.int .i64 (n : Int))) none none).run Try.prog W = .ok (.slice A (m - n) (c - n)) W) ∧ (n < c → A = some ⟨p, o + n, none⟩) := by
  have ht' : Try.prog.underlying 96 = some (.slice (Try.prog.elem 96)) := by simp [Program.elem, Try.underlying96]
  refine ⟨some (if c = n then ⟨p, o, none⟩ else (⟨p, o, none⟩ : Addr).add (n * 1)), fun W => ?_, fun h => ?_⟩
  · rw [run_slice_l W 96 _ _ _ ht' .i64 _ (by omega) (by omega), el39, size5]
    by_cases e : c = n
    · simp [Result.andThen, sliced, e]
    · simp [Result.andThen, sliced, e]
  · rw [if_neg (by omega), Addr.add_mid, Nat.mul_one]
end
set_option maxRecDepth 100000 in
set_option maxHeartbeats 4000000 in
theorem read_no (B p b : Nat) (slot fresh last : Int) (C bs : List Int) (x : Int) (w : World) (h : PgAt w B p b slot fresh last C bs) (hx : (Lit.int .u16 x).wf = true) (hi : isC C x = false) : Calls Try.prog 38 #[.pointer (some ⟨p, 0, none⟩), .int .u16 x] w fun e w' => e = .returned (.tuple #[.string ByteArray.empty, .int .i64 5]) ∧ Below w.heap.size w w' := by
  have HR := Lib.hid (refused_any B p b slot fresh last C bs x w h hx 5 (by rw [hi]; rfl))
  clear h hx hi
  go_enter Try.func38, Try.ntmps38
  go_wp2_with fail
  refine HR.out.mono ?_
  rintro e w1 ⟨rfl, hb⟩
  have HB := Lib.hid hb
  clear hb HR
  go_wp2
  go_ret2
  exact ⟨rfl, HB.out⟩
set_option maxRecDepth 100000 in
set_option maxHeartbeats 4000000 in
theorem read_of (B p b s o : Nat) (fresh last : Int) (C bs : List Int) (w : World) (h : PgAt w B p b (s : Int) fresh last C bs) (hs : 2 ≤ s) (ho : o + s ≤ 4096) (hi : isC C (o : Int) = true) : Calls Try.prog 38 #[.pointer (some ⟨p, 0, none⟩), .int .u16 (o : Int)] w fun e w' => e = .returned (.tuple #[.string (rdS bs o s), .int .i64 0]) ∧ Below w.heap.size w w' := by
  have hx : (Lit.int .u16 (o : Int)).wf = true := wf16 (by omega) (by omega)
  have HR := Lib.hid (refused_any B p b (s : Int) fresh last C bs o w h hx 0 (by rw [hi]; rfl))
  have H := Lib.hid h
  obtain ⟨r, hr⟩ : ∃ r, rdS bs o s = r := ⟨_, rfl⟩
  have HCV : Hid (∀ W, PgAt W B p b (s : Int) fresh last C bs → (convert 96 9 (.slice (some ⟨p, 4 + o, none⟩) s (4096 - o))).run Try.prog W = .ok (.string r) W) := fun W hW => by rw [← hr]; exact conv_run hW o s _ ho
  rw [hr]
  clear h hi hr hx
  go_enter Try.func38, Try.ntmps38
  go_wp2_with fail
  refine HR.out.mono ?_
  rintro e w1 ⟨rfl, hb⟩
  have H1 := Lib.hid (H.out.later hb)
  have HB1 := Lib.hid hb
  clear hb HR H
  go_wp2_with fail
  refine (at_any B p b s o fresh last C bs w1 H1.out hs ho).mono ?_
  rintro e w2 ⟨rfl, hb⟩
  have hcv := HCV.out w2 (H1.out.later hb)
  have HB2 := Lib.hid (stepB HB1.out hb)
  clear hb HCV H1 HB1
  go_wp2
  go_ret2
  exact ⟨rfl, HB2.out⟩
set_option maxRecDepth 100000 in
set_option maxHeartbeats 4000000 in
theorem write_no (B p b : Nat) (slot fresh last : Int) (C bs : List Int) (x : Int) (S : ByteArray) (w : World) (h : PgAt w B p b slot fresh last C bs) (hx : (Lit.int .u16 x).wf = true) (hi : isC C x = false) : Calls Try.prog 40 #[.pointer (some ⟨p, 0, none⟩), .int .u16 x, .string S] w fun e w' => e = .returned (.int .i64 5) ∧ Below w.heap.size w w' := by
  have HR := Lib.hid (refused_any B p b slot fresh last C bs x w h hx 5 (by rw [hi]; rfl))
  clear h hx hi
  go_enter Try.func40, Try.ntmps40
  go_wp2_with fail
  refine HR.out.mono ?_
  rintro e w1 ⟨rfl, hb⟩
  have HB := Lib.hid hb
  clear hb HR
  go_wp2
  go_ret
  exact ⟨rfl, HB.out⟩
set_option maxRecDepth 100000 in
set_option maxHeartbeats 4000000 in
theorem write_long (B p b s o : Nat) (fresh last : Int) (C bs : List Int) (S : ByteArray) (w : World) (h : PgAt w B p b (s : Int) fresh last C bs) (ho : o ≤ 4095) (hi : isC C (o : Int) = true) (hS : s < S.size) : Calls Try.prog 40 #[.pointer (some ⟨p, 0, none⟩), .int .u16 (o : Int), .string S] w fun e w' => e = .returned (.int .i64 40) ∧ Below w.heap.size w w' := by
  have hx : (Lit.int .u16 (o : Int)).wf = true := wf16 (by omega) (by omega)
  have HR := Lib.hid (refused_any B p b (s : Int) fresh last C bs o w h hx 0 (by rw [hi]; rfl))
  have H := Lib.hid h
  have d1 : decide ((s : Int) < (S.size : Int)) = true := decide_eq_true (by omega)
  clear h hi hx
  go_enter Try.func40, Try.ntmps40
  go_wp2_with fail
  refine HR.out.mono ?_
  rintro e w1 ⟨rfl, hb⟩
  have k0 := (H.out.later hb).c0
  have HB1 := Lib.hid hb
  clear hb HR H
  go_wp2
  go_ret
  exact ⟨rfl, HB1.out⟩
set_option maxRecDepth 100000 in
set_option maxHeartbeats 4000000 in
theorem write_of (B p b s o : Nat) (fresh last : Int) (C bs : List Int) (S : ByteArray) (w : World) (h : PgAt w B p b (s : Int) fresh last C bs) (hs : 2 ≤ s) (ho : o + s ≤ 4096) (hi : isC C (o : Int) = true) (hS : S.size ≤ s) : Calls Try.prog 40 #[.pointer (some ⟨p, 0, none⟩), .int .u16 (o : Int), .string S] w fun e w' => e = .returned (.int .i64 0) ∧ PgAt w' B p b (s : Int) fresh last C (fillZ (putS bs o S) (o + S.size) (s - S.size)) ∧ Fr w w' p b := by
  have hx : (Lit.int .u16 (o : Int)).wf = true := wf16 (by omega) (by omega)
  have HR := Lib.hid (refused_any B p b (s : Int) fresh last C bs o w h hx 0 (by rw [hi]; rfl))
  have H := Lib.hid h
  have d1 : decide ((s : Int) < (S.size : Int)) = false := decide_eq_false (by omega)
  clear h hi hx
  go_enter Try.func40, Try.ntmps40
  go_wp2_with fail
  refine HR.out.mono ?_
  rintro e w1 ⟨rfl, hb⟩
  have H1 := Lib.hid (H.out.later hb)
  have HF1 : Hid (Fr w w1 p b) := Fr.of_below hb
  have k0 := H1.out.c0
  clear hb HR H
  go_wp2_with fail
  refine (at_any B p b s o fresh last C bs w1 H1.out hs ho).mono ?_
  rintro e w2 ⟨rfl, hb⟩
  have H2 := Lib.hid (H1.out.later hb)
  have HF2 : Hid (Fr w w2 p b) := HF1.out.trans (Fr.of_below hb)
  clear hb k0 H1 HF1
  obtain ⟨w3, hcp, h3, hg3⟩ := copy_run H2.out o s (4096 - o) S hS ho 3
  obtain ⟨A, hsl, hA⟩ := sl_from p (4 + o) s (4096 - o) S.size hS (by omega) w3
  have HF3 : Hid (Fr w w3 p b) := HF2.out.trans (Fr.of_p hg3)
  have hcl : ∃ w4, (Builtin.clear_ #[96] 0 #[.slice A (s - S.size) (4096 - o - S.size)]).run Try.prog w3 = .ok (.tuple #[]) w4 ∧ PgAt w4 B p b (s : Int) fresh last C (fillZ (putS bs o S) (o + S.size) (s - S.size)) ∧ Fr w w4 p b := by
    by_cases e : S.size = s
    · rw [show s - S.size = 0 from by omega]
      exact ⟨w3, clear_nil A _ 0 w3, by unfold fillZ; simpa using h3, HF3.out⟩
    · rw [hA (by omega)]
      obtain ⟨w4, h1, h2, h4⟩ := clear_run h3 (o + S.size) (s - S.size) (4096 - o - S.size) (by omega) 0
      rw [show 4 + (o + S.size) = 4 + o + S.size from by omega] at h1
      exact ⟨w4, h1, h2, HF3.out.trans (Fr.of_p h4)⟩
  obtain ⟨w4, hcl, h4, hf4⟩ := hcl
  have H4 := Lib.hid h4
  have HF4 := Lib.hid hf4
  clear h3 hg3 hA h4 hf4 H2 HF2 HF3
  go_wp2
  go_ret
  exact ⟨rfl, H4.out, HF4.out⟩
end Go.Proofs.Ytbnbhhmgfogjeaa
