/- The examples, the limits, and what may not be, of the second stage: the loop over configs. -/
import Derived.Test.YtilaghjboiikdaaG
import Derived.Test.YtilaghjboiikdaaM0
import Derived.Test.YtilaghjboiikdaaL3
import Derived.Deep.RegionHeld3
import Derived.Deep.Fields
import Derived.ChangeSame
namespace Go.Proofs.Ytilaghjboiikdaa
open Go.ChangeShapes Go.WideShapes Go.ChangeAt Go.RowKit

def Cells8 (w : World) (g o : Nat) (c : Conf) : Prop := w.cell? ⟨g, o, none⟩ = some (.int .i64 c.ta) ∧ w.cell? ⟨g, o + 1, none⟩ = some (.int .i64 c.ac) ∧ w.cell? ⟨g, o + 2, none⟩ = some (.int .i64 c.ke) ∧ w.cell? ⟨g, o + 3, none⟩ = some (.int .i64 c.de) ∧ w.cell? ⟨g, o + 4, none⟩ = some (.int .i64 c.ts) ∧ w.cell? ⟨g, o + 5, none⟩ = some (.int .i64 c.kl) ∧ w.cell? ⟨g, o + 6, none⟩ = some (.int .i64 c.vl) ∧ w.cell? ⟨g, o + 7, none⟩ = some (.int .i64 c.fa)
theorem Cells8.keep {w w' : World} {g o : Nat} {c : Conf} (h : Cells8 w g o c) (hb : Below w.heap.size w w') : Cells8 w' g o c := by
  have k : ∀ (p : Addr) (v : Value), w.cell? p = some v → w'.cell? p = some v := fun p v e => (hb.cell (block_lt_of_cell e)).trans e
  obtain ⟨a, b, c, d, e, f, g, h⟩ := h
  exact ⟨k _ _ a, k _ _ b, k _ _ c, k _ _ d, k _ _ e, k _ _ f, k _ _ g, k _ _ h⟩
theorem lenB_no (s : ByteArray) (l m : Int) : lenB false s l m = false := rfl
theorem low_at (i : Nat) (hi : i < 9) : lowRow[i * 8 + 0]? = some (.int .i64 (lowC i).ta) ∧ lowRow[i * 8 + 1]? = some (.int .i64 (lowC i).ac) ∧ lowRow[i * 8 + 2]? = some (.int .i64 (lowC i).ke) ∧ lowRow[i * 8 + 3]? = some (.int .i64 (lowC i).de) ∧ lowRow[i * 8 + 4]? = some (.int .i64 (lowC i).ts) ∧ lowRow[i * 8 + 5]? = some (.int .i64 (lowC i).kl) ∧ lowRow[i * 8 + 6]? = some (.int .i64 (lowC i).vl) ∧ lowRow[i * 8 + 7]? = some (.int .i64 (lowC i).fa) :=
  match i, hi with
  | 0, _ => ⟨rfl, rfl, rfl, rfl, rfl, rfl, rfl, rfl⟩
  | 1, _ => ⟨rfl, rfl, rfl, rfl, rfl, rfl, rfl, rfl⟩
  | 2, _ => ⟨rfl, rfl, rfl, rfl, rfl, rfl, rfl, rfl⟩
  | 3, _ => ⟨rfl, rfl, rfl, rfl, rfl, rfl, rfl, rfl⟩
  | 4, _ => ⟨rfl, rfl, rfl, rfl, rfl, rfl, rfl, rfl⟩
  | 5, _ => ⟨rfl, rfl, rfl, rfl, rfl, rfl, rfl, rfl⟩
  | 6, _ => ⟨rfl, rfl, rfl, rfl, rfl, rfl, rfl, rfl⟩
  | 7, _ => ⟨rfl, rfl, rfl, rfl, rfl, rfl, rfl, rfl⟩
  | 8, _ => ⟨rfl, rfl, rfl, rfl, rfl, rfl, rfl, rfl⟩
theorem low_cells (w : World) (g i : Nat) (h : w.heap[g]? = some (.cells lowRow 28 (0, 0))) (hi : i < 9) : Cells8 w g (i * 8) (lowC i) := by
  have c := fun j => cell_of_row w g j lowRow 28 (0, 0) h
  have a := low_at i hi
  exact ⟨(c _).trans a.1, (c _).trans a.2.1, (c _).trans a.2.2.1, (c _).trans a.2.2.2.1, (c _).trans a.2.2.2.2.1, (c _).trans a.2.2.2.2.2.1, (c _).trans a.2.2.2.2.2.2.1, (c _).trans a.2.2.2.2.2.2.2⟩
theorem high_at (i : Nat) (hi : i < 9) : highRow[i * 8 + 0]? = some (.int .i64 (highC i).ta) ∧ highRow[i * 8 + 1]? = some (.int .i64 (highC i).ac) ∧ highRow[i * 8 + 2]? = some (.int .i64 (highC i).ke) ∧ highRow[i * 8 + 3]? = some (.int .i64 (highC i).de) ∧ highRow[i * 8 + 4]? = some (.int .i64 (highC i).ts) ∧ highRow[i * 8 + 5]? = some (.int .i64 (highC i).kl) ∧ highRow[i * 8 + 6]? = some (.int .i64 (highC i).vl) ∧ highRow[i * 8 + 7]? = some (.int .i64 (highC i).fa) :=
  match i, hi with
  | 0, _ => ⟨rfl, rfl, rfl, rfl, rfl, rfl, rfl, rfl⟩
  | 1, _ => ⟨rfl, rfl, rfl, rfl, rfl, rfl, rfl, rfl⟩
  | 2, _ => ⟨rfl, rfl, rfl, rfl, rfl, rfl, rfl, rfl⟩
  | 3, _ => ⟨rfl, rfl, rfl, rfl, rfl, rfl, rfl, rfl⟩
  | 4, _ => ⟨rfl, rfl, rfl, rfl, rfl, rfl, rfl, rfl⟩
  | 5, _ => ⟨rfl, rfl, rfl, rfl, rfl, rfl, rfl, rfl⟩
  | 6, _ => ⟨rfl, rfl, rfl, rfl, rfl, rfl, rfl, rfl⟩
  | 7, _ => ⟨rfl, rfl, rfl, rfl, rfl, rfl, rfl, rfl⟩
  | 8, _ => ⟨rfl, rfl, rfl, rfl, rfl, rfl, rfl, rfl⟩
theorem high_cells (w : World) (g i : Nat) (h : w.heap[g]? = some (.cells highRow 28 (0, 0))) (hi : i < 9) : Cells8 w g (i * 8) (highC i) := by
  have c := fun j => cell_of_row w g j highRow 28 (0, 0) h
  have a := high_at i hi
  exact ⟨(c _).trans a.1, (c _).trans a.2.1, (c _).trans a.2.2.1, (c _).trans a.2.2.2.1, (c _).trans a.2.2.2.2.1, (c _).trans a.2.2.2.2.2.1, (c _).trans a.2.2.2.2.2.2.1, (c _).trans a.2.2.2.2.2.2.2⟩

theorem conv_long (w : World) (g : Nat) (hg : g = w.heap.size) : ∃ L : ByteArray, L.size = 257 ∧ (convert 30 9 (.slice (some ⟨g, 0, none⟩) 257 257)).run Try.prog (w.alloc (.cells (Array.replicate 257 (.int .u8 0)) 5)) = .ok (.string L) (w.alloc (.cells (Array.replicate 257 (.int .u8 0)) 5)) := by
  subst hg
  refine ⟨⟨(List.replicate 257 0).toArray⟩, ?_, ?_⟩
  · show (List.replicate 257 (0 : UInt8)).toArray.size = 257
    rw [List.size_toArray, List.length_replicate]
  have hl : (List.replicate 257 (0 : UInt8)).length = 257 := List.length_replicate
  have := run_convert_bytes_back (P := Try.prog) (w.alloc (.cells (Array.replicate 257 (.int .u8 0)) 5)) 30 9 5 ⟨w.heap.size, 0, none⟩ 257 (List.replicate 257 0) Try.underlying30 Try.underlying5 Try.underlying9 (fun j hj => by
    rw [hl] at hj
    rw [add_plain]
    refine (cell_of_row _ _ _ (Array.replicate 257 (.int .u8 0)) 5 (0, 0) ?_).trans ?_
    · exact heap_alloc_new w _
    · rw [Array.getElem?_replicate, if_pos (by omega), List.getElem_replicate]; rfl)
  rw [hl] at this
  exact this
theorem cuts (L : ByteArray) (hL : L.size = 257) : ∃ A B C : ByteArray, A.size = 64 ∧ B.size = 65 ∧ C.size = 256 ∧ (∀ W, (Instr.slice 9 (.string L) none (some (.int .i64 64)) none).run Try.prog W = .ok (.string A) W) ∧ (∀ W, (Instr.slice 9 (.string L) none (some (.int .i64 65)) none).run Try.prog W = .ok (.string B) W) ∧ (∀ W, (Instr.slice 9 (.string L) none (some (.int .i64 256)) none).run Try.prog W = .ok (.string C) W) :=
  ⟨L.extract 0 64, L.extract 0 65, L.extract 0 256, size_extract L 0 64 (by omega), size_extract L 0 65 (by omega), size_extract L 0 256 (by omega), fun W => sl_to L 64 (by omega) W, fun W => sl_to L 65 (by omega) W, fun W => sl_to L 256 (by omega) W⟩
theorem lenB_dec (s : ByteArray) (n : Nat) (h : s.size = n) (l m : Int) : lenB true s l m = decide (l ≤ (n : Int) ∧ (n : Int) ≤ m) := by subst h; rfl
theorem belowS {a b : World} (h : SameW a b) : Below a.heap.size a b := h.below (Below.refl _ _)
theorem stepD {w0 a b : World} (h : Below w0.heap.size w0 a) (k : Below a.heap.size a b) : Below w0.heap.size w0 b := h.trans (k.mono h.size)
theorem keepD {w w1 : World} {p : Addr} {v : Value} (hb : Below w.heap.size w w1) (h : w.cell? p = some v) : w1.cell? p = some v := (hb.cell (block_lt_of_cell h)).trans h
theorem heap_lt {w : World} {g : Nat} {o : Obj} (h : w.heap[g]? = some o) : g < w.heap.size := by
  rcases Nat.lt_or_ge g w.heap.size with h' | h'
  · exact h'
  · rw [Array.getElem?_eq_none h'] at h; cases h
def byRow : Array Value := #[.int .i64 (-1), .int .i64 1]

theorem kl8_low : (1 : Int) ≤ (lowC 8).kl ∧ (0 : Int) ≤ (lowC 8).vl := by decide
theorem kl8_high : (1 : Int) ≤ (highC 8).kl ∧ (0 : Int) ≤ (highC 8).vl := by decide
theorem lenB_some (s : ByteArray) (l m : Int) (h : l ≤ s.size ∧ (s.size : Int) ≤ m) : lenB true s l m = true := by unfold lenB; simp [h]
theorem bent_any (x : Int) (hx : x = -1 ∨ x = 1) (w : World) : Calls Try.prog 12 #[.int .i64 x] w fun e w' => ∃ g r, ∃ C : Nat → Conf, e = .returned (.slice (some ⟨g, 0, none⟩) 9 9) ∧ w'.heap[g]? = some (.cells r 28 (0, 0)) ∧ Below w.heap.size w w' ∧
    (∀ (w : World) (i : Nat), w.heap[g]? = some (.cells r 28 (0, 0)) → i < 9 → Cells8 w g (i * 8) (C i)) ∧ (∀ i, i < 9 → mayB (C i) = decide (i = 8)) ∧ (1 : Int) ≤ (C 8).kl ∧ (0 : Int) ≤ (C 8).vl := by
  rcases hx with rfl | rfl
  · refine (bent_low w).mono ?_
    rintro e w' ⟨g, rfl, _, hr, hb⟩
    exact ⟨g, lowRow, lowC, rfl, hr, hb, fun w i h hi => low_cells w g i h hi, low_may, kl8_low⟩
  · refine (bent_high w).mono ?_
    rintro e w' ⟨g, rfl, _, hr, hb⟩
    exact ⟨g, highRow, highC, rfl, hr, hb, fun w i h hi => high_cells w g i h hi, high_may, kl8_high⟩
set_option maxRecDepth 100000 in
set_option maxHeartbeats 4000000 in
theorem names_try (w : World) : Calls Try.prog 3 #[] w fun e w' => e = .returned (.bool true) ∧ Below w.heap.size w w' := by
  go_enter Try.func3, Try.ntmps3
  go_wp2_with fail
  refine (works_any _).mono ?_
  rintro e w1 ⟨rfl, hb1⟩
  have Hb2 := Lib.hid (hb1.alloc hb1.size (.cells byRow 3))
  have hle := hb1.size
  have Ha : Hid ((w1.alloc (.cells byRow 3)).heap[w1.heap.size]? = some (.cells byRow 3 (0, 0))) := heap_alloc_new w1 _
  unfold byRow at Ha Hb2
  clear hb1
  go_wp2_with fail
  go_loopw [27] (fun i wr => ∃ k : Nat, k ≤ 2 ∧ i = .int .i64 k ∧ wr.heap[w1.heap.size]? = some (.cells #[.int .i64 (-1), .int .i64 1] 3 (0, 0)) ∧ Below w.heap.size w wr) (fun i _ => 2 - (intOf i).toNat)
  case atStart => exact ⟨0, by omega, rfl, Ha.out, Hb2.out⟩
  case round =>
    obtain ⟨k, hk, rfl, ha, hb⟩ := hrel
    clear Ha Hb2
    have Ha := Lib.hid ha
    have Hb := Lib.hid hb
    clear ha hb
    by_cases hk2 : k < 2
    · obtain ⟨x, hx, hc⟩ : ∃ x : Int, (x = -1 ∨ x = 1) ∧ wr.cell? ⟨w1.heap.size, k, none⟩ = some (.int .i64 x) := by
        rw [cell_of_row wr _ _ _ 3 (0, 0) Ha.out]
        match k, hk2 with
        | 0, _ => exact ⟨-1, .inl rfl, rfl⟩
        | 1, _ => exact ⟨1, .inr rfl, rfl⟩
      have Hx := Lib.hid hx
      clear hx
      go_wp2_with fail
      refine (bent_any x Hx.out _).mono ?_
      rintro e w2 ⟨g, r, C, rfl, hrow, hb, hcs, hm, hkl, hvl⟩
      have Hrow := Lib.hid hrow
      have Hb2 := Lib.hid hb
      have HC := Lib.hid hcs
      have HMay := Lib.hid hm
      have Hkv := Lib.hid (And.intro hkl hvl)
      clear hrow hb hcs hm hkl hvl
      go_wp2_with fail
      go_loopw [4] (fun i wx => ∃ j : Nat, j ≤ 8 ∧ i = .int .i64 j ∧ wx.heap[g]? = some (.cells r 28 (0, 0)) ∧ Below wr.heap.size wr wx) (fun i _ => 8 - (intOf i).toNat)
      case atStart => exact ⟨0, by omega, rfl, Hrow.out, Hb2.out⟩
      case round =>
        obtain ⟨j, hj, rfl, hrow, hb⟩ := hrel
        clear Hrow Hb2
        have Hrow := Lib.hid hrow
        have Hb2 := Lib.hid hb
        clear hrow hb
        by_cases hlt : j < 8
        · have cs0 := HC.out _ j Hrow.out (by omega)
          have hm0 : mayB (C j) = false := by rw [HMay.out j (by omega)]; exact decide_eq_false (by omega)
          generalize C j = c at cs0 hm0
          have C1 := Lib.hid cs0
          have HM := Lib.hid hm0
          clear cs0 hm0
          have hval : Hid (c.val = .agg #[.int .i64 c.ta, .int .i64 c.ac, .int .i64 c.ke, .int .i64 c.de, .int .i64 c.ts, .int .i64 c.kl, .int .i64 c.vl, .int .i64 c.fa]) := rfl
          have KM := Lib.hid (fun w => may_any c w)
          have KK := Lib.hid (fun s w hs => key_any c s w hs)
          have KB := Lib.hid (fun s w hs => bound_any c s w hs)
          have KV := Lib.hid (fun s w hs => value_any c s w hs)
          rw [hval.out] at KM KK KB KV
          have cs := C1.out
          unfold Cells8 at cs
          go_wp2_with fail
          clear cs
          refine (KM.out _).mono ?_
          rintro e v1 ⟨rfl, hb⟩
          rw [HM.out]
          have C2 := Lib.hid (C1.out.keep hb)
          have Hb3 := Lib.hid (Hb2.out.trans (hb.mono Hb2.out.size))
          have Hrow1 := Lib.hid ((hb.block g (heap_lt Hrow.out)).trans Hrow.out)
          clear hb
          have cs := C2.out
          unfold Cells8 at cs
          go_wp2_with fail
          clear cs
          refine (KK.out _ _ (by decide)).mono ?_
          rintro e v2 ⟨rfl, hb⟩
          rw [HM.out, lenB_no]
          have C3 := Lib.hid (C2.out.keep hb)
          have Hb4 := Lib.hid (Hb3.out.trans (hb.mono Hb3.out.size))
          have Hrow2 := Lib.hid ((hb.block g (heap_lt Hrow1.out)).trans Hrow1.out)
          clear hb
          have cs := C3.out
          unfold Cells8 at cs
          go_wp2_with fail
          clear cs
          refine (KB.out _ _ (by decide)).mono ?_
          rintro e v3 ⟨rfl, hb⟩
          rw [HM.out, lenB_no]
          have C4 := Lib.hid (C3.out.keep hb)
          have Hb5 := Lib.hid (Hb4.out.trans (hb.mono Hb4.out.size))
          have Hrow3 := Lib.hid ((hb.block g (heap_lt Hrow2.out)).trans Hrow2.out)
          clear hb
          have cs := C4.out
          unfold Cells8 at cs
          go_wp2_with fail
          clear cs
          refine (KV.out _ _ (by decide)).mono ?_
          rintro e v4 ⟨rfl, hb⟩
          rw [HM.out, lenB_no]
          have C5 := Lib.hid (C4.out.keep hb)
          have Hb6 := Lib.hid (Hb5.out.trans (hb.mono Hb5.out.size))
          have Hrow4 := Lib.hid ((hb.block g (heap_lt Hrow3.out)).trans Hrow3.out)
          clear hb
          go_wp2_with fail
          go_roundw
          case rel => exact ⟨j + 1, by omega, by go_num, Hrow4.out, Hb6.out⟩
          case measure => simp [intOf]; omega
        · have ej : j = 8 := by omega
          subst ej
          clear hlt
          have cs0 := HC.out _ 8 Hrow.out (by omega)
          have hm0 : mayB (C 8) = true := HMay.out 8 (by omega)
          generalize C 8 = c at cs0 hm0 Hkv
          have C1 := Lib.hid cs0
          have HM := Lib.hid hm0
          clear cs0 hm0
          have hval : Hid (c.val = .agg #[.int .i64 c.ta, .int .i64 c.ac, .int .i64 c.ke, .int .i64 c.de, .int .i64 c.ts, .int .i64 c.kl, .int .i64 c.vl, .int .i64 c.fa]) := rfl
          have KM := Lib.hid (fun w => may_any c w)
          have KK := Lib.hid (fun s w hs => key_any c s w hs)
          have KV := Lib.hid (fun s w hs => value_any c s w hs)
          rw [hval.out] at KM KK KV
          have cs := C1.out
          unfold Cells8 at cs
          go_wp2_with fail
          clear cs
          refine (KM.out _).mono ?_
          rintro e v1 ⟨rfl, hb⟩
          rw [HM.out]
          have C2 := Lib.hid (C1.out.keep hb)
          have Hb3 := Lib.hid (Hb2.out.trans (hb.mono Hb2.out.size))
          clear hb
          have cs := C2.out
          unfold Cells8 at cs
          go_wp2_with fail
          clear cs
          refine (KK.out _ _ (by decide)).mono ?_
          rintro e v2 ⟨rfl, hb⟩
          rw [HM.out, lenB_some _ _ _ (⟨by decide, Hkv.out.1⟩)]
          have C3 := Lib.hid (C2.out.keep hb)
          have Hb4 := Lib.hid (Hb3.out.trans (hb.mono Hb3.out.size))
          clear hb
          have cs := C3.out
          unfold Cells8 at cs
          go_wp2_with fail
          clear cs
          refine (KV.out _ _ (by decide)).mono ?_
          rintro e v3 ⟨rfl, hb⟩
          rw [HM.out, lenB_some _ _ _ (⟨by decide, Hkv.out.2⟩)]
          have Hb5 := Lib.hid (Hb4.out.trans (hb.mono Hb4.out.size))
          clear hb
          go_wp2_with fail
          go_roundw
          case rel => exact ⟨k + 1, by omega, by go_num, (Hb5.out.block _ (heap_lt Ha.out)).trans Ha.out, Hb.out.trans (Hb5.out.mono Hb.out.size)⟩
          case measure => simp [intOf]; omega
    · have hk' : k = 2 := by omega
      subst hk'
      clear hk2
      go_wp2_with fail
      refine (bent_high _).mono ?_
      rintro e w2 ⟨g, rfl, hg, hrow, hb⟩
      have hc8 := high_cells w2 g 8 hrow (by decide)
      unfold Cells8 highC at hc8
      have Hb2 := Lib.hid (Hb.out.trans (hb.mono Hb.out.size))
      clear hrow hb Ha Hb
      obtain ⟨L, hL, hcv⟩ := conv_long (w2.alloc (.cells #[.int .i64 6, .int .i64 8, .int .i64 64, .int .i64 8, .int .i64 1048576, .int .i64 64, .int .i64 256, .int .i64 8] 28)) (w2.heap.size + 1) (by simp)
      have hmk : ∀ w : World, (Instr.makeSlice 30 (.int .i64 257) (.int .i64 257)).run Try.prog w = .ok (.slice (some ⟨w.heap.size, 0, none⟩) 257 257) (w.alloc (.cells (Array.replicate 257 (.int .u8 0)) 5)) := fun _ => by kernel_rfl
      obtain ⟨A, B, C, z64, z65, z256, s1, s2, s3⟩ := cuts L hL
      have KK : Hid (∀ (t : ByteArray) (w : World), t.size ≤ maxLen → Calls Try.prog 14 #[.agg #[.int .i64 6, .int .i64 8, .int .i64 64, .int .i64 8, .int .i64 1048576, .int .i64 64, .int .i64 256, .int .i64 8], .string t] w fun e w' => e = .returned (.bool (lenB true t 1 64)) ∧ Below w.heap.size w w') := fun t w ht => key_any (highC 8) t w ht
      have KB : Hid (∀ (t : ByteArray) (w : World), t.size ≤ maxLen → Calls Try.prog 15 #[.agg #[.int .i64 6, .int .i64 8, .int .i64 64, .int .i64 8, .int .i64 1048576, .int .i64 64, .int .i64 256, .int .i64 8], .string t] w fun e w' => e = .returned (.bool (lenB true t 0 64)) ∧ Below w.heap.size w w') := fun t w ht => bound_any (highC 8) t w ht
      have KV : Hid (∀ (t : ByteArray) (w : World), t.size ≤ maxLen → Calls Try.prog 16 #[.agg #[.int .i64 6, .int .i64 8, .int .i64 64, .int .i64 8, .int .i64 1048576, .int .i64 64, .int .i64 256, .int .i64 8], .string t] w fun e w' => e = .returned (.bool (lenB true t 0 256)) ∧ Below w.heap.size w w') := fun t w ht => value_any (highC 8) t w ht
      have yA : A.size ≤ maxLen := by rw [z64]; decide
      have yB : B.size ≤ maxLen := by rw [z65]; decide
      have yC : C.size ≤ maxLen := by rw [z256]; decide
      have yL : L.size ≤ maxLen := by rw [hL]; decide
      have R1 : Hid (lenB true A 1 64 = true) := (lenB_dec _ _ z64 _ _).trans rfl
      have R2 : Hid (lenB true B 1 64 = false) := (lenB_dec _ _ z65 _ _).trans rfl
      have R3 : Hid (lenB true A 0 64 = true) := (lenB_dec _ _ z64 _ _).trans rfl
      have R4 : Hid (lenB true B 0 64 = false) := (lenB_dec _ _ z65 _ _).trans rfl
      have R5 : Hid (lenB true C 0 256 = true) := (lenB_dec _ _ z256 _ _).trans rfl
      have R6 : Hid (lenB true L 0 256 = false) := (lenB_dec _ _ hL _ _).trans rfl
      have hb0 := Hb2.out
      clear Hb2
      have Hb0 : Hid (Below w.heap.size w ((w2.alloc (.cells #[.int .i64 6, .int .i64 8, .int .i64 64, .int .i64 8, .int .i64 1048576, .int .i64 64, .int .i64 256, .int .i64 8] 28)).alloc (.cells (Array.replicate 257 (.int .u8 0)) 5))) := (hb0.alloc hb0.size _).alloc (by have := hb0.size; simp; omega) _
      have hS : ((w2.alloc (.cells #[.int .i64 6, .int .i64 8, .int .i64 64, .int .i64 8, .int .i64 1048576, .int .i64 64, .int .i64 256, .int .i64 8] 28)).alloc (.cells (Array.replicate 257 (.int .u8 0)) 5)).cell? ⟨w2.heap.size, 0, none⟩ = some (.int .i64 6) ∧ ((w2.alloc (.cells #[.int .i64 6, .int .i64 8, .int .i64 64, .int .i64 8, .int .i64 1048576, .int .i64 64, .int .i64 256, .int .i64 8] 28)).alloc (.cells (Array.replicate 257 (.int .u8 0)) 5)).cell? ⟨w2.heap.size, 1, none⟩ = some (.int .i64 8) ∧ ((w2.alloc (.cells #[.int .i64 6, .int .i64 8, .int .i64 64, .int .i64 8, .int .i64 1048576, .int .i64 64, .int .i64 256, .int .i64 8] 28)).alloc (.cells (Array.replicate 257 (.int .u8 0)) 5)).cell? ⟨w2.heap.size, 2, none⟩ = some (.int .i64 64) ∧ ((w2.alloc (.cells #[.int .i64 6, .int .i64 8, .int .i64 64, .int .i64 8, .int .i64 1048576, .int .i64 64, .int .i64 256, .int .i64 8] 28)).alloc (.cells (Array.replicate 257 (.int .u8 0)) 5)).cell? ⟨w2.heap.size, 3, none⟩ = some (.int .i64 8) ∧ ((w2.alloc (.cells #[.int .i64 6, .int .i64 8, .int .i64 64, .int .i64 8, .int .i64 1048576, .int .i64 64, .int .i64 256, .int .i64 8] 28)).alloc (.cells (Array.replicate 257 (.int .u8 0)) 5)).cell? ⟨w2.heap.size, 4, none⟩ = some (.int .i64 1048576) ∧ ((w2.alloc (.cells #[.int .i64 6, .int .i64 8, .int .i64 64, .int .i64 8, .int .i64 1048576, .int .i64 64, .int .i64 256, .int .i64 8] 28)).alloc (.cells (Array.replicate 257 (.int .u8 0)) 5)).cell? ⟨w2.heap.size, 5, none⟩ = some (.int .i64 64) ∧ ((w2.alloc (.cells #[.int .i64 6, .int .i64 8, .int .i64 64, .int .i64 8, .int .i64 1048576, .int .i64 64, .int .i64 256, .int .i64 8] 28)).alloc (.cells (Array.replicate 257 (.int .u8 0)) 5)).cell? ⟨w2.heap.size, 6, none⟩ = some (.int .i64 256) ∧ ((w2.alloc (.cells #[.int .i64 6, .int .i64 8, .int .i64 64, .int .i64 8, .int .i64 1048576, .int .i64 64, .int .i64 256, .int .i64 8] 28)).alloc (.cells (Array.replicate 257 (.int .u8 0)) 5)).cell? ⟨w2.heap.size, 7, none⟩ = some (.int .i64 8) := by
        have h : ∀ j, ((w2.alloc (.cells #[.int .i64 6, .int .i64 8, .int .i64 64, .int .i64 8, .int .i64 1048576, .int .i64 64, .int .i64 256, .int .i64 8] 28)).alloc (.cells (Array.replicate 257 (.int .u8 0)) 5)).cell? ⟨w2.heap.size, j, none⟩ = (#[.int .i64 6, .int .i64 8, .int .i64 64, .int .i64 8, .int .i64 1048576, .int .i64 64, .int .i64 256, .int .i64 8] : Array Value)[j]? := fun j => cell_of_row _ _ j _ 28 (0, 0) (heap_alloc2_old w2 _ _)
        exact ⟨h 0, h 1, h 2, h 3, h 4, h 5, h 6, h 7⟩
      have hz2 : w2.heap.size < ((w2.alloc (.cells #[.int .i64 6, .int .i64 8, .int .i64 64, .int .i64 8, .int .i64 1048576, .int .i64 64, .int .i64 256, .int .i64 8] 28)).alloc (.cells (Array.replicate 257 (.int .u8 0)) 5)).heap.size := by simp; omega
      clear z64 z65 z256 hb0
      go_wp2_with fail
      generalize hw3 : (w2.alloc (.cells #[.int .i64 6, .int .i64 8, .int .i64 64, .int .i64 8, .int .i64 1048576, .int .i64 64, .int .i64 256, .int .i64 8] 28)).alloc (.cells (Array.replicate 257 (.int .u8 0)) 5) = w3 at hS Hb0 ⊢
      clear hcv hmk hw3 hz2 hL
      go_region_held3 (fun w' => w'.cell? ⟨w2.heap.size, 0, none⟩ = some (.int .i64 6) ∧ w'.cell? ⟨w2.heap.size, 1, none⟩ = some (.int .i64 8) ∧ w'.cell? ⟨w2.heap.size, 2, none⟩ = some (.int .i64 64) ∧ w'.cell? ⟨w2.heap.size, 3, none⟩ = some (.int .i64 8) ∧ w'.cell? ⟨w2.heap.size, 4, none⟩ = some (.int .i64 1048576) ∧ w'.cell? ⟨w2.heap.size, 5, none⟩ = some (.int .i64 64) ∧ w'.cell? ⟨w2.heap.size, 6, none⟩ = some (.int .i64 256) ∧ w'.cell? ⟨w2.heap.size, 7, none⟩ = some (.int .i64 8)) (first | go_keep | (go_split_ands; refine ⟨?_, ?_, ?_, ?_, ?_, ?_, ?_, ?_⟩ <;> exact keepD hb (by assumption))) (first | (go_at_call 14; refine (KK.out _ _ (by assumption)).mono ?_; rintro e w9 ⟨rfl, hb⟩; first | rw [R1.out] | rw [R2.out]) | (go_at_call 15; refine (KB.out _ _ (by assumption)).mono ?_; rintro e w9 ⟨rfl, hb⟩; first | rw [R3.out] | rw [R4.out]) | (go_at_call 16; refine (KV.out _ _ (by assumption)).mono ?_; rintro e w9 ⟨rfl, hb⟩; first | rw [R5.out] | rw [R6.out]))
      go_wp2_with fail
      refine (cmp_co _ _ _).mono ?_
      rintro x _ ⟨rfl, rfl⟩
      rw [show co ⟨#[127]⟩ ⟨#[128]⟩ = -1 from by decide]
      go_wp2_with fail
      refine (cmp_co _ _ _).mono ?_
      rintro x _ ⟨rfl, rfl⟩
      rw [show co ⟨#[255]⟩ ⟨#[97]⟩ = 1 from by decide]
      go_wp2_with fail
      refine (cmp_co _ _ _).mono ?_
      rintro x _ ⟨rfl, rfl⟩
      rw [show co ⟨#[0]⟩ ⟨#[]⟩ = 1 from by decide]
      go_wp2_with fail
      refine (suffix_co _ _ _ _ (by decide) (by decide)).mono ?_
      rintro x v1 ⟨rfl, hs⟩
      rw [show (lcs (bl ⟨#[97, 97]⟩) (bl ⟨#[97, 97, 97]⟩) 9 : Int) = 2 from by decide]
      have hb1 := belowS hs
      clear hs
      go_wp2_with fail
      refine (suffix_co _ _ _ _ (by decide) (by decide)).mono ?_
      rintro x v2 ⟨rfl, hs⟩
      rw [show (lcs (bl ⟨#[97, 98]⟩) (bl ⟨#[98]⟩) (-5) : Int) = 0 from by decide]
      have hb2 := belowS hs
      clear hs
      go_wp2_with fail
      refine (prefix_co _ _ _ (by decide) (by decide)).mono ?_
      rintro x v3 ⟨rfl, hs⟩
      rw [show (lcp (bl ⟨#[]⟩) (bl ⟨#[97]⟩) : Int) = 0 from by decide]
      have hb3 := belowS hs
      clear hs
      go_wp2_with fail
      refine (next_any _ _ (by decide)).mono ?_
      rintro x _ ⟨rfl, rfl⟩
      rw [show (⟨#[]⟩ : ByteArray) ++ ⟨#[0]⟩ = ⟨#[0]⟩ from rfl]
      go_wp2_with fail
      refine (within_any _ _ _ _).mono ?_
      rintro x _ ⟨rfl, rfl⟩
      rw [show wi ⟨#[]⟩ ⟨#[]⟩ ⟨#[]⟩ = true from by decide]
      go_wp2_with fail
      refine (within_any _ _ _ _).mono ?_
      rintro x _ ⟨rfl, rfl⟩
      rw [show wi ⟨#[97]⟩ ⟨#[98]⟩ ⟨#[]⟩ = false from by decide]
      go_wp2_with fail
      refine (within_any _ _ _ _).mono ?_
      rintro x _ ⟨rfl, rfl⟩
      rw [show wi ⟨#[98]⟩ ⟨#[98]⟩ ⟨#[98]⟩ = false from by decide]
      go_wp2_with fail
      refine (may_any ⟨0, 0, 0, 0, 0, 0, 0, 0⟩ _).mono ?_
      rintro x v4 ⟨rfl, hb4⟩
      rw [show mayB ⟨0, 0, 0, 0, 0, 0, 0, 0⟩ = false from by decide]
      go_wp2_with fail
      go_ret
      refine ⟨rfl, ?_⟩
      repeat (first | exact Hb0.out | apply Below.drew | refine stepD ?_ (by assumption))
end Go.Proofs.Ytilaghjboiikdaa
