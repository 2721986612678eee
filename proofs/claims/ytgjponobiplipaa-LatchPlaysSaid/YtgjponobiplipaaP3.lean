/- The document's less, Drop. -/
import Derived.Test.YtgjponobiplipaaP2
namespace Go.Proofs.Ytgjponobiplipaa
open Go.ChangeShapes Go.WideShapes Go.ChangeAt Go.RowKit Go.Maps
set_option linter.unusedVariables false
set_option linter.unusedSimpArgs false

set_option maxRecDepth 100000 in
set_option maxHeartbeats 4000000 in
theorem rless_any (y z : Int) (w : World) : Calls Try.prog 28 #[.agg #[.int .u8 (y / 18446744073709551616), .int .u64 (y % 18446744073709551616)], .agg #[.int .u8 (z / 18446744073709551616), .int .u64 (z % 18446744073709551616)]] w fun x w' => x = .returned (.bool (decide (y < z))) ∧ Below w.heap.size w w' := by
  have h : (y < z) = (y / 18446744073709551616 < z / 18446744073709551616 ∨ (y / 18446744073709551616 = z / 18446744073709551616 ∧ y % 18446744073709551616 < z % 18446744073709551616)) := by
    apply propext; omega
  have HR0 : Hid (decide (y < z) = decide (y / 18446744073709551616 < z / 18446744073709551616 ∨ (y / 18446744073709551616 = z / 18446744073709551616 ∧ y % 18446744073709551616 < z % 18446744073709551616))) := by show _ = _; simp only [h]
  clear h
  generalize decide (y < z) = r at *
  generalize y / 18446744073709551616 = k1 at *
  generalize y % 18446744073709551616 = j1 at *
  generalize z / 18446744073709551616 = k2 at *
  generalize z % 18446744073709551616 = j2 at *
  have hb0 : Below w.heap.size w (w.alloc (.cells #[.int .u8 k1, .int .u64 j1] 37)) := (Below.refl _ _).alloc (Nat.le_refl _) _
  have HB : Hid (Below w.heap.size w ((w.alloc (.cells #[.int .u8 k1, .int .u64 j1] 37)).alloc (.cells #[.int .u8 k2, .int .u64 j2] 37))) := hb0.alloc hb0.size _
  have X0 := (Blk.new w #[.int .u8 k1, .int .u64 j1] 37).alloc (.cells #[.int .u8 k2, .int .u64 j2] 37)
  have X1 := Blk.new2 (B := w.heap.size + 1) (w.alloc (.cells #[.int .u8 k1, .int .u64 j1] 37)) #[.int .u8 k2, .int .u64 j2] 37 (by simp)
  have c0 := X0.cell 0
  have c1 := X0.cell 1
  have c2 := X1.cell 0
  have c3 := X1.cell 1
  simp only [List.getElem?_toArray, List.getElem?_cons_zero, List.getElem?_cons_succ] at c0 c1 c2 c3
  clear hb0 X0 X1
  by_cases h1 : k1 < k2
  · have HR : Hid (r = true) := HR0.out.trans (by simp [h1])
    have d1 : decide (k1 < k2) = true := decide_eq_true h1
    clear HR0 h1
    go_enter Try.func28, Try.ntmps28
    go_wp2
    go_ret
    exact ⟨by rw [HR.out]; rfl, HB.out⟩
  · have d1 : decide (k1 < k2) = false := decide_eq_false h1
    by_cases h2 : k1 = k2
    · subst h2
      have d2 : (k1 == k1) = true := by simp
      by_cases h3 : j1 < j2
      · have HR : Hid (r = true) := HR0.out.trans (by simp [h3])
        have d3 : decide (j1 < j2) = true := decide_eq_true h3
        clear HR0 h1 h3
        go_enter Try.func28, Try.ntmps28
        go_wp2
        go_ret
        exact ⟨by rw [HR.out]; rfl, HB.out⟩
      · have HR : Hid (r = false) := HR0.out.trans (by simp [h3])
        have d3 : decide (j1 < j2) = false := decide_eq_false h3
        clear HR0 h1 h3
        go_enter Try.func28, Try.ntmps28
        go_wp2
        go_ret
        exact ⟨by rw [HR.out]; rfl, HB.out⟩
    · have HR : Hid (r = false) := HR0.out.trans (by simp [h1, h2])
      have d2 : (k1 == k2) = false := ieq_no h2
      clear HR0 h1 h2
      go_enter Try.func28, Try.ntmps28
      go_wp2
      go_ret
      exact ⟨by rw [HR.out]; rfl, HB.out⟩
set_option maxRecDepth 100000 in
set_option maxHeartbeats 4000000 in
theorem rdrop_any (B p : Nat) (v : Value) (L : List Ct) (z t : Int) (w : World) (h : RfAt w B p v L) (hn : L.length ≤ 1000) : Calls Try.prog 20 #[.pointer (some ⟨p, 0, none⟩), .agg #[.int .u8 (z / 18446744073709551616), .int .u64 (z % 18446744073709551616)], .int .i64 t] w (RfEnd B p (dropS L z t) (dropB L z t) w) := by
  obtain ⟨A, c, rfl, hlc, hnA, hs⟩ := h.row
  have hb0 : Below w.heap.size w (w.alloc (.cells #[.int .u8 (z / 18446744073709551616), .int .u64 (z % 18446744073709551616)] 37)) := (Below.refl _ _).alloc (Nat.le_refl _) _
  have HB0 := Lib.hid hb0
  have H := Lib.hid h
  have H1 := Lib.hid (h.later hb0)
  have HX := Lib.hid (Blk.new w #[.int .u8 (z / 18446744073709551616), .int .u64 (z % 18446744073709551616)] 37)
  have x0 := HX.out.cell 0
  have x1 := HX.out.cell 1
  simp only [List.getElem?_toArray, List.getElem?_cons_zero, List.getElem?_cons_succ] at x0 x1
  have HCO : Hid (∀ W, RfAt W B p (.slice A L.length c) L → Calls Try.prog 22 #[.pointer (some ⟨p, 0, none⟩), .agg #[.int .u8 (z / 18446744073709551616), .int .u64 (z % 18446744073709551616)]] W fun x w' => x = .returned (.tuple #[.int .i64 (ofC L z), .bool (isC L z)]) ∧ Below W.heap.size W w') := fun W h => rowner_any B p _ L z W h hn
  have HS : Hid (dropS L z t = if dropB L z t then delC L z else L) := rfl
  have HA : Hid (dropB L z t = (isC L z && decide (ofC L z = t))) := rfl
  generalize dropS L z t = S at *
  generalize dropB L z t = R at *
  clear h hs hb0
  generalize hzk : z / 18446744073709551616 = zk at *
  generalize hzi : z % 18446744073709551616 = zi at *
  have HQ : Hid (∀ y W, (binOp BinOp.neq 37 (.agg #[.int .u8 (y / 18446744073709551616), .int .u64 (y % 18446744073709551616)]) (.agg #[.int .u8 zk, .int .u64 zi])).run Try.prog W = .ok (.bool (!decide (y = z))) W) := fun y W => by rw [← hzk, ← hzi]; exact ne37 y z W
  clear hzk hzi
  generalize ofC L z = oc at *
  generalize isC L z = ic at *
  go_enter Try.func20, Try.ntmps20
  go_wp2_with fail
  refine (HCO.out _ H1.out).mono ?_
  rintro x w2 ⟨rfl, hb⟩
  have H2 := Lib.hid (H1.out.later hb)
  have HX2 := Lib.hid (HX.out.later hb)
  have HB2 := Lib.hid (stepB HB0.out hb)
  clear hb x0 x1 H1 HX HB0 HCO
  by_cases hd : ic = true ∧ oc = t
  · obtain ⟨rfl, rfl⟩ := hd
    have HA2 : Hid (true = R) := (HA.out.trans (by simp)).symm
    have HS2 : Hid (delC L z = S) := by show _ = _; rw [HS.out, ← HA2.out]; rfl
    have dd : (oc != oc) = false := by simp
    clear HA HS
    go_wp2
    go_loopw [9, 10] (fun ov i wr => ∃ k : Nat, k ≤ L.length ∧ i = .int .i64 k ∧ HOwn wr w2.heap.size ov (delC (L.take k) z).length (delC (L.take k) z) ∧ Below w2.heap.size w2 wr) (fun _ i _ => L.length - (intOf i).toNat)
    case atStart => exact ⟨0, Nat.zero_le _, rfl, HOwn.none _ _, Below.refl _ _⟩
    case round =>
      obtain ⟨k, hk, rfl, ho, hb⟩ := hrel
      have hln : (delC (L.take k) z).length ≤ 1000 := by have := len_del (L.take k) z; rw [List.length_take] at this; omega
      obtain ⟨Ao, co, rfl, _⟩ := ho.sl
      have HO := Lib.hid ho
      have HRW := Lib.hid (H2.out.later hb)
      have HB1 := Lib.hid hb
      have HB := Lib.hid (stepB HB2.out hb)
      have k0 := HRW.out.blk.cell 0
      have n0 := (HX2.out.later hb).cell 0
      have n1 := (HX2.out.later hb).cell 1
      simp only [List.getElem?_toArray, List.getElem?_cons_zero, List.getElem?_cons_succ] at k0 n0 n1
      clear ho hb
      by_cases hlt : k < L.length
      · have d2 : decide ((k : Int) < (L.length : Int)) = true := decide_eq_true (by omega)
        have wk : IntKind.i64.wrap ((k : Int) + 1) = (k : Int) + 1 := IntWalk.i64_in _ (by omega)
        obtain ⟨_, _, e, _, _, hsl⟩ := HRW.out.row
        cases e
        obtain ⟨g, off, rfl, hg, hcell⟩ := hsl.2 (by omega)
        have HCL := Lib.hid (hcell k hlt)
        obtain ⟨x0, x1, x2⟩ := hcell k hlt
        have i1 := hindex g off L.length c k (k : Int) rfl hlt
        have HT := Lib.hid (del_take z hlt)
        obtain ⟨⟨y, u⟩, hy⟩ : ∃ x, L.getD k ct0 = x := ⟨_, rfl⟩
        rw [hy] at x0 x1 x2 HT HCL
        generalize delC (L.take k) z = xs at *
        try simp only at x0 x1 x2
        have qe := HQ.out y
        clear hcell hy hg hsl
        by_cases e : y = z
        · rw [decide_eq_true e] at qe
          have HT2 : Hid (delC (L.take (k + 1)) z = xs) := HT.out.trans (by simp [e])
          clear HT e HCL
          generalize y / 18446744073709551616 = yk at *
          generalize y % 18446744073709551616 = yi at *
          go_upto_region 8 with (fail)
          go_quiet (fail)
          clear x0 x1 x2 i1 k0 n0 n1 qe
          have hbn := below_drewN (Below.refl wr.heap.size wr) nq
          go_wp2
          go_roundw
          case rel => exact ⟨k + 1, by omega, by go_num, by rw [HT2.out]; exact HO.out.later hbn, below_drewN HB1.out nq⟩
          case measure => simp [intOf]; omega
        · rw [decide_eq_false e] at qe
          have HT2 : Hid (delC (L.take (k + 1)) z = xs ++ [(y, u)]) := HT.out.trans (by simp [e])
          clear HT e
          go_upto_region 8 with (fail)
          go_quiet (fail)
          have hbn := below_drewN (Below.refl wr.heap.size wr) nq
          have HOn := Lib.hid (HO.out.later hbn)
          have HBn := Lib.hid (stepB HB1.out hbn)
          have HRn := Lib.hid (HRW.out.later hbn)
          have x0' : (wr.drewN nq).cell? ⟨g, off + k * 3, none⟩ = _ := HCL.out.c0
          have x1' : (wr.drewN nq).cell? ⟨g, off + k * 3 + 1, none⟩ = _ := HCL.out.c1
          have x2' : (wr.drewN nq).cell? ⟨g, off + k * 3 + 2, none⟩ = _ := HCL.out.c2
          have k0' : (wr.drewN nq).cell? ⟨p, 0, none⟩ = _ := k0
          clear x0 x1 x2 k0 n0 n1 qe hbn HO HB1 HB HRW HCL
          generalize wr.drewN nq = w3 at *
          have hb4 : Below w3.heap.size w3 (w3.alloc (.cells #[.int .u8 (y / 18446744073709551616), .int .u64 (y % 18446744073709551616), .int .i64 u] 61)) := (Below.refl _ _).alloc (Nat.le_refl _) _
          have HO4 := Lib.hid (HOn.out.later hb4)
          have HB4 := Lib.hid (stepB HBn.out hb4)
          have HBW := Lib.hid (stepB HB2.out HB4.out)
          have HX4 : Hid (HSl (w3.alloc (.cells #[.int .u8 (y / 18446744073709551616), .int .u64 (y % 18446744073709551616), .int .i64 u] 61)) (some ⟨w3.heap.size, 0, none⟩) 1 [(y, u)]) := Blk.hsl (p := (y, u)) (Blk.new w3 _ 61)
          clear hb4 HOn HBn HRn
          go_wp2_with (at_builtin; refine append_hd rfl (.tmp 43) (.tmp 51) rfl w2.heap.size _ xs.length xs rfl HO4.out (some ⟨w3.heap.size, 0, none⟩) 1 1 [(y, u)] rfl HX4.out (fun e => by cases e) (by omega) HB4.out.size ?_; intro v5 w5 ho5)
          intro hg5
          have hgr : Below w2.heap.size w2 w5 := HB4.out.grown hg5 HB4.out.size (fun j e => (HO4.out.lt j e).1)
          obtain ⟨A5, c5, rfl, _⟩ := ho5.sl
          have HO5 : Hid (HOwn w5 w2.heap.size (.slice A5 (xs.length + 1) c5) (xs.length + 1) (xs ++ [(y, u)])) := ho5
          have HB5 := Lib.hid hgr
          clear ho5 hg5 hgr HO4 HB4 HBW HX4 x0' x1' x2' k0' i1
          go_wp2
          go_roundw
          case rel => exact ⟨k + 1, by omega, by go_num, by rw [HT2.out]; have := HO5.out; simpa using this, HB5.out⟩
          case measure => simp [intOf]; omega
      · obtain rfl : k = L.length := by omega
        have d2 : decide ((L.length : Int) < (L.length : Int)) = false := decide_eq_false (by omega)
        rw [List.take_length] at HO
        have HLL : Hid ((delC (L.take L.length) z).length = (delC L z).length) := by show _ = _; rw [List.take_length]
        rw [HLL.out]
        have kf := HRW.out.blk.frozen 0
        have hBp := H.out.hp
        have hpl := H.out.plt
        have hws := HB2.out.size
        have HF : Hid (RfAt (wr.setCell ⟨p, 0, none⟩ (.slice Ao (delC L z).length co)) B p (.slice Ao (delC L z).length co) (delC L z)) := ⟨hBp, HRW.out.blk.set (j := 0) (.slice Ao (delC L z).length co), (ho_fr HO.out HRW.out.blk (by decide)).base (by omega)⟩
        have HG : Hid (w.grownBy (wr.setCell ⟨p, 0, none⟩ (.slice Ao (delC L z).length co)) (some p)) := grown_step (grown_of_below HB.out (some p)) (grown_set wr p 0 (.slice Ao (delC L z).length co))
        clear hBp hpl hws
        clear n0 n1
        go_wp2
        go_ret
        exact rf_end HA2.out HS2.out HF.out HG.out
  · have HA2 : Hid (false = R) := by
      show _ = _
      rw [HA.out]
      cases ic with
      | false => rfl
      | true => rw [decide_eq_false (fun e => hd ⟨rfl, e⟩)]; rfl
    have HS2 : Hid (L = S) := by show _ = _; rw [HS.out, ← HA2.out]; rfl
    clear HA HS
    cases ic with
    | false =>
      clear hd
      go_wp2
      go_ret
      exact rf_end HA2.out HS2.out H2.out (grown_of_below HB2.out _)
    | true =>
      have dd : (oc != t) = true := ine_yes (fun e => hd ⟨rfl, e⟩)
      clear hd
      go_wp2
      go_ret
      exact rf_end HA2.out HS2.out H2.out (grown_of_below HB2.out _)
end Go.Proofs.Ytgjponobiplipaa
