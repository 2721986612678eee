/- Read: its walk. -/
import Derived.Test.YtkgdmdcnhbaidaaDoorRD
namespace Go.Proofs.YtkgdmdcnhbaidaaDoor
open Go.ChangeShapes Go.WideShapes Go.ChangeAt Go.RowKit
set_option linter.unusedVariables false
set_option linter.unusedSimpArgs false

theorem num_rest {is : Bool} {r : Rd_} : (numR is r).2 = (numR is r).2 := rfl
set_option maxRecDepth 100000 in
set_option maxHeartbeats 16000000 in
theorem read_any (s : ByteArray) (w : World) (hs : s.size ≤ 100000) (hg : Gl w) : Calls Tryd.prog 17 #[.string s] w (ReadEnd s w) := by
  have HB0 : Hid (Below w.heap.size w (w.alloc (.cells #[.int .i64 0, .bool false, .string { data := #[] }, .slice none 0 0] 37))) := (Below.refl _ _).alloc (Nat.le_refl _) _
  have HG0 := Lib.hid (hg.later HB0.out)
  obtain ⟨mx, hmx⟩ := HG0.out.max
  have HSP := Lib.hid (Tryd.strings_Split s { data := #[32] } mx _ (by omega) hmx (by decide))
  have HLO := Lib.hid hg.lo
  clear hg hmx
  go_enter Tryd.func17, Tryd.ntmps17
  go_wp2_with fail
  refine HSP.out.mono ?_
  rintro e w1 ⟨rfl, hw⟩
  have hwl := words_len s
  unfold sp at hwl
  rw [← hwl]
  have hcells : ∀ (j : Nat) (x : ByteArray), (wordsOf s)[j]? = some x → w1.cell? ⟨(w.alloc (.cells #[.int .i64 0, .bool false, .string { data := #[] }, .slice none 0 0] 37)).heap.size, j, none⟩ = some (.string x) := fun j x hx => by
    rw [hw]
    have h := (Blk.new (w.alloc (.cells #[.int .i64 0, .bool false, .string { data := #[] }, .slice none 0 0] 37)) ((Lib.splitB { data := #[32] } 0 (Lib.countB s { data := #[32] }) s).map Value.string).toArray 9).cell j
    rw [h, List.getElem?_toArray, List.getElem?_map]
    unfold wordsOf sp at hx
    rw [hx]; rfl
  have hb01 : Below (w.alloc (.cells #[.int .i64 0, .bool false, .string { data := #[] }, .slice none 0 0] 37)).heap.size (w.alloc (.cells #[.int .i64 0, .bool false, .string { data := #[] }, .slice none 0 0] 37)) w1 := by rw [hw]; exact (Below.refl _ _).alloc (Nat.le_refl _) _
  have hsz1 : w1.heap.size = (w.alloc (.cells #[.int .i64 0, .bool false, .string { data := #[] }, .slice none 0 0] 37)).heap.size + 1 := by rw [hw]; exact Array.size_push _
  have hsz0 : (w.alloc (.cells #[.int .i64 0, .bool false, .string { data := #[] }, .slice none 0 0] 37)).heap.size = w.heap.size + 1 := Array.size_push _
  have HPR : Hid (Blk w1 w.heap.size #[.int .i64 0, .bool false, .string { data := #[] }, .slice none 0 0] 37) := (Blk.new w _ _).later hb01
  have HB1 := Lib.hid (stepB HB0.out hb01)
  have HG1 := Lib.hid (HG0.out.later hb01)
  rw [hsz0] at hcells hsz1
  have HCL := Lib.hid hcells
  have HS1 := Lib.hid hsz1
  clear hw hwl hcells hb01 hsz1 hsz0 HSP HB0 HG0
  obtain ⟨ws, hws⟩ : ∃ ws, wordsOf s = ws := ⟨_, rfl⟩
  rw [hws] at HCL ⊢
  have HWS := Lib.hid hws
  clear hws
  go_upto_region 3 with (fail)
  obtain ⟨pr, hpr⟩ : ∃ x, w.heap.size = x := ⟨_, rfl⟩
  obtain ⟨p, hp⟩ : ∃ x, w1.heap.size = x := ⟨_, rfl⟩
  have HORD : Hid (p = pr + 2 ∧ 8 ≤ pr ∧ w.heap.size = pr) := Lib.hid (by have h1 := HS1.out; have h2 := HLO.out; omega)
  have hby1 : Below w1.heap.size w1 (w1.alloc (.cells #[.slice (some ⟨pr + 1, 0, none⟩) ws.length ws.length, .bool false] 68)) := (Below.refl _ _).alloc (Nat.le_refl _) _
  have hby2 : Below (w1.alloc (.cells #[.slice (some ⟨pr + 1, 0, none⟩) ws.length ws.length, .bool false] 68)).heap.size (w1.alloc (.cells #[.slice (some ⟨pr + 1, 0, none⟩) ws.length ws.length, .bool false] 68)) ((w1.alloc (.cells #[.slice (some ⟨pr + 1, 0, none⟩) ws.length ws.length, .bool false] 68)).alloc (.cells #[.int .i64 0, .bool false, .string { data := #[] }, .slice none 0 0] 37)) := (Below.refl _ _).alloc (Nat.le_refl _) _
  have hsz2 : (w1.alloc (.cells #[.slice (some ⟨pr + 1, 0, none⟩) ws.length ws.length, .bool false] 68)).heap.size = w1.heap.size + 1 := Array.size_push _
  have hsz3 : ((w1.alloc (.cells #[.slice (some ⟨pr + 1, 0, none⟩) ws.length ws.length, .bool false] 68)).alloc (.cells #[.int .i64 0, .bool false, .string { data := #[] }, .slice none 0 0] 37)).heap.size = (w1.alloc (.cells #[.slice (some ⟨pr + 1, 0, none⟩) ws.length ws.length, .bool false] 68)).heap.size + 1 := Array.size_push _
  rw [hpr] at HPR HCL
  have HRD : Hid (RdO ((w1.alloc (.cells #[.slice (some ⟨pr + 1, 0, none⟩) ws.length ws.length, .bool false] 68)).alloc (.cells #[.int .i64 0, .bool false, .string { data := #[] }, .slice none 0 0] 37)) p (ws, false)) := by
    refine ⟨pr + 1, 0, ws.length, RdAt.later ⟨?_, ?_, ?_, ?_, Nat.le_refl _, fun j x e => ?_⟩ hby2⟩
    · rw [← hp]; exact Blk.new w1 _ 68
    · have := HORD.out; omega
    · have := HORD.out; omega
    · rw [hsz2, hp]; have := HORD.out; omega
    · rw [Nat.zero_add]
      exact (hby1.cell (p := ⟨pr + 1, j, none⟩) (show pr + 1 < w1.heap.size by rw [hp]; have := HORD.out; omega)).trans (HCL.out j x e)
  have HPW : Hid (RW_ w ((w1.alloc (.cells #[.slice (some ⟨pr + 1, 0, none⟩) ws.length ws.length, .bool false] 68)).alloc (.cells #[.int .i64 0, .bool false, .string { data := #[] }, .slice none 0 0] 37)) p (p + 1) pr (ws, false) 0 false { data := #[] } (.slice none 0 0) []) := by
    refine ⟨HRD.out, ?_, (HPR.out.later hby1).later hby2, (HG1.out.later hby1).later hby2, stepB (stepB HB1.out hby1) hby2, ?_, ?_, rfl, ?_, ?_, ROwn.nil0 _ _ _⟩
    · rw [← hp, ← hsz2]; exact Blk.new _ _ 37
    · have := HORD.out; omega
    · have := HORD.out; omega
    · have := HORD.out; omega
    · rw [hsz3, hsz2, hp]; exact Nat.le_refl _
  have HSZ : Hid (∀ x ∈ ws, x.size ≤ 100000) := fun x hx => by
    rw [← HWS.out] at hx
    have := split_sz sp 0 _ s x hx
    omega
  have HPRW := Lib.hid HORD.out.2.2
  rw [hpr, hp]
  clear hpr hby1 hby2 hsz2 hsz3 HRD HPR HG1 HB1 HCL HS1
  generalize ((w1.alloc (.cells #[.slice (some ⟨pr + 1, 0, none⟩) ws.length ws.length, .bool false] 68)).alloc (.cells #[.int .i64 0, .bool false, .string { data := #[] }, .slice none 0 0] 37)) = w3 at *
  clear hp HLO
  obtain ⟨px, hpx⟩ : ∃ x, p + 1 = x := ⟨_, rfl⟩
  rw [hpx] at HPW ⊢
  clear hpx
  have HP8 : Hid (8 ≤ p) := Lib.hid (by have := HORD.out; omega)
  have HCL_ := Lib.hid (num_any true (ws, false) p w3 HPW.out.rd HPW.out.gl HP8.out HSZ.out)
  go_wp2_with fail
  refine HCL_.out.mono ?_
  rintro e w4 ⟨rfl, hr, hgr⟩
  have HP4 := Lib.hid (HPW.out.call hr hgr)
  have HSZ1 := Lib.hid (num_sz (is := true) (r := (ws, false)) HSZ.out)
  clear hr hgr HCL_ HPW HSZ
  obtain ⟨x, hx⟩ : ∃ x, numR true (ws, false) = x := ⟨_, rfl⟩
  rw [hx] at HP4 HSZ1 ⊢
  have HX1 := Lib.hid hx
  clear hx
  obtain ⟨er, r1⟩ := x
  simp only at HP4 HSZ1 ⊢
  have c0 := HP4.out.bx.cell 0
  simp only [List.getElem?_toArray, List.getElem?_cons_zero, List.getElem?_cons_succ] at c0
  have f0 := HP4.out.bx.frozen 0
  go_upto_region 4 with (fail)
  have HP5 : Hid (RW_ w (w4.setCell ⟨px, 0, none⟩ (.int .i64 er)) p px pr r1 er false { data := #[] } (.slice none 0 0) []) := HP4.out.st 0 (.int .i64 er) rfl
  generalize w4.setCell ⟨px, 0, none⟩ (.int .i64 er) = w5 at *
  clear c0 f0 HP4
  have HCL_ := Lib.hid (next_any r1 p w5 HP5.out.rd)
  go_wp2_with fail
  refine HCL_.out.mono ?_
  rintro e w6 ⟨rfl, hr, hgr⟩
  have HP6 := Lib.hid (HP5.out.call hr hgr)
  have HSZ2 := Lib.hid (next_sz HSZ1.out).2
  clear hr hgr HCL_ HP5 HSZ1
  obtain ⟨x, hx⟩ : ∃ x, nextR r1 = x := ⟨_, rfl⟩
  rw [hx] at HP6 HSZ2 ⊢
  have HX2 := Lib.hid hx
  clear hx
  obtain ⟨fo, r2⟩ := x
  simp only at HP6 HSZ2 ⊢
  obtain ⟨b1, hb1⟩ : ∃ b, decide (fo = { data := #[49] }) = b := ⟨_, rfl⟩
  have HQ1 := Lib.hid hb1
  have q1 : (fo.toList == [49]) = b1 := by
    rw [← hb1, Bool.eq_iff_iff, beq_iff_eq, decide_eq_true_eq, ByteArray.toList_eq]
    exact ⟨fun e => ByteArray.ext (Array.toList_inj.1 e), fun e => by rw [e]⟩
  clear hb1
  obtain ⟨b0, hb0⟩ : ∃ b, decide (fo = { data := #[48] }) = b := ⟨_, rfl⟩
  have HQ0 := Lib.hid hb0
  have q0 : (fo.toList == [48]) = b0 := by
    rw [← hb0, Bool.eq_iff_iff, beq_iff_eq, decide_eq_true_eq, ByteArray.toList_eq]
    exact ⟨fun e => ByteArray.ext (Array.toList_inj.1 e), fun e => by rw [e]⟩
  clear hb0
  have c0 := HP6.out.bx.cell 1
  simp only [List.getElem?_toArray, List.getElem?_cons_zero, List.getElem?_cons_succ] at c0
  have f0 := HP6.out.bx.frozen 1
  go_upto_region 6 with (fail)
  have HP7 : Hid (RW_ w (w6.setCell ⟨px, 1, none⟩ (.bool b1)) p px pr r2 er b1 { data := #[] } (.slice none 0 0) []) := HP6.out.st 1 (.bool b1) rfl
  generalize w6.setCell ⟨px, 1, none⟩ (.bool b1) = w7 at *
  clear c0 f0 HP6
  have HCL_ := Lib.hid (txt_any true r2 p w7 HP7.out.rd HP7.out.gl HP8.out HSZ2.out)
  go_wp2_with fail
  refine HCL_.out.mono ?_
  rintro e w8 ⟨rfl, hr, hgr⟩
  have HP := Lib.hid (HP7.out.call hr hgr)
  have HSZ3 := Lib.hid (txt_sz (is := true) HSZ2.out)
  clear hr hgr HCL_ HP7 HSZ2
  obtain ⟨x, hx⟩ : ∃ x, txtR true r2 = x := ⟨_, rfl⟩
  rw [hx] at HP HSZ3 ⊢
  have HX3 := Lib.hid hx
  clear hx
  obtain ⟨va, r3⟩ := x
  simp only at HP HSZ3 ⊢
  have c0 := HP.out.bx.cell 2
  simp only [List.getElem?_toArray, List.getElem?_cons_zero, List.getElem?_cons_succ] at c0
  have f0 := HP.out.bx.frozen 2
  go_upto_block 0 with (fail)
  have HP9 : Hid (RW_ w (w8.setCell ⟨px, 2, none⟩ (.string va)) p px pr r3 er b1 va (.slice none 0 0) []) := HP.out.st 2 (.string va) rfl
  generalize w8.setCell ⟨px, 2, none⟩ (.string va) = w9 at *
  clear c0 f0 HP
  have HVAL : Hid (ra1 s = (er, r1) ∧ ra2 s = (fo, r2) ∧ ra3 s = (va, r3)) := by
    have a1 : ra1 s = (er, r1) := by unfold ra1; rw [HWS.out]; exact HX1.out
    have a2 : ra2 s = (fo, r2) := by unfold ra2; rw [a1]; exact HX2.out
    exact ⟨a1, a2, by unfold ra3; rw [a2]; exact HX3.out⟩
  obtain ⟨qq, hqq⟩ : ∃ q, prR r3 = q := ⟨_, rfl⟩
  have HQQ := Lib.hid hqq
  clear hqq HORD
  obtain ⟨PS, rf⟩ := qq
  have HR3 : Hid (r3.1.length ≤ 100001) := Lib.hid (by
    have h1 : r3.1.length ≤ r2.1.length := by have h := txtR_le (r := r2); rw [HX3.out] at h; exact h
    have h2 : r2.1.length ≤ r1.1.length := by
      have h := HX2.out
      obtain ⟨l1, b1'⟩ := r1
      cases l1 with
      | nil => cases h; exact Nat.le_refl _
      | cons a l => cases h; exact Nat.le_succ _
    have h3 : r1.1.length ≤ ws.length := by
      have h := HX1.out
      cases ws with
      | nil => cases h; exact Nat.le_refl _
      | cons a l => cases h; exact Nat.le_succ _
    have h4 : ws.length ≤ s.size + 1 := by rw [← HWS.out, words_len]; have := Lib.countB_le sp (by decide) s.size s (Nat.le_refl _); omega
    omega)
  have HFI : Hid (okA s = (!rf.2 && (b0 || b1)) ∧ (okA s = true → asP s = (er, b1, va, PS))) := by
    have a4 : ra4 s = (PS, rf) := by unfold ra4; rw [HVAL.out.2.2]; exact HQQ.out
    refine ⟨?_, fun h => ?_⟩
    · unfold okA
      rw [a4, HVAL.out.2.1]
      simp only
      rw [HQ0.out, HQ1.out]
    · unfold asP
      rw [h, a4, HVAL.out.1, HVAL.out.2.1, HVAL.out.2.2]
      simp only
      rw [HQ1.out]
      rfl
  clear HQ0 HQ1 HVAL HWS HX1 HX2 HX3
  go_wp2
  go_loopg [7] r3.1.length (fun gk p_ wr => ∃ (r : Rd_) (v : Value) (L : List Pr), gk = r.1.length ∧ (L ++ (prR r).1 = PS ∧ (prR r).2 = rf) ∧ (∀ x ∈ r.1, x.size ≤ 100000) ∧ L.length + r.1.length ≤ r3.1.length ∧ RW_ w wr p px pr r er b1 va v L)
  case atStart => exact ⟨r3, _, [], rfl, by rw [HQQ.out]; exact ⟨rfl, rfl⟩, HSZ3.out, by simp, HP9.out⟩
  case round =>
    obtain ⟨r, v, L, hgk, hps, hz, hln, hP⟩ := hrel
    have HGK := Lib.hid hgk
    have HPS := Lib.hid hps
    have HZ := Lib.hid hz
    have HLN := Lib.hid hln
    have HP := Lib.hid hP
    clear hgk hps hz hln hP HP9 HSZ3 HQQ
    have HOV := Lib.hid (over_any r p wr HP.out.rd)
    obtain ⟨g_, o_, c_, hrd⟩ := HP.out.rd
    have w1_ := hrd.blk.cell 1
    simp only [List.getElem?_toArray, List.getElem?_cons_zero, List.getElem?_cons_succ] at w1_
    clear hrd
    obtain ⟨wg, hwg⟩ : ∃ b, r.2 = b := ⟨_, rfl⟩
    obtain ⟨ov, hov⟩ : ∃ b, overR r = b := ⟨_, rfl⟩
    rw [hwg] at w1_
    rw [hov] at HOV
    have HWG := Lib.hid hwg
    have HOVE := Lib.hid hov
    clear hwg hov
    go_wp2_with fail
    refine HOV.out.mono ?_
    rintro e wi ⟨rfl, rfl⟩
    clear HOV
    cases ov with
    | true =>
      obtain rfl : wg = false := by
        have h := HOVE.out
        rw [← HWG.out]
        unfold overR at h
        cases hb : r.2 with
        | false => rfl
        | true => rw [hb] at h; cases h
      obtain ⟨rfl, rfl⟩ : L = PS ∧ r = rf := by
        have h1 := HPS.out.1
        have h2 := HPS.out.2
        rw [prR_no (by unfold goR; rw [HOVE.out, HWG.out]; rfl)] at h1 h2
        exact ⟨by simpa using h1, h2⟩
      have hbt : Tryd.prog.built 37 [] = some #[.int .i64 0, .bool false, .string { data := #[] }, .slice none 0 0] := by kernel_rfl
      have r0 := HP.out.br.cell 0
      have r1_ := HP.out.br.cell 1
      have r2_ := HP.out.br.cell 2
      have r3_ := HP.out.br.cell 3
      simp only [List.getElem?_toArray, List.getElem?_cons_zero, List.getElem?_cons_succ] at r0 r1_ r2_ r3_
      have fr0 := HP.out.br.frozen 0
      have fr1 := HP.out.br.frozen 1
      have fr2 := HP.out.br.frozen 2
      have fr3 := HP.out.br.frozen 3
      cases b0 with
      | true =>
        obtain ⟨Av, cv, hv, _, _⟩ := HP.out.row.sl
        subst hv
        have HS4 := Lib.hid (set37 HP.out.br rfl (.int .i64 er) (.bool b1) (.string va) (.slice Av L.length cv) HP.out.lo HP.out.o1)
        have k0 := HP.out.bx.cell 0
        have k1 := HP.out.bx.cell 1
        have k2 := HP.out.bx.cell 2
        have k3 := HP.out.bx.cell 3
        simp only [List.getElem?_toArray, List.getElem?_cons_zero, List.getElem?_cons_succ] at k0 k1 k2 k3
        obtain ⟨nL, hnL⟩ : ∃ n, L.length = n := ⟨_, rfl⟩
        have HNL := Lib.hid hnL.symm
        rw [hnL] at HS4 k3
        clear hnL
        have HROW := Lib.hid HP.out.row
        rw [← HNL.out] at HROW
        have HOO : Hid (pr < p + 2 ∧ w.heap.size ≤ p + 2) := Lib.hid (by have h1 := HP.out.o1; have h2 := HP.out.o2; omega)
        go_wp2
        refine bodyPost_ret (results_cell_row2 rfl _ _ pr 37 _ (0, 0) _ rfl HS4.out.1 Tryd.underlying37 rfl (by kernel_rfl) rfl) rfl ?_
        exact read_ok (by rw [HFI.out.1, HWG.out]; rfl) (HFI.out.2 (by rw [HFI.out.1, HWG.out]; rfl)) HNL.out ((HS4.out.2.2 _ _ _ _ HOO.out.1 HROW.out).base HOO.out.2) HS4.out.2.1
      | false =>
        cases b1 with
        | true =>
          obtain ⟨Av, cv, hv, _, _⟩ := HP.out.row.sl
          subst hv
          have HS4 := Lib.hid (set37 HP.out.br rfl (.int .i64 er) (.bool true) (.string va) (.slice Av L.length cv) HP.out.lo HP.out.o1)
          have k0 := HP.out.bx.cell 0
          have k1 := HP.out.bx.cell 1
          have k2 := HP.out.bx.cell 2
          have k3 := HP.out.bx.cell 3
          simp only [List.getElem?_toArray, List.getElem?_cons_zero, List.getElem?_cons_succ] at k0 k1 k2 k3
          obtain ⟨nL, hnL⟩ : ∃ n, L.length = n := ⟨_, rfl⟩
          have HNL := Lib.hid hnL.symm
          rw [hnL] at HS4 k3
          clear hnL
          have HROW := Lib.hid HP.out.row
          rw [← HNL.out] at HROW
          have HOO : Hid (pr < p + 2 ∧ w.heap.size ≤ p + 2) := Lib.hid (by have h1 := HP.out.o1; have h2 := HP.out.o2; omega)
          go_wp2
          refine bodyPost_ret (results_cell_row2 rfl _ _ pr 37 _ (0, 0) _ rfl HS4.out.1 Tryd.underlying37 rfl (by kernel_rfl) rfl) rfl ?_
          exact read_ok (by rw [HFI.out.1, HWG.out]; rfl) (HFI.out.2 (by rw [HFI.out.1, HWG.out]; rfl)) HNL.out ((HS4.out.2.2 _ _ _ _ HOO.out.1 HROW.out).base HOO.out.2) HS4.out.2.1
        | false =>
          have HS4 := Lib.hid (set37 HP.out.br rfl (.int .i64 0) (.bool false) (.string { data := #[] }) (.slice none 0 0) HP.out.lo HP.out.o1)
          go_wp2
          refine bodyPost_ret (results_cell_row2 rfl _ _ pr 37 _ (0, 0) _ rfl HS4.out.1 Tryd.underlying37 rfl (by kernel_rfl) rfl) rfl ?_
          exact read_err (by rw [HFI.out.1, HWG.out]; rfl) HS4.out.2.1
    | false =>
      cases wg with
      | true =>
        obtain ⟨rfl, rfl⟩ : L = PS ∧ r = rf := by
          have h1 := HPS.out.1
          have h2 := HPS.out.2
          rw [prR_no (by unfold goR; rw [HOVE.out, HWG.out]; rfl)] at h1 h2
          exact ⟨by simpa using h1, h2⟩
        have hbt : Tryd.prog.built 37 [] = some #[.int .i64 0, .bool false, .string { data := #[] }, .slice none 0 0] := by kernel_rfl
        have r0 := HP.out.br.cell 0
        have r1_ := HP.out.br.cell 1
        have r2_ := HP.out.br.cell 2
        have r3_ := HP.out.br.cell 3
        simp only [List.getElem?_toArray, List.getElem?_cons_zero, List.getElem?_cons_succ] at r0 r1_ r2_ r3_
        have fr0 := HP.out.br.frozen 0
        have fr1 := HP.out.br.frozen 1
        have fr2 := HP.out.br.frozen 2
        have fr3 := HP.out.br.frozen 3
        have HS4 := Lib.hid (set37 HP.out.br rfl (.int .i64 0) (.bool false) (.string { data := #[] }) (.slice none 0 0) HP.out.lo HP.out.o1)
        go_wp2
        refine bodyPost_ret (results_cell_row2 rfl _ _ pr 37 _ (0, 0) _ rfl HS4.out.1 Tryd.underlying37 rfl (by kernel_rfl) rfl) rfl ?_
        exact read_err (by rw [HFI.out.1, HWG.out]; rfl) HS4.out.2.1
      | false =>
        obtain ⟨x1, hx1⟩ : ∃ x, txtR true r = x := ⟨_, rfl⟩
        obtain ⟨x2, hx2⟩ : ∃ x, txtR true x1.2 = x := ⟨_, rfl⟩
        have HGO : Hid (goR r = true) := Lib.hid (by unfold goR; rw [HOVE.out, HWG.out]; rfl)
        have HLE : Hid (x1.2.1.length + 1 = r.1.length ∧ x2.2.1.length ≤ x1.2.1.length) := Lib.hid ⟨by rw [← hx1]; exact txtR_len HGO.out, by rw [← hx2]; exact txtR_le⟩
        have HPS2 : Hid (L ++ (x1.1, x2.1) :: (prR x2.2).1 = PS ∧ (prR x2.2).2 = rf) := Lib.hid (by
          have h1 := HPS.out
          rw [prR_yes HGO.out, hx1, hx2] at h1
          exact h1)
        have HX1 := Lib.hid hx1
        have HX2 := Lib.hid hx2
        clear hx1 hx2 HPS
        obtain ⟨sa, ra⟩ := x1
        obtain ⟨sb, rb⟩ := x2
        simp only at HLE HPS2 HX1 HX2
        go_upto_region 9 with (fail)
        have hby : Below wi.heap.size wi (wi.alloc (.cells #[.string { data := #[] }, .string { data := #[] }] 42)) := (Below.refl _ _).alloc (Nat.le_refl _) _
        have HA := Lib.hid (HP.out.later hby)
        have HQ : Hid (Blk (wi.alloc (.cells #[.string { data := #[] }, .string { data := #[] }] 42)) wi.heap.size #[.string { data := #[] }, .string { data := #[] }] 42) := Blk.new _ _ _
        obtain ⟨q, hq⟩ : ∃ q, wi.heap.size = q := ⟨_, rfl⟩
        have HNE : Hid (px < q ∧ p < q ∧ v.ownBlock ≠ some q) := Lib.hid ⟨by have h1 := HP.out.o5; have h2 := HP.out.o3; omega, by have h1 := HP.out.o5; omega, fun e => by have := (HP.out.row.lt q e).2; omega⟩
        rw [hq] at HQ ⊢
        clear hby hq HP
        generalize wi.alloc (.cells #[.string { data := #[] }, .string { data := #[] }] 42) = wa at *
        have HCL_ := Lib.hid (txt_any true r p wa HA.out.rd HA.out.gl HP8.out HZ.out)
        go_wp2_with fail
        refine HCL_.out.mono ?_
        rintro e wb ⟨rfl, hr, hgr⟩
        rw [HX1.out] at hr ⊢
        have HB := Lib.hid (HA.out.call hr hgr)
        replace HQ := Lib.hid (HQ.out.grown hgr (fun e => by have := Option.some.inj e; have := HNE.out.2.1; omega))
        have HZ2 : Hid (∀ x ∈ ra.1, x.size ≤ 100000) := Lib.hid (by have h := txt_sz (is := true) HZ.out; rw [HX1.out] at h; exact h)
        clear hr hgr HCL_ HA HZ
        have c0 := HQ.out.cell 0
        simp only [List.getElem?_toArray, List.getElem?_cons_zero, List.getElem?_cons_succ] at c0
        have f0 := HQ.out.frozen 0
        simp only
        go_upto_region 10 with (fail)
        have HC := Lib.hid (HB.out.oth (j := 0) (.string sa) HNE.out.1 HNE.out.2.2)
        replace HQ : Hid (Blk (wb.setCell ⟨q, 0, none⟩ (.string sa)) q #[.string sa, .string { data := #[] }] 42) := HQ.out.set (j := 0) (.string sa)
        clear c0 f0 HB
        generalize wb.setCell ⟨q, 0, none⟩ (.string sa) = wc at *
        have HCL_ := Lib.hid (txt_any true ra p wc HC.out.rd HC.out.gl HP8.out HZ2.out)
        go_wp2_with fail
        refine HCL_.out.mono ?_
        rintro e wd ⟨rfl, hr, hgr⟩
        rw [HX2.out] at hr ⊢
        have HD := Lib.hid (HC.out.call hr hgr)
        replace HQ := Lib.hid (HQ.out.grown hgr (fun e => by have := Option.some.inj e; have := HNE.out.2.1; omega))
        have HZ3 : Hid (∀ x ∈ rb.1, x.size ≤ 100000) := Lib.hid (by have h := txt_sz (is := true) HZ2.out; rw [HX2.out] at h; exact h)
        clear hr hgr HCL_ HC HZ2
        have c0 := HQ.out.cell 1
        simp only [List.getElem?_toArray, List.getElem?_cons_zero, List.getElem?_cons_succ] at c0
        have f0 := HQ.out.frozen 1
        simp only
        go_upto_region 11 with (fail)
        have HE := Lib.hid (HD.out.oth (j := 1) (.string sb) HNE.out.1 HNE.out.2.2)
        replace HQ : Hid (Blk (wd.setCell ⟨q, 1, none⟩ (.string sb)) q #[.string sa, .string sb] 42) := HQ.out.set (j := 1) (.string sb)
        clear c0 f0 HD
        generalize wd.setCell ⟨q, 1, none⟩ (.string sb) = we at *
        have hby : Below we.heap.size we (we.alloc (.cells #[.string sa, .string sb] 42)) := (Below.refl _ _).alloc (Nat.le_refl _) _
        have HF := Lib.hid (HE.out.later hby)
        have HXR : Hid (RSl pvc 2 (we.alloc (.cells #[.string sa, .string sb] 42)) (some ⟨we.heap.size, 0, none⟩) 1 [(sa, sb)]) := Blk.rsl (x := ((sa, sb) : Pr)) (Blk.new we _ 42)
        obtain ⟨Av, cv, hv, _, _⟩ := HF.out.row.sl
        subst hv
        have HLN2 := HLN.out
        have HLE2 := HLE.out
        have k3 := HE.out.bx.cell 3
        have q0_ := HQ.out.cell 0
        have q1_ := HQ.out.cell 1
        simp only [List.getElem?_toArray, List.getElem?_cons_zero, List.getElem?_cons_succ] at k3 q0_ q1_
        clear hby
        obtain ⟨nL, hnL⟩ : ∃ n, L.length = n := ⟨_, rfl⟩
        have HNL := Lib.hid hnL
        have HROW := Lib.hid HF.out.row
        rw [hnL] at k3 HROW HLN2 HF
        clear hnL HLE2
        have HB_ : Hid (nL + 1 ≤ 1000000) := Lib.hid (by have h1 := HR3.out; omega)
        clear HLN2
        go_wp2_with (first
          | (at_builtin; refine append_row1 elemP rfl (.tmp 40) (.tmp 42) rfl (p + 2) (.slice Av nL cv) nL L rfl HROW.out we.heap.size 1 (sa, sb) rfl HXR.out HB_.out (by decide) HF.out.o5 ?_; intro A4 c4 w4 ho4 hg4 hn4)
          | fail)
        intro hl4
        have HG4 : Hid (RW_ w (w4.setCell ⟨px, 3, none⟩ (.slice A4 (nL + 1) c4)) p px pr rb er b1 va (.slice A4 (nL + 1) c4) (L ++ [(sa, sb)])) := Lib.hid (HF.out.app hg4 (by rw [List.length_append, HNL.out]; exact ho4))
        have hbk : Blk w4 px #[.int .i64 er, .bool b1, .string va, .slice Av nL cv] 37 := HF.out.bx.grown hg4 (fun e => by have h1 := (HF.out.row.lt px e.symm).1; have h2 := HF.out.o3; omega)
        have c3 := hbk.cell 3
        simp only [List.getElem?_toArray, List.getElem?_cons_zero, List.getElem?_cons_succ] at c3
        have f3 := hbk.frozen 3
        clear hbk ho4 hg4 hn4 hl4 HXR HF HE HROW HQ k3 q0_ q1_
        go_wp2
        go_roundg rb.1.length
        case measure => have h1 := HLE.out; have h2 := HGK.out; omega
        case rel => exact ⟨rb, _, _, rfl, by have h := HPS2.out; rw [List.append_assoc]; exact h, HZ3.out, by have h1 := HLE.out; have h2 := HLN.out; rw [List.length_append]; show L.length + 1 + _ ≤ _; omega, HG4.out⟩
end Go.Proofs.YtkgdmdcnhbaidaaDoor
