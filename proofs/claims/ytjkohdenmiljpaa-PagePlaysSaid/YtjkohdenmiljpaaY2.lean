/- The closure that goes over steps and tells what each answers. -/
import Derived.Test.YtjkohdenmiljpaaY1
import Derived.StillTailTactics
import Derived.LoopTactic
namespace Go.Proofs.Ytjkohdenmiljpaa
open Go.ChangeShapes Go.WideShapes Go.ChangeAt Go.RowKit Go.Maps
set_option linter.unusedVariables false
set_option linter.unusedSimpArgs false

theorem Fr.grown {w w1 w2 : World} {p b : Nat} {g : Option Nat} (h : Fr w w1 p b) (hg : w1.grownBy w2 g) (hn : ∀ k, g = some k → w.heap.size ≤ k) : Fr w w2 p b :=
  ⟨hg.os.trans h.os, hg.tape.trans h.tape, hg.output.trans h.output, Nat.le_trans h.size hg.size, fun k hk h1 h2 => (hg.block k (Nat.lt_of_lt_of_le hk h.size) (fun e => by have := hn k e.symm; omega)).trans (h.block k hk h1 h2)⟩
theorem Fr.later {w w1 w2 : World} {p b : Nat} (h : Fr w w1 p b) (hb : Below w1.heap.size w1 w2) : Fr w w2 p b := h.trans (Fr.of_below hb)
theorem conv2 (x y : Int) (W : World) : (convert 39 9 (.slice (some ⟨W.heap.size, 0, none⟩) 2 2)).run Try.prog (W.alloc (.cells #[.int .u8 x, .int .u8 y] 5)) = .ok (.string (two x y)) (W.alloc (.cells #[.int .u8 x, .int .u8 y] 5)) := by
  refine run_convert_bytes_arg _ 39 5 Try.underlying39 Try.underlying5 _ 0 2 2 [x, y] (by simp) (fun i hi => ?_) 9 Try.underlying9
  have hc := (Blk.new W #[.int .u8 x, .int .u8 y] 5).cell i
  rw [Nat.zero_add, hc]
  match i, hi with
  | 0, _ => rfl
  | 1, _ => rfl
theorem alO_rg {W : World} {B p b s : Nat} {st : PS} (h : PgS W B p b s st) (hs : s ≤ 4096) : 0 ≤ alO s st ∧ alO s st ≤ 65535 := by
  have h : Pg W B p b s st.1 st.2.1 st.2.2.1 st.2.2.2 := h
  unfold alO
  by_cases hr : st.2.1.length = 4096 / s
  · rw [if_pos hr]; omega
  · rw [if_neg hr]
    have := (pg_alloc_new h (by have := h.room.2; omega)).2
    unfold allC at this
    unfold nextO
    split at this <;> simp_all <;> omega
theorem two_size (x y : Int) : (two x y).size = 2 := by unfold two; rw [strOfNums_size]; rfl
theorem rdT_size {W : World} {B p b s : Nat} {st : PS} (h : PgS W B p b s st) (hs : s ≤ 4096) (x : Int) : (rdT s x st).size ≤ 4096 := by
  have h : Pg W B p b s st.1 st.2.1 st.2.2.1 st.2.2.2 := h
  unfold rdT
  by_cases hx : x ∈ st.2.1
  · rw [if_pos (is_mem.2 hx)]
    obtain ⟨o, rfl, ho, _, _⟩ := h.inv.at_ hx
    rw [rdS_size (by rw [h.inv.len]; omega)]; exact hs
  · rw [if_neg (fun e => hx (is_mem.1 e))]; exact Nat.zero_le _
def AllEnd (p b s : Nat) (S : List Stp) (st : PS) (B : Nat) (w : World) (e : Ending) (w' : World) : Prop :=
  ∃ A c, e = .returned (.slice A S.length c) ∧ PgS w' B p b s (runS s S st) ∧ Ow sv w' w.heap.size 9 (.slice A S.length c) S.length (outL s S st) ∧ Fr w w' p b
set_option maxRecDepth 100000 in
set_option maxHeartbeats 8000000 in
theorem all_any (A : Option Addr) (n c s n0 B p b mb qb : Nat) (S : List Stp) (st : PS) (w : World) (hS : Steps n0 w A n S) (hn : n ≤ 2000) (h4 : s ≤ 4096) (hP : PgS w B p b s st) (hMB : Blk w mb #[.slice A n c] 40) (hQB : Blk w qb #[.int .i64 (s : Int)] 3)
    (h0 : n0 ≤ p ∧ n0 ≤ b ∧ n0 ≤ w.heap.size ∧ mb ≠ p ∧ mb ≠ b ∧ qb ≠ p ∧ qb ≠ b) : Calls Try.prog 30 #[.pointer (some ⟨p, 0, none⟩), .pointer (some ⟨mb, 0, none⟩), .pointer (some ⟨qb, 0, none⟩)] w (AllEnd p b s S st B w) := by
  have HS := Lib.hid hS
  have HP := Lib.hid hP
  have HM := Lib.hid hMB
  have HQ := Lib.hid hQB
  have HNE := Lib.hid h0
  have HSL := Lib.hid hS.1
  clear hS hP hMB hQB h0
  go_enter Try.func30, Try.ntmps30
  go_wp2
  go_loopw [5, 6] (fun v i wr => ∃ (k : Nat) (v5 : Value), k ≤ n ∧ i = .int .i64 k ∧ v = v5 ∧ PgS wr B p b s (runS s (S.take k) st) ∧ Ow sv wr w.heap.size 9 v5 k (outL s (S.take k) st) ∧ Fr w wr p b) (fun _ i _ => n - (intOf i).toNat)
  case atStart => exact ⟨0, _, Nat.zero_le _, rfl, rfl, HP.out, Ow.none _ _ _, Fr.of_below (Below.refl _ _)⟩
  case round =>
    obtain ⟨k, v5, hk, rfl, rfl, hp, ho, hf⟩ := hrel
    have hle : w.heap.size ≤ wr.heap.size := hf.size
    have HLE := Lib.hid hle
    replace HM := Lib.hid (hf.blk HM.out HNE.out.2.2.2.1 HNE.out.2.2.2.2.1)
    replace HQ := Lib.hid (hf.blk HQ.out HNE.out.2.2.2.2.2.1 HNE.out.2.2.2.2.2.2)
    have HB0 := Lib.hid (hf.below (Below.refl n0 w) HNE.out.2.2.1 HNE.out.1 HNE.out.2.1)
    have m0 := HM.out.cell 0
    have q0 := HQ.out.cell 0
    simp only [List.getElem?_toArray, List.getElem?_cons_zero] at m0 q0
    replace HP := Lib.hid hp
    have HO := Lib.hid ho
    have HF := Lib.hid hf
    obtain ⟨Ar, cr, rfl, _⟩ := Ow.sl ho
    clear hp ho hf hle
    by_cases hlt : k < n
    · have d2 : decide ((k : Int) < (n : Int)) = true := decide_eq_true (by omega)
      have wk : IntKind.i64.wrap ((k : Int) + 1) = (k : Int) + 1 := IntWalk.i64_in _ (by omega)
      obtain ⟨g, off, rfl, hg, hcell⟩ := HS.out.2 (by omega)
      have i1 := sindex g off n c k (k : Int) rfl hlt
      obtain ⟨hc, hok⟩ := hcell k hlt
      have HRS := Lib.hid (runS_succ s (show k < S.length by have := HSL.out; omega) st)
      have HOS := Lib.hid (outL_succ s (show k < S.length by have := HSL.out; omega) st)
      obtain ⟨⟨kd, sa, so, sst⟩, hx⟩ : ∃ x, S.getD k stp0 = x := ⟨_, rfl⟩
      rw [hx] at hc hok HRS HOS
      obtain ⟨x0, x1, x2, x3⟩ := hc
      simp only at x0 x1 x2 x3
      have HOK := Lib.hid hok
      have K0 : Hid (∀ W, Below n0 w W → W.cell? ⟨g, off + k * 4, none⟩ = some (.int .u8 kd) ∧ W.cell? ⟨g, off + k * 4 + 1, none⟩ = some (.int .u16 sa) ∧ W.cell? ⟨g, off + k * 4 + 2, none⟩ = some (.int .u16 so) ∧ W.cell? ⟨g, off + k * 4 + 3, none⟩ = some (.string sst)) := fun W hb => ⟨(hb.cell (p := ⟨g, off + k * 4, none⟩) hg).trans x0, (hb.cell (p := ⟨g, off + k * 4 + 1, none⟩) hg).trans x1, (hb.cell (p := ⟨g, off + k * 4 + 2, none⟩) hg).trans x2, (hb.cell (p := ⟨g, off + k * 4 + 3, none⟩) hg).trans x3⟩
      clear hcell hx hok x0 x1 x2 x3 hg
      obtain ⟨y0, y1, y2, y3⟩ := K0.out _ HB0.out
      have HRG := Lib.hid (offV_rg sa so s)
      have KOFF : Hid (∀ W, Calls Try.prog 29 #[.agg #[.int .u8 kd, .int .u16 sa, .int .u16 so, .string sst], .int .i64 (s : Int)] W fun e w' => e = .returned (.int .u16 (offV sa so s)) ∧ Below W.heap.size W w') := fun W => off_any kd sa so sst s W HOK.out.1 HOK.out.2.1 h4
      have HST : Hid (stS s (kd, sa, so, sst) (runS s (S.take k) st) = stS s (kd, sa, so, sst) (runS s (S.take k) st)) := rfl
      generalize runS s (S.take k) st = st1 at *
      obtain ⟨st2, hst2⟩ : ∃ z, runS s (S.take (k + 1)) st = z := ⟨_, rfl⟩
      rw [hst2] at HRS
      have HS2 := Lib.hid hst2
      clear hst2
      generalize outL s (S.take k) st = L1 at *
      obtain ⟨L2, hL2⟩ : ∃ z, outL s (S.take (k + 1)) st = z := ⟨_, rfl⟩
      rw [hL2] at HOS
      have HL2 := Lib.hid hL2
      clear hL2
      clear HST
      unfold stS at HRS
      unfold stT stE at HOS
      simp only at HRS HOS
      generalize offV sa so (s : Int) = x at *
      have hwf := wf16 HRG.out.1 HRG.out.2
      have HWF := Lib.hid hwf
      clear hwf
      go_upto_region 5 with (fail)
      go_still_tail 5, (by kernel_rfl)
      change wpList _ _ _ _ _ wr.drew
      have hbd : Below wr.heap.size wr wr.drew := Below.drew (Below.refl _ _)
      replace HP := Lib.hid (HP.out.later hbd)
      replace HO := Lib.hid (Ow.later HO.out hbd)
      replace HF := Lib.hid (HF.out.later hbd)
      replace HM := Lib.hid (HM.out.later hbd)
      replace HQ := Lib.hid (HQ.out.later hbd)
      clear hbd y0 y1 y2 y3 m0 q0 HB0
      generalize wr.drew = w4 at *
      go_wp2_with fail
      refine (KOFF.out _).mono ?_
      rintro e w5 ⟨rfl, hb⟩
      replace HP := Lib.hid (HP.out.later hb)
      replace HO := Lib.hid (Ow.later HO.out hb)
      replace HF := Lib.hid (HF.out.later hb)
      replace HM := Lib.hid (HM.out.later hb)
      replace HQ := Lib.hid (HQ.out.later hb)
      clear hb KOFF
      have HB5 := Lib.hid (HF.out.below (Below.refl n0 w) HNE.out.2.2.1 HNE.out.1 HNE.out.2.1)
      obtain ⟨y0, y1, y2, y3⟩ := K0.out _ HB5.out
      have m0 := HM.out.cell 0
      have q0 := HQ.out.cell 0
      simp only [List.getElem?_toArray, List.getElem?_cons_zero] at m0 q0
      go_upto_block 2 with (fail)
      go_cut [8, 9] (fun v8 v9 wc => ∃ (T8 : ByteArray) (E9 : Int), v8 = .string T8 ∧ v9 = .int .i64 E9 ∧ L2 = L1 ++ [T8 ++ two 0 E9] ∧ 0 ≤ E9 ∧ E9 < 256 ∧ T8.size ≤ 4096 ∧ PgS wc B p b s st2 ∧ Ow sv wc w.heap.size 9 (.slice Ar k cr) k L1 ∧ Fr w wc p b)
      case first =>
        by_cases e0 : kd = 0
        · have f0 : (kd == 0) = true := by rw [e0]; rfl
          rw [if_pos e0] at HRS
          rw [if_pos e0, if_pos e0] at HOS
          have hrg := alO_rg HP.out h4
          have hee : 0 ≤ alE s st1 ∧ alE s st1 < 256 := by unfold alE; split <;> omega
          clear e0
          go_wp2_with fail
          refine (al_any B p b s st1 w5 HP.out h4).mono ?_
          rintro e w6 ⟨rfl, hp, hf⟩
          have HO6 := Lib.hid (ow_fr9 HO.out HP.out.at_ hf)
          have HF6 := Lib.hid (HF.out.trans hf)
          have HP6 : Hid (PgS w6 B p b s st2) := by rw [HRS.out]; exact hp
          have HEE := Lib.hid hee
          clear hp hf hee y0 y1 y2 y3 m0 q0
          generalize alO s st1 = ao at *
          generalize alE s st1 = ae at *
          have hcv := conv2 (ao / 256) (ao % 256) w6
          have hb7 : Below w6.heap.size w6 (w6.alloc (.cells #[.int .u8 (ao / 256), .int .u8 (ao % 256)] 5)) := (Below.refl _ _).alloc (Nat.le_refl _) _
          replace HO6 := Lib.hid (Ow.later HO6.out hb7)
          replace HF6 := Lib.hid (HF6.out.later hb7)
          replace HP6 := Lib.hid (HP6.out.later hb7)
          clear hb7
          go_wp2
          go_meet
          exact ⟨_, _, rfl, rfl, HOS.out, HEE.out.1, HEE.out.2, by rw [two_size]; omega, HP6.out, HO6.out, HF6.out⟩
        · have f0 : (kd == 0) = false := by rw [beq_eq_false_iff_ne]; exact e0
          rw [if_neg e0] at HRS
          rw [if_neg e0, if_neg e0] at HOS
          clear e0
          by_cases e1 : kd = 1
          · have f1 : (kd == 1) = true := by rw [e1]; rfl
            rw [if_pos e1] at HRS
            rw [if_pos e1, if_pos e1] at HOS
            have hee : 0 ≤ frE x st1 ∧ frE x st1 < 256 := by unfold frE; split <;> omega
            have HEE := Lib.hid hee
            clear e1 hee
            go_wp2_with fail
            refine (fr_any B p b s st1 w5 HP.out x HWF.out).mono ?_
            rintro e w6 ⟨rfl, hp, hf⟩
            have HO6 := Lib.hid (ow_fr9 HO.out HP.out.at_ hf)
            have HF6 := Lib.hid (HF.out.trans hf)
            have HP6 : Hid (PgS w6 B p b s st2) := by rw [HRS.out]; exact hp
            clear hp hf y0 y1 y2 y3 m0 q0
            generalize frE x st1 = ae at *
            go_wp2
            go_meet
            exact ⟨_, _, rfl, rfl, HOS.out, HEE.out.1, HEE.out.2, Nat.zero_le _, HP6.out, HO6.out, HF6.out⟩
          · have f1 : (kd == 1) = false := by rw [beq_eq_false_iff_ne]; exact e1
            rw [if_neg e1] at HRS
            rw [if_neg e1, if_neg e1] at HOS
            clear e1
            by_cases e2 : kd = 2
            · have f2 : (kd == 2) = true := by rw [e2]; rfl
              rw [if_pos e2] at HRS
              rw [if_pos e2, if_pos e2] at HOS
              have hee : 0 ≤ wrE s x sst st1 ∧ wrE s x sst st1 < 256 := by unfold wrE; split <;> (try split) <;> omega
              have HEE := Lib.hid hee
              clear e2 hee
              go_wp2_with fail
              refine (wr_any B p b s st1 w5 HP.out h4 x sst HWF.out).mono ?_
              rintro e w6 ⟨rfl, hp, hf⟩
              have HO6 := Lib.hid (ow_fr9 HO.out HP.out.at_ hf)
              have HF6 := Lib.hid (HF.out.trans hf)
              have HP6 : Hid (PgS w6 B p b s st2) := by rw [HRS.out]; exact hp
              clear hp hf y0 y1 y2 y3 m0 q0
              generalize wrE s x sst st1 = ae at *
              go_wp2
              go_meet
              exact ⟨_, _, rfl, rfl, HOS.out, HEE.out.1, HEE.out.2, Nat.zero_le _, HP6.out, HO6.out, HF6.out⟩
            · have f2 : (kd == 2) = false := by rw [beq_eq_false_iff_ne]; exact e2
              rw [if_neg e2] at HRS
              rw [if_neg e2, if_neg e2] at HOS
              have hee : 0 ≤ rdE x st1 ∧ rdE x st1 < 256 := by unfold rdE; split <;> omega
              have HEE := Lib.hid hee
              clear e2 hee
              go_wp2_with fail
              refine (rd_any B p b s st1 w5 HP.out x HWF.out).mono ?_
              rintro e w6 ⟨rfl, hb⟩
              have HO6 := Lib.hid (Ow.later HO.out hb)
              have HF6 := Lib.hid (HF.out.later hb)
              have HP6 : Hid (PgS w6 B p b s st2) := by rw [HRS.out]; exact HP.out.later hb
              clear hb y0 y1 y2 y3 m0 q0
              have HTS := Lib.hid (rdT_size HP.out h4 x)
              generalize rdT s x st1 = tt at *
              generalize rdE x st1 = ae at *
              go_wp2
              go_meet
              exact ⟨_, _, rfl, rfl, HOS.out, HEE.out.1, HEE.out.2, HTS.out, HP6.out, HO6.out, HF6.out⟩
      case rest =>
        obtain ⟨w7, rfl⟩ : ∃ w7 : World, w7 = wc := ⟨_, rfl⟩
        obtain ⟨T8, E9, rfl, rfl, hL, hE0, hE1, hT8, hp, ho, hf⟩ := hcut
        replace HP := Lib.hid hp
        have HL := Lib.hid hL
        have hb7 : Below w7.heap.size w7 (w7.alloc (.cells #[.int .u8 0, .int .u8 E9] 5)) := (Below.refl _ _).alloc (Nat.le_refl _) _
        have hcv := conv2 0 E9 w7
        have hb8 : Below w7.heap.size w7 ((w7.alloc (.cells #[.int .u8 0, .int .u8 E9] 5)).alloc (.cells #[.string (T8 ++ two 0 E9)] 9)) := stepB hb7 ((Below.refl _ _).alloc (Nat.le_refl _) _)
        have HX6 : Hid (Sl sv ((w7.alloc (.cells #[.int .u8 0, .int .u8 E9] 5)).alloc (.cells #[.string (T8 ++ two 0 E9)] 9)) (some ⟨w7.heap.size + 1, 0, none⟩) 1 1 [T8 ++ two 0 E9]) := by
          have := Blk.sl (enc := sv) (xs := [T8 ++ two 0 E9]) (Blk.new (w7.alloc (.cells #[.int .u8 0, .int .u8 E9] 5)) #[.string (T8 ++ two 0 E9)] 9)
          rw [show (w7.alloc (.cells #[.int .u8 0, .int .u8 E9] 5)).heap.size = w7.heap.size + 1 from by simp] at this
          exact this
        replace HP := Lib.hid (HP.out.later hb8)
        replace HO := Lib.hid (Ow.later ho hb8)
        replace HF := Lib.hid (hf.later hb8)
        have HSZ := Lib.hid (Nat.le_trans hf.size hb8.size)
        clear hL hp ho hf hb7 hb8 y0 y1 y2 y3 m0 q0
        have htw := two_size 0 E9
        generalize two 0 E9 = tw at *
        have htw2 : tw.size ≤ 2 := by omega
        clear htw
        go_wp2_with (first
          | (at_builtin; refine wpList_append_sl elemS rfl (.tmp 65) (.tmp 72) rfl w.heap.size _ k L1 rfl HO.out (some ⟨w7.heap.size + 1, 0, none⟩) 1 1 [T8 ++ tw] rfl HX6.out (by omega) (by decide) HSZ.out ?_; intro v9 w9 ho9)
          | fail)
        intro hg9
        replace HP := Lib.hid (HP.out.grown9 HO.out hg9)
        replace HF := Lib.hid (HF.out.grown hg9 (fun j hj => (Ow.lt HO.out j hj).1))
        have HO9 : Hid (Ow sv w9 w.heap.size 9 v9 (k + 1) L2) := by rw [HL.out]; exact ho9
        clear ho9 hg9 HX6 HO HL
        go_wp2
        go_roundw
        case rel => exact ⟨k + 1, _, by omega, by go_num, rfl, by rw [HS2.out]; exact HP.out, by rw [HL2.out]; exact HO9.out, HF.out⟩
        case measure => simp [intOf]; omega
    · obtain rfl : k = n := by omega
      have d2 : decide ((k : Int) < (k : Int)) = false := decide_eq_false (by omega)
      have hSk : S.take k = S := by rw [← HSL.out]; exact List.take_length
      rw [hSk] at HP HO
      have HSLQ := HSL
      go_wp2
      go_ret
      have e := HSLQ.out
      subst e
      exact ⟨Ar, cr, rfl, HP.out, HO.out, HF.out⟩
end Go.Proofs.Ytjkohdenmiljpaa
