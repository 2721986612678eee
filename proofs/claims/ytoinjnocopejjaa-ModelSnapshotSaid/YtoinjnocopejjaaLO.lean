/- A note: what a Commit committed. -/
import Derived.Test.YtoinjnocopejjaaLK
import Derived.StillTailTactics
import Derived.Deep.QuietTactic
import Derived.BigQuiet
namespace Go.Proofs.Ytoinjnocopejjaa
open Go.ChangeShapes Go.WideShapes Go.ChangeAt Go.RowKit Go.Maps
set_option linter.unusedVariables false
set_option linter.unusedSimpArgs false
theorem noteI_6 (g : Lg) (at_ t : Int) (y : Int × ByteArray × ByteArray × ByteArray × Int × Nat) (fo : Bool) (av : ByteArray) (prs : List Pr) (i : Nat) : noteI g at_ t (6, y) (0, fo, av, prs) (i : Int) = if (gl g i).ws = [] then overW g i at_ else { overW g i at_ with time := g.time + 1, facts := g.facts ++ lastFs (g.time + 1) (gl g i).ws } := by
  unfold noteI
  rw [if_neg (fun e => e.elim (fun e3 => e3 rfl) (fun e3 => by have := e3.2; omega)), if_neg (show ¬ ((6 : Nat) = 1) by decide), if_neg (show ¬ ((6 : Nat) = 3) by decide), if_neg (show ¬ ((6 : Nat) = 4) by decide), if_pos rfl]
  rfl
theorem all_of {ws : List Fc} {k m : Nat} {fk : ByteArray} {bl : Bool} (hm : ws.length = m) (h : bl = true ↔ ∀ q, k < q → q < m → (ws.getD q fc0).key ≠ fk) : ((ws.drop (k + 1)).all fun y => decide (y.key ≠ fk)) = bl := by
  have e : (((ws.drop (k + 1)).all fun y => decide (y.key ≠ fk)) = true) ↔ bl = true := by
    rw [h, List.all_eq_true]
    constructor
    · intro h1 q hq1 hq2
      have hq : q < ws.length := by omega
      have e1 : ws.getD q fc0 = ws[q] := by rw [List.getD_eq_getElem?_getD, List.getElem?_eq_getElem hq]; rfl
      rw [e1]
      refine of_decide_eq_true (h1 ws[q] (List.mem_iff_getElem?.2 ⟨q - (k + 1), ?_⟩))
      rw [List.getElem?_drop, show k + 1 + (q - (k + 1)) = q from by omega, List.getElem?_eq_getElem hq]
    · intro h1 y hy
      obtain ⟨j, hj⟩ := List.mem_iff_getElem?.1 hy
      rw [List.getElem?_drop] at hj
      have hl := (List.getElem?_eq_some_iff.1 hj).1
      have e1 : ws.getD (k + 1 + j) fc0 = y := by rw [List.getD_eq_getElem?_getD, hj]; rfl
      have := h1 (k + 1 + j) (by omega) (by omega)
      rw [e1] at this
      exact decide_eq_true this
  cases bl with
  | true => exact e.2 rfl
  | false =>
    cases h2 : ((ws.drop (k + 1)).all fun y => decide (y.key ≠ fk)) with
    | false => rfl
    | true => have := e.1 h2; cases this
theorem LgAt.lblk' {W : World} {B p : Nat} {g : Lg} {x : LX} (h : LgAt W B p g x) {i : Nat} (hi : i < g.lives.length) {b off : Nat} (e : x.lA = some ⟨b, off, none⟩) : ∃ cur, Blk W b cur 73 := h.li.tag b (h.lA hi e).1
theorem pblk {W : World} {B p i nl fc : Nat} {g : Lg} {x : LX} {at_ T : Int} {F : List Fc} {fA : Option Addr} (hn : (overW g i at_).lives.length = nl) (h : LgAt W B p { overW g i at_ with time := T, facts := F } { x with fA := fA, fc := fc }) : Blk W p #[.int .i64 T, .slice fA F.length fc, .slice x.lA nl x.lc] 61 := by
  have h0 := h.blk
  rw [show ({ overW g i at_ with time := T, facts := F } : Lg).lives.length = nl from hn] at h0
  exact h0
theorem hneF {W W1 : World} {B p : Nat} {g : Lg} {x : LX} (h : LgAt W B p g x) (hg : W.grownBy W1 (Value.slice x.fA g.facts.length x.fc).ownBlock) {j : Nat} {cu : Array Value} {t : TypeId} (hb : Blk W j cu t) (ht : t ≠ 75) : W1.heap[j]? = W.heap[j]? :=
  hg.block j hb.lt (fun e2 => by
    obtain ⟨cu2, h2⟩ := h.fa.tag j e2.symm
    rw [show W.heap[j]? = some (.cells cu t (0, 0)) from hb] at h2
    simp only [Option.some.injEq, Obj.cells.injEq] at h2
    exact ht h2.2.1)
set_option maxRecDepth 100000 in
set_option maxHeartbeats 1600000 in
theorem note_commit (B p : Nat) (g : Lg) (x : LX) (at_ ta tx li er : Int) (ke en va av : ByteArray) (kn eg n c : Nat) (fo : Bool) (A : Option Addr) (prs : List Pr) (w : World) (h : LgAt w B p g x) (hl : g.lives.length ≤ 1000) (hB : B ≤ w.heap.size) (h0 : er = 0) (hkn : kn = 6) (i : Nat) (hi : findL g ta tx = (i : Int)) (hil : i < g.lives.length) (hw : (gl g i).ws.length ≤ 1000) (hf : g.facts.length ≤ 100000) (ht : 0 ≤ g.time ∧ g.time ≤ 2000000) : Calls Try.prog 36 #[.pointer (some ⟨p, 0, none⟩), .int .i64 at_, .agg #[.int .i64 ta, .int .u8 (kn : Int), .int .i64 tx, .string ke, .string en, .string va, .int .i64 li, .int .u8 (eg : Int)], .agg #[.int .i64 er, .bool fo, .string av, .slice A n c]] w (NtEnd B p (noteL g at_ ta (kn, tx, ke, en, va, li, eg) (er, fo, av, prs)) w) := by
  subst h0
  subst hkn
  have HFI := Lib.hid hi
  have HLI := Lib.hid hil
  have HWL := Lib.hid hw
  have HFL := Lib.hid hf
  have HTM := Lib.hid ht
  clear hi hil hw hf ht
  have hb2 : Below w.heap.size w ((w.alloc (.cells #[.int .i64 ta, .int .u8 6, .int .i64 tx, .string ke, .string en, .string va, .int .i64 li, .int .u8 (eg : Int)] 63)).alloc (.cells #[.int .i64 0, .bool fo, .string av, .slice A n c] 33)) := ((Below.refl _ _).alloc (Nat.le_refl _) _).alloc (by simp) _
  have HB := Lib.hid hb2
  have KT : Hid (Blk ((w.alloc (.cells #[.int .i64 ta, .int .u8 6, .int .i64 tx, .string ke, .string en, .string va, .int .i64 li, .int .u8 (eg : Int)] 63)).alloc (.cells #[.int .i64 0, .bool fo, .string av, .slice A n c] 33)) w.heap.size #[.int .i64 ta, .int .u8 6, .int .i64 tx, .string ke, .string en, .string va, .int .i64 li, .int .u8 (eg : Int)] 63) := Lib.hid ((Blk.new w _ 63).alloc _)
  have KA : Hid (Blk ((w.alloc (.cells #[.int .i64 ta, .int .u8 6, .int .i64 tx, .string ke, .string en, .string va, .int .i64 li, .int .u8 (eg : Int)] 63)).alloc (.cells #[.int .i64 0, .bool fo, .string av, .slice A n c] 33)) (w.heap.size + 1) #[.int .i64 0, .bool fo, .string av, .slice A n c] 33) := Lib.hid (Blk.new2 _ _ 33 (by simp))
  have H := Lib.hid (h.later hb2)
  have HL := Lib.hid hl
  have HBB := Lib.hid hB
  have HIX := Lib.hid (show ∀ ix, findL g ta tx = ix → noteL g at_ ta (6, tx, ke, en, va, li, eg) (0, fo, av, prs) = noteI g at_ ta (6, tx, ke, en, va, li, eg) (0, fo, av, prs) ix from fun ix e => by rw [← e]; rfl)
  obtain ⟨ix, hix⟩ : ∃ ix, findL g ta tx = ix := ⟨_, rfl⟩
  have HIY := Lib.hid hix
  have HI2 := Lib.hid (HIX.out ix hix)
  rw [HI2.out]
  obtain ⟨GR, hGR⟩ : ∃ GR, noteI g at_ ta (6, tx, ke, en, va, li, eg) (0, fo, av, prs) ix = GR := ⟨_, rfl⟩
  have HGR := Lib.hid hGR
  rw [hGR]
  clear hb2 h hl hB hix HIX hGR HI2
  go_enter Try.func36, Try.ntmps36
  go_upto_region 1 with (fail)
  generalize ((w.alloc (.cells #[.int .i64 ta, .int .u8 6, .int .i64 tx, .string ke, .string en, .string va, .int .i64 li, .int .u8 (eg : Int)] 63)).alloc (.cells #[.int .i64 0, .bool fo, .string av, .slice A n c] 33)) = w2 at *
  have z0 := KT.out.cell 0
  have z1 := KT.out.cell 1
  have z2 := KT.out.cell 2
  have z3 := KT.out.cell 3
  have z4 := KT.out.cell 4
  have z5 := KT.out.cell 5
  have z6 := KT.out.cell 6
  have z7 := KT.out.cell 7
  simp only [List.getElem?_toArray, List.getElem?_cons_zero, List.getElem?_cons_succ] at z0 z1 z2 z3 z4 z5 z6 z7
  go_wp2_with fail
  refine (find_any B p g x ta tx _ H.out HL.out).mono ?_
  rintro e w3 ⟨rfl, rfl⟩
  rw [HIY.out]
  have u0 := KA.out.cell 0
  have u1 := KA.out.cell 1
  have u2 := KA.out.cell 2
  simp only [List.getElem?_toArray, List.getElem?_cons_zero, List.getElem?_cons_succ] at u0 u1 u2
  have HIXI : Hid (ix = (i : Int)) := Lib.hid (HIY.out.symm.trans HFI.out)
  have HE : Hid (GR = if (gl g i).ws = [] then overW g i at_ else { overW g i at_ with time := g.time + 1, facts := g.facts ++ lastFs (g.time + 1) (gl g i).ws }) := Lib.hid (by
    rw [← HGR.out, HIXI.out]
    exact noteI_6 ..)
  clear HGR HIY
  have b2 : decide (ix < 0) = false := decide_eq_false (by have := HIXI.out; omega)
  obtain ⟨b, off, hd, hA, hh, hc⟩ := H.out.life HLI.out
  have HH := Lib.hid hh
  have HA := Lib.hid hA
  obtain ⟨nl, hnl⟩ : ∃ nl, g.lives.length = nl := ⟨_, rfl⟩
  have HNL := Lib.hid hnl
  have i1 := idx59 b off nl x.lc i ix HIXI.out (by rw [← hnl]; exact HLI.out)
  have q2 := H.out.c0.2.2
  rw [hA, hnl] at q2
  have y5 := hc 5 (by decide)
  unfold lfE at y5
  simp only [List.getElem?_cons_zero, List.getElem?_cons_succ] at y5
  have f5 : w2.frozen? ⟨b, off + i * 6 + 5, none⟩ = false := by
    obtain ⟨cur, hbk⟩ := H.out.lblk' HLI.out HA.out
    exact Blk.frozen hbk _
  have HOV := Lib.hid (H.out.over HLI.out HA.out at_)
  clear hc hh hA hnl
  go_upto_region 19 with (fail)
  clear b2 q2 y5 f5 z0 z1 z2 z3 z4 z5 z6 z7 u0 u1 u2
  have HK3 : Hid (LgK B w (w2.setCell ⟨b, off + i * 6 + 5, none⟩ (.int .i64 at_))) := Lib.hid ((LgK.of_below HB.out).tr HOV.out.2)
  have H3 := Lib.hid HOV.out.1
  clear HOV H HB KT KA
  generalize w2.setCell ⟨b, off + i * 6 + 5, none⟩ (.int .i64 at_) = w3 at *
  have HNO : Hid ((overW g i at_).lives.length = nl) := Lib.hid (by rw [← HNL.out]; exact List.length_set ..)
  have HWS : Hid ((gl (overW g i at_) i).ws = (gl g i).ws) := Lib.hid (by
    rw [show gl (overW g i at_) i = _ from gl_set HLI.out, if_pos rfl]
    rfl)
  obtain ⟨ws, hws⟩ : ∃ ws, (gl g i).ws = ws := ⟨_, rfl⟩
  rw [hws] at HE HWS HWL
  obtain ⟨m, hm⟩ : ∃ m, ws.length = m := ⟨_, rfl⟩
  rw [hm] at HWL
  have HM := Lib.hid hm
  have HLC : Hid (∀ (W : World) (F : List Fc) (fA : Option Addr) (fc : Nat) (T : Int), LgAt W B p { overW g i at_ with time := T, facts := F } ({ x with fA := fA, fc := fc } : LX) → W.cell? ⟨p, 2, none⟩ = some (.slice (some ⟨b, off, none⟩) nl x.lc) ∧ W.cell? ⟨b, off + i * 6 + 3, none⟩ = some (.slice hd.1 m hd.2) ∧ ROwn fcE 4 W B 75 (.slice hd.1 m hd.2) m ws) := Lib.hid (fun W F fA fc T hW => by
    have hl2 : i < ({ overW g i at_ with time := T, facts := F } : Lg).lives.length := by rw [show ({ overW g i at_ with time := T, facts := F } : Lg).lives.length = nl from HNO.out, ← HNL.out]; exact HLI.out
    have h2 := hW.c0.2.2
    obtain ⟨b', off', hd', e1, e2, hc⟩ := hW.life hl2
    have e1 : x.lA = some ⟨b', off', none⟩ := e1
    have e2 : x.hs[i]? = some hd' := e2
    rw [HA.out] at e1
    rw [HH.out] at e2
    cases e1
    cases e2
    have h3 := hc 3 (by decide)
    unfold lfE at h3
    simp only [List.getElem?_cons_zero, List.getElem?_cons_succ] at h3
    have ew : (gl ({ overW g i at_ with time := T, facts := F } : Lg) i).ws = ws := HWS.out
    have hr := hW.ws i hd _ (show x.hs[i]? = some hd from HH.out) (gl_at hl2)
    rw [ew, hm] at h3 hr
    refine ⟨?_, h3, hr⟩
    have e3 : ({ overW g i at_ with time := T, facts := F } : Lg).lives.length = nl := HNO.out
    rw [e3] at h2
    have h2 : W.cell? ⟨p, 2, none⟩ = some (.slice x.lA nl x.lc) := h2
    rw [HA.out] at h2; exact h2)
  have hlc := HLC.out w3 g.facts x.fA x.fc g.time H3.out
  obtain ⟨q2, y3, _⟩ := hlc
  clear hws hm
  by_cases hm0 : m = 0
  · have HGE : Hid (GR = overW g i at_) := Lib.hid (by rw [HE.out, if_pos (List.eq_nil_of_length_eq_zero (HM.out.trans hm0))])
    rw [hm0] at y3
    clear hm0
    go_wp2
    refine bodyPost_end (results_none rfl _ _ _) rfl ?_
    exact ⟨rfl, x, by rw [HGE.out]; exact H3.out, HK3.out⟩
  have m0 : ((m : Int) == 0) = false := by rw [beq_eq_false_iff_ne]; omega
  have m0' : (m == 0) = false := by rw [beq_eq_false_iff_ne]; exact hm0
  have HGE : Hid (GR = { overW g i at_ with time := g.time + 1, facts := g.facts ++ lastFs (g.time + 1) ws }) := Lib.hid (by rw [HE.out, if_neg (fun e => hm0 (by rw [← HM.out, e]; rfl))])
  have f0 := H3.out.blk.frozen 0
  have wt : IntKind.i64.wrap (g.time + 1) = g.time + 1 := IntWalk.i64_in _ (by have := HTM.out; omega)
  have wt2 : wrap64 (g.time + 1) = g.time + 1 := by have := HTM.out; unfold wrap64; omega
  have p0 : w3.cell? ⟨p, 0, none⟩ = some (.int .i64 g.time) := H3.out.c0.1
  clear hm0
  go_upto_region 21 with (fail)
  clear p0 f0 wt wt2 m0 m0' q2 y3
  have htk := H3.out.ticked (g.time + 1)
  have HK4 : Hid (LgK B w (w3.setCell ⟨p, 0, none⟩ (.int .i64 (g.time + 1)))) := Lib.hid (HK3.out.tr htk.2)
  have H4 : Hid (LgAt (w3.setCell ⟨p, 0, none⟩ (.int .i64 (g.time + 1))) B p ({ overW g i at_ with time := g.time + 1 } : Lg) x) := Lib.hid htk.1
  clear htk H3 HK3
  generalize w3.setCell ⟨p, 0, none⟩ (.int .i64 (g.time + 1)) = w4 at *
  obtain ⟨T, hT⟩ : ∃ T, g.time + 1 = T := ⟨_, rfl⟩
  rw [hT] at H4 HGE
  clear hT
  go_wp2
  go_loopw [11] (fun s11 W => ∃ (k : Nat) (F : List Fc) (fA : Option Addr) (fc : Nat), k ≤ m ∧ s11 = .int .i64 k ∧ LgAt W B p { overW g i at_ with time := T, facts := F } ({ x with fA := fA, fc := fc } : LX) ∧ F ++ lastFs T (ws.drop k) = g.facts ++ lastFs T ws ∧ F.length ≤ g.facts.length + k ∧ LgK B w W) (fun s11 _ => m - (intOf s11).toNat)
  case atStart => exact ⟨0, g.facts, x.fA, x.fc, Nat.zero_le _, rfl, H4.out, rfl, Nat.le_refl _, HK4.out⟩
  case round =>
    obtain ⟨k, F, fA, fc, hk, rfl, hla, hfe, hfl, hlk⟩ := hrel
    clear H4 HK4
    have HW := Lib.hid hla
    have HFE := Lib.hid hfe
    have HFN := Lib.hid hfl
    have HLK := Lib.hid hlk
    clear hla hfe hfl hlk
    obtain ⟨q2, y3, _⟩ := HLC.out wr F fA fc T HW.out
    by_cases hlt : k < m
    · have d2 : decide ((k : Int) < (m : Int)) = true := decide_eq_true (Int.ofNat_lt.2 hlt)
      have d2' : decide (k < m) = true := decide_eq_true hlt
      obtain ⟨wk, wk2⟩ := wk_1000 k (by have := HWL.out; omega)
      have hrow := (HLC.out wr F fA fc T HW.out).2.2
      obtain ⟨g5, o5, hA5, hg5, hc5⟩ := (hrow.rsl fcE_len).2 (by omega)
      have hkl : k < ws.length := by rw [HM.out]; exact hlt
      have hfk : ws[k]? = some ws[k] := List.getElem?_eq_getElem hkl
      have hdr : ws.drop k = ws[k] :: ws.drop (k + 1) := List.drop_eq_getElem_cons hkl
      have x0 := hc5 k _ hfk 0 (by decide)
      have x1 := hc5 k _ hfk 1 (by decide)
      have x2 := hc5 k _ hfk 2 (by decide)
      have x3 := hc5 k _ hfk 3 (by decide)
      generalize ws[k] = f at *
      obtain ⟨fts, fk, ft, fv⟩ := f
      unfold fcE at x0 x1 x2 x3
      simp only [List.getElem?_cons_zero, List.getElem?_cons_succ, Nat.add_zero] at x0 x1 x2 x3
      rw [hA5] at y3
      have HA5 := Lib.hid hA5
      have j1 := idx58 g5 o5 m hd.2 k (k : Int) rfl hlt
      have HDR := Lib.hid hdr
      have HK := Lib.hid hlt
      have p0 : wr.cell? ⟨p, 0, none⟩ = some (.int .i64 T) := HW.out.c0.1
      have hbb : Below wr.heap.size wr (wr.alloc (.cells #[.int .i64 T, .string fk, .bool ft, .string fv] 75)) := (Below.refl _ _).alloc (Nat.le_refl _) _
      have HBB6 := Lib.hid hbb
      have KF0 : Hid (Blk (wr.alloc (.cells #[.int .i64 fts, .string fk, .bool ft, .string fv] 75)) wr.heap.size #[.int .i64 fts, .string fk, .bool ft, .string fv] 75) := Lib.hid (Blk.new wr _ 75)
      have HB5N0 : Hid (∀ (n : Nat) q, (Value.slice fA n fc).ownBlock = some q → q ≠ wr.heap.size) := Lib.hid (fun n q hq e => by
        have hq2 := (ob_eq fA n fc).symm.trans hq
        have := (HW.out.tags q (.inr (.inl hq2))).2.1
        omega)
      have KF : Hid (Blk (wr.alloc (.cells #[.int .i64 T, .string fk, .bool ft, .string fv] 75)) wr.heap.size #[.int .i64 T, .string fk, .bool ft, .string fv] 75) := Lib.hid (Blk.new wr _ 75)
      have HWA := Lib.hid (HW.out.later ((Below.refl _ _).alloc (Nat.le_refl _) (.cells #[.int .i64 fts, .string fk, .bool ft, .string fv] 75)))
      clear hrow hg5 hc5 hkl hfk hdr hA5 hlt hk hbb
      go_upto_region 25 with (fail)
      clear x0 x1 x2 x3 q2 y3 p0 d2 d2'
      have c0 := KF0.out.cell 0
      have f0 := KF0.out.frozen 0
      simp only [List.getElem?_toArray, List.getElem?_cons_zero, List.getElem?_cons_succ] at c0
      have p0 : (wr.alloc (.cells #[.int .i64 fts, .string fk, .bool ft, .string fv] 75)).cell? ⟨p, 0, none⟩ = some (.int .i64 T) := HWA.out.c0.1
      go_upto_region 26 with (fail)
      clear c0 f0 p0 HWA KF0
      have HW6 := Lib.hid (HW.out.later HBB6.out)
      have HK6 := Lib.hid (HLK.out.tr (LgK.of_below HBB6.out))
      clear HW HLK HBB6
      generalize wr.alloc (.cells #[.int .i64 T, .string fk, .bool ft, .string fv] 75) = w6 at *
      obtain ⟨b5, hb5⟩ : ∃ z, wr.heap.size = z := ⟨_, rfl⟩
      rw [hb5] at KF HB5N0 ⊢
      clear hb5
      go_wp2
      go_loopw [13, 14] (fun s13 s14 W => ∃ (j : Nat) (bl : Bool), k + 1 ≤ j ∧ j ≤ m ∧ s14 = .int .i64 j ∧ s13 = .bool bl ∧ (bl = true ↔ ∀ q, k < q → q < j → (ws.getD q fc0).key ≠ fk) ∧ Below w6.heap.size w6 W) (fun _ s14 _ => m - (intOf s14).toNat)
      case atStart => exact ⟨k + 1, true, Nat.le_refl _, HK.out, by go_num, rfl, ⟨fun _ q h1 h2 => by omega, fun _ => rfl⟩, Below.refl _ _⟩
      case round =>
        obtain ⟨j, bl, hj1, hj2, rfl, rfl, hbl, hbj⟩ := hrel
        have HBJ := Lib.hid hbj
        have HBL := Lib.hid hbl
        have HJ1 := Lib.hid hj1
        clear hbj hbl hj1
        have HWJ := Lib.hid (HW6.out.later HBJ.out)
        obtain ⟨q2, y3, hrow⟩ := HLC.out wr F fA fc T HWJ.out
        have KFJ := Lib.hid (KF.out.later HBJ.out)
        by_cases hjl : j < m
        · have d3 : decide ((j : Int) < (m : Int)) = true := decide_eq_true (Int.ofNat_lt.2 hjl)
          have d3' : decide (j < m) = true := decide_eq_true hjl
          obtain ⟨wj, wj2⟩ := wk_1000 j (by have := HWL.out; omega)
          have HJ := Lib.hid hjl
          have hkl : j < ws.length := by rw [HM.out]; exact hjl
          have hfk : ws[j]? = some ws[j] := List.getElem?_eq_getElem hkl
          have hgd : ws.getD j fc0 = ws[j] := by rw [List.getD_eq_getElem?_getD, hfk]; rfl
          obtain ⟨g6, o6, hA6, hg6, hc6⟩ := (hrow.rsl fcE_len).2 (by omega)
          have x1 := hc6 j _ hfk 1 (by decide)
          generalize ws[j] = fj at *
          obtain ⟨jts, jk, jt, jv⟩ := fj
          unfold fcE at x1
          simp only [List.getElem?_cons_zero, List.getElem?_cons_succ] at x1
          rw [HA5.out] at hA6
          cases hA6
          rw [HA5.out] at y3
          have j2 := idx58 g5 o5 m hd.2 j (j : Int) rfl hjl
          have c1 := KFJ.out.cell 1
          simp only [List.getElem?_toArray, List.getElem?_cons_zero, List.getElem?_cons_succ] at c1
          have HGD := Lib.hid hgd
          clear hkl hfk hgd hg6 hc6 hrow hjl hj2
          cases bl with
          | false =>
            have HNX : Hid ((false = true) ↔ ∀ q, k < q → q < j + 1 → (ws.getD q fc0).key ≠ fk) := Lib.hid ⟨fun e => (by cases e), fun h => HBL.out.2 (fun q h1 h2 => h q h1 (by omega))⟩
            go_wp2
            go_quiet (fail)
            go_wp2
            exact ⟨⟨j + 1, false, Nat.le_succ_of_le HJ1.out, HJ.out, by go_num, rfl, HNX.out, below_drewN HBJ.out _⟩, ms_n j m HJ.out⟩
          | true =>
            by_cases ek : jk = fk
            · have e9 := tl_eq ek
              have HNX : Hid ((false = true) ↔ ∀ q, k < q → q < j + 1 → (ws.getD q fc0).key ≠ fk) := Lib.hid ⟨fun e => (by cases e), fun h => absurd (by rw [HGD.out]; exact ek) (h j (by have := HJ1.out; omega) (Nat.lt_succ_self _))⟩
              clear ek
              go_wp2
              go_quiet (fail)
              go_wp2
              exact ⟨⟨j + 1, false, Nat.le_succ_of_le HJ1.out, HJ.out, by go_num, rfl, HNX.out, below_drewN HBJ.out _⟩, ms_n j m HJ.out⟩
            · have e9 := tl_ne ek
              have HNX : Hid (∀ q, k < q → q < j + 1 → (ws.getD q fc0).key ≠ fk) := Lib.hid (fun q h1 h2 => by
                by_cases e : q = j
                · rw [e, HGD.out]; exact ek
                · exact HBL.out.1 rfl q h1 (by omega))
              clear ek
              go_wp2
              go_quiet (fail)
              go_wp2
              exact ⟨⟨j + 1, true, Nat.le_succ_of_le HJ1.out, HJ.out, by go_num, rfl, ⟨fun _ => HNX.out, fun _ => rfl⟩, below_drewN HBJ.out _⟩, ms_n j m HJ.out⟩
        · obtain rfl : m = j := by omega
          have d3 : decide ((m : Int) < (m : Int)) = false := decide_eq_false (Int.lt_irrefl _)
          have HAL : Hid (((ws.drop (k + 1)).all fun y => decide (y.key ≠ fk)) = bl) := Lib.hid (all_of HM.out HBL.out)
          have HLF : Hid (lastFs T (ws.drop k) = if bl = true then (⟨T, fk, ft, fv⟩ : Fc) :: lastFs T (ws.drop (k + 1)) else lastFs T (ws.drop (k + 1))) := Lib.hid (by
            rw [HDR.out]
            show (if ((ws.drop (k + 1)).all fun y => decide (y.key ≠ fk)) = true then _ else _) = _
            rw [HAL.out])
          have HKJ := Lib.hid (HK6.out.tr (LgK.of_below HBJ.out))
          clear hjl hj2 hrow
          cases bl with
          | false =>
            have HNF : Hid (F ++ lastFs T (ws.drop (k + 1)) = g.facts ++ lastFs T ws) := Lib.hid (by rw [← HFE.out, HLF.out]; rfl)
            go_wp2
            exact ⟨⟨k + 1, F, fA, fc, HK.out, by go_num, HWJ.out, HNF.out, Nat.le_succ_of_le HFN.out, HKJ.out⟩, ms_n k m HK.out⟩
          | true =>
            have HNF : Hid ((F ++ [(⟨T, fk, ft, fv⟩ : Fc)]) ++ lastFs T (ws.drop (k + 1)) = g.facts ++ lastFs T ws) := Lib.hid (by rw [← HFE.out, HLF.out, List.append_assoc]; rfl)
            go_upto_region 32 with (fail)
            clear d3 q2 y3
            refine wp_region_noPanic ?_
            obtain ⟨W0, rfl⟩ : ∃ W0 : World, W0 = wr := ⟨_, rfl⟩
            refine wp_region_held_drew (S := fun W => (∃ v, Blk W p #[.int .i64 T, v, .slice x.lA nl x.lc] 61) ∧ Blk W b5 #[.int .i64 T, .string fk, .bool ft, .string fv] 75) (by kernel_rfl) (⟨⟨_, pblk HNO.out (HWJ.out.later (Below.drew (Below.refl _ _)))⟩, KFJ.out.later (Below.drew (Below.refl _ _))⟩) (fun hHeld => ?_)
            replace HWJ := Lib.hid (HWJ.out.later (Below.drew (Below.refl _ _)))
            replace KFJ := Lib.hid (KFJ.out.later (Below.drew (Below.refl _ _)))
            replace HKJ := Lib.hid (HKJ.out.tr (LgK.of_below (Below.drew (Below.refl _ _))))
            generalize World.drew W0 = Wd at *
            obtain ⟨nF, hnF⟩ : ∃ nF, F.length = nF := ⟨_, rfl⟩
            have HNF2 := Lib.hid hnF
            clear hnF
            refine wpAnyH_take (i := 0) (oi := { dst := some 221, op := Op.move (Operand.tmp 0), type := 57, pos := "outright.go:195", after := #[], guard := none }) (v := ?_) rfl (by kernel_rfl) (by kernel_rfl) (by kernel_rfl) (fun _ _ _ h => h) (Or.inl ⟨by rfl, ?_⟩) (by assumption) ?_
            rotate_left
            · intro W hSw
              clear hSw
              go_simp
              try with_reducible rfl
            simp only [Act.put, List.setIfInBounds_toArray, List.set_cons_zero, List.set_cons_succ]
            refine wpAnyH_take (i := 1) (oi := { dst := some 222, op := Op.move (Operand.tmp 0), type := 57, pos := "outright.go:195", after := #[], guard := none }) (v := ?_) rfl (by kernel_rfl) (by kernel_rfl) (by kernel_rfl) (fun _ _ _ h => h) (Or.inl ⟨by rfl, ?_⟩) (by assumption) ?_
            rotate_left
            · intro W hSw
              clear hSw
              go_simp
              try with_reducible rfl
            simp only [Act.put, List.setIfInBounds_toArray, List.set_cons_zero, List.set_cons_succ]
            refine wpAnyH_take (i := 2) (oi := { dst := some 223, op := Op.nilCheck (Operand.tmp 222), type := 0, pos := "outright.go:195", after := #[{ on := 1, ground := Ground.data }], guard := none }) (v := ?_) rfl (by kernel_rfl) (by kernel_rfl) (by kernel_rfl) (fun _ _ _ h => h) (Or.inl ⟨by rfl, ?_⟩) (by assumption) ?_
            rotate_left
            · intro W hSw
              clear hSw
              go_simp
              try with_reducible rfl
            simp only [Act.put, List.setIfInBounds_toArray, List.set_cons_zero, List.set_cons_succ]
            refine wpAnyH_take (i := 3) (oi := { dst := some 224, op := Op.fieldAddr 61 (Operand.tmp 223) 1, type := 0, pos := "outright.go:195", after := #[{ on := 2, ground := Ground.data }], guard := none }) (v := ?_) rfl (by kernel_rfl) (by kernel_rfl) (by kernel_rfl) (fun _ _ _ h => h) (Or.inl ⟨by rfl, ?_⟩) (by assumption) ?_
            rotate_left
            · intro W hSw
              clear hSw
              go_simp
              try with_reducible rfl
            simp only [Act.put, List.setIfInBounds_toArray, List.set_cons_zero, List.set_cons_succ]
            refine wpAnyH_take (i := 5) (oi := { dst := some 226, op := Op.load 75 (Operand.tmp 12), type := 75, pos := "outright.go:195", after := #[], guard := none }) (v := ?_) rfl (by kernel_rfl) (by kernel_rfl) (by kernel_rfl) (fun _ _ _ h => h) (Or.inl ⟨by rfl, ?_⟩) (by assumption) ?_
            rotate_left
            · intro W hSw
              obtain ⟨_, hb5⟩ := hSw
              have c0 := hb5.cell 0
              have c1 := hb5.cell 1
              have c2 := hb5.cell 2
              have c3 := hb5.cell 3
              simp only [List.getElem?_toArray, List.getElem?_cons_zero, List.getElem?_cons_succ] at c0 c1 c2 c3
              clear hb5
              go_simp
              try with_reducible rfl
            simp only [Act.put, List.setIfInBounds_toArray, List.set_cons_zero, List.set_cons_succ]
            have HB5F : Hid (∀ q, (Value.slice fA nF fc).ownBlock = some q → q ≠ b5) := Lib.hid (fun q hq => HB5N0.out nF q hq)
            refine wpAnyH_ready (rs := [4, 6]) (by kernel_rfl) (by simp) (AllReadyH.cons (o := { dst := some 225, op := Op.load 58 (Operand.tmp 224), type := 58, pos := "outright.go:195", after := #[{ on := 3, ground := Ground.data }], guard := none }) rfl (fun K hK => ?_) (AllReadyH.cons (o := { dst := some 227, op := Op.buildSlice 58 1 #[(0, Operand.tmp 226)], type := 58, pos := "outright.go:195", after := #[{ on := 5, ground := Ground.data }], guard := none }) rfl (fun K hK => ?_) AllReadyH.nil))
            · have hl : Wd.cell? ⟨p, 1, none⟩ = some (.slice fA nF fc) := by rw [← HNF2.out]; exact HWJ.out.c0.2.1
              go_simp
              clear hl hHeld
              refine hK.out _ _ (⟨⟨_, pblk HNO.out HWJ.out⟩, KFJ.out⟩) (fun hHeld => ?_)
              clear hK K
              refine wpAnyH_ready (rs := [6]) (by kernel_rfl) (by simp) (AllReadyH.cons (o := { dst := some 227, op := Op.buildSlice 58 1 #[(0, Operand.tmp 226)], type := 58, pos := "outright.go:195", after := #[{ on := 5, ground := Ground.data }], guard := none }) rfl (fun K hK => ?_) AllReadyH.nil)
              go_simp
              have hb : Below Wd.heap.size Wd (Wd.alloc (.cells #[.int .i64 T, .string fk, .bool ft, .string fv] 75)) := (Below.refl _ _).alloc (Nat.le_refl _) _
              have KV : Hid (Blk (Wd.alloc (.cells #[.int .i64 T, .string fk, .bool ft, .string fv] 75)) Wd.heap.size (fcE ⟨T, fk, ft, fv⟩).toArray 75) := Lib.hid (Blk.new Wd _ 75)
              replace KFJ := Lib.hid (KFJ.out.later hb)
              replace HWJ := Lib.hid (HWJ.out.later hb)
              replace HKJ := Lib.hid (HKJ.out.tr (LgK.of_below hb))
              clear hb hHeld
              refine hK.out _ _ (⟨⟨_, pblk HNO.out HWJ.out⟩, KFJ.out⟩) (fun hHeld => ?_)
              clear hK K
              generalize Wd.alloc (.cells #[.int .i64 T, .string fk, .bool ft, .string fv] 75) = We at *
              obtain ⟨qv, hqv⟩ : ∃ z, Wd.heap.size = z := ⟨_, rfl⟩
              rw [hqv] at KV ⊢
              clear hqv
              refine wpAnyH_ready (rs := [7]) (by kernel_rfl) (by simp) (AllReadyH.cons (o := { dst := some 228, op := Op.call { callee := Callee.builtin Builtin.append, args := #[Operand.tmp 225, Operand.tmp 227], argTypes := #[58, 58] }, type := 58, pos := "outright.go:195", after := #[{ on := 4, ground := Ground.data }, { on := 6, ground := Ground.data }], guard := none }) rfl (fun K hK => ?_) AllReadyH.nil)
              refine wp_append_row1 elemF (.tmp 225) (.tmp 227) rfl B (.slice fA nF fc) nF F rfl (by have := HWJ.out.fa; rw [show ({ overW g i at_ with time := T, facts := F } : Lg).facts.length = nF from HNF2.out] at this; exact this) qv 1 ⟨T, fk, ft, fv⟩ rfl KV.out.rsl (by rw [← HNF2.out]; have := HFN.out; have := HFL.out; have := HK.out; have := HWL.out; omega) (by decide) (Nat.le_trans HBB.out HKJ.out.size) ?_
              intro A6 c6 w7 ho6 hg6 hn6 _
              have hkn := HWJ.out.known (f := ⟨T, fk, ft, fv⟩) (by rw [show ({ overW g i at_ with time := T, facts := F } : Lg).facts.length = nF from HNF2.out]; exact ho6) (by rw [show ({ overW g i at_ with time := T, facts := F } : Lg).facts.length = nF from HNF2.out]; exact hg6) (by rw [show ({ overW g i at_ with time := T, facts := F } : Lg).facts.length = nF from HNF2.out]; exact hn6)
              rw [show ({ overW g i at_ with time := T, facts := F } : Lg).facts.length = nF from HNF2.out] at hkn
              have HKNW := Lib.hid hkn
              have HPB6 : Hid (Blk w7 p #[.int .i64 T, .slice fA nF fc, .slice x.lA nl x.lc] 61) := Lib.hid (by
                have h0 := pblk HNO.out HWJ.out
                rw [HNF2.out] at h0
                exact (hneF HWJ.out (by rw [show ({ overW g i at_ with time := T, facts := F } : Lg).facts.length = nF from HNF2.out]; exact hg6) h0 (by decide)).trans h0)
              clear ho6 hn6 hkn hHeld KV
              have HNPB : Hid (b5 ≠ p) := Lib.hid (fun e => by
                have h1 : We.heap[b5]? = some (.cells #[.int .i64 T, .string fk, .bool ft, .string fv] 75 (0, 0)) := KFJ.out
                have h2 : We.heap[p]? = some (.cells _ 61 (0, 0)) := HWJ.out.blk
                rw [e, h2] at h1
                simp only [Option.some.injEq, Obj.cells.injEq] at h1
                exact absurd h1.2.1 (by decide))
              have KF7 : Hid (Blk w7 b5 #[.int .i64 T, .string fk, .bool ft, .string fv] 75) := Lib.hid ((hg6.block b5 KFJ.out.lt (fun e => HB5F.out _ e.symm rfl)).trans KFJ.out)
              clear hg6
              refine hK.out _ _ (⟨⟨_, HPB6.out⟩, KF7.out⟩) (fun hHeld => ?_)
              clear hK K
              refine wpAnyH_take (i := 8) (oi := { dst := some 229, op := Op.nilCheck (Operand.tmp 221), type := 0, pos := "outright.go:195", after := #[{ on := 0, ground := Ground.data }, { on := 0, ground := Ground.phase }, { on := 1, ground := Ground.phase }, { on := 2, ground := Ground.phase }, { on := 3, ground := Ground.phase }, { on := 4, ground := Ground.phase }, { on := 5, ground := Ground.phase }, { on := 6, ground := Ground.phase }, { on := 7, ground := Ground.phase }], guard := none }) (v := ?_) rfl (by kernel_rfl) (by kernel_rfl) (by kernel_rfl) (fun _ _ _ h => h) (Or.inl ⟨by rfl, ?_⟩) (by assumption) ?_
              rotate_left
              · intro W hSw
                clear hSw
                go_simp
                try with_reducible rfl
              simp only [Act.put, List.setIfInBounds_toArray, List.set_cons_zero, List.set_cons_succ]
              refine wpAnyH_take (i := 9) (oi := { dst := some 230, op := Op.fieldAddr 61 (Operand.tmp 229) 1, type := 0, pos := "outright.go:195", after := #[{ on := 8, ground := Ground.data }, { on := 0, ground := Ground.phase }, { on := 1, ground := Ground.phase }, { on := 2, ground := Ground.phase }, { on := 3, ground := Ground.phase }, { on := 4, ground := Ground.phase }, { on := 5, ground := Ground.phase }, { on := 6, ground := Ground.phase }, { on := 7, ground := Ground.phase }], guard := none }) (v := ?_) rfl (by kernel_rfl) (by kernel_rfl) (by kernel_rfl) (fun _ _ _ h => h) (Or.inl ⟨by rfl, ?_⟩) (by assumption) ?_
              rotate_left
              · intro W hSw
                clear hSw
                go_simp
                try with_reducible rfl
              simp only [Act.put, List.setIfInBounds_toArray, List.set_cons_zero, List.set_cons_succ]
              refine wpAnyH_ready (rs := [10]) (by kernel_rfl) (by simp) (AllReadyH.cons (o := { dst := none, op := Op.store 58 (Operand.tmp 230) (Operand.tmp 228), type := 0, pos := "outright.go:195", after := #[{ on := 9, ground := Ground.data }, { on := 7, ground := Ground.data }, { on := 7, ground := Ground.chain }, { on := 0, ground := Ground.phase }, { on := 1, ground := Ground.phase }, { on := 2, ground := Ground.phase }, { on := 3, ground := Ground.phase }, { on := 4, ground := Ground.phase }, { on := 5, ground := Ground.phase }, { on := 6, ground := Ground.phase }, { on := 7, ground := Ground.phase }], guard := none }) rfl (fun K hK => ?_) AllReadyH.nil)
              have cz := HPB6.out.cell 1
              have fz := HPB6.out.frozen 1
              simp only [List.getElem?_toArray, List.getElem?_cons_zero, List.getElem?_cons_succ] at cz
              go_simp
              clear cz fz hHeld
              refine hK.out _ _ (⟨⟨_, HPB6.out.set (j := 1) _⟩, KF7.out.other HNPB.out _⟩) (fun hHeld => ?_)
              clear hK K
              refine wpAnyH_done (by kernel_rfl) (NoPanic.normal ?_) _
              clear hHeld
              have HFIN : Hid (LgK B w (w7.setCell ⟨p, 1, none⟩ (.slice A6 (nF + 1) c6))) := Lib.hid (HKJ.out.tr HKNW.out.2)
              generalize w7.setCell ⟨p, 1, none⟩ (.slice A6 (nF + 1) c6) = w8 at *
              go_wp2
              exact ⟨⟨k + 1, F ++ [⟨T, fk, ft, fv⟩], A6, c6, HK.out, by go_num, HKNW.out.1, HNF.out, by rw [List.length_append, List.length_singleton]; exact Nat.succ_le_succ HFN.out, HFIN.out⟩, ms_n k m HK.out⟩
            · go_simp
              have hb : Below Wd.heap.size Wd (Wd.alloc (.cells #[.int .i64 T, .string fk, .bool ft, .string fv] 75)) := (Below.refl _ _).alloc (Nat.le_refl _) _
              have KV : Hid (Blk (Wd.alloc (.cells #[.int .i64 T, .string fk, .bool ft, .string fv] 75)) Wd.heap.size (fcE ⟨T, fk, ft, fv⟩).toArray 75) := Lib.hid (Blk.new Wd _ 75)
              replace KFJ := Lib.hid (KFJ.out.later hb)
              replace HWJ := Lib.hid (HWJ.out.later hb)
              replace HKJ := Lib.hid (HKJ.out.tr (LgK.of_below hb))
              clear hb hHeld
              refine hK.out _ _ (⟨⟨_, pblk HNO.out HWJ.out⟩, KFJ.out⟩) (fun hHeld => ?_)
              clear hK K
              generalize Wd.alloc (.cells #[.int .i64 T, .string fk, .bool ft, .string fv] 75) = We at *
              obtain ⟨qv, hqv⟩ : ∃ z, Wd.heap.size = z := ⟨_, rfl⟩
              rw [hqv] at KV ⊢
              clear hqv
              refine wpAnyH_ready (rs := [4]) (by kernel_rfl) (by simp) (AllReadyH.cons (o := { dst := some 225, op := Op.load 58 (Operand.tmp 224), type := 58, pos := "outright.go:195", after := #[{ on := 3, ground := Ground.data }], guard := none }) rfl (fun K hK => ?_) AllReadyH.nil)
              have hl : We.cell? ⟨p, 1, none⟩ = some (.slice fA nF fc) := by rw [← HNF2.out]; exact HWJ.out.c0.2.1
              go_simp
              clear hl hHeld
              refine hK.out _ _ (⟨⟨_, pblk HNO.out HWJ.out⟩, KFJ.out⟩) (fun hHeld => ?_)
              clear hK K
              refine wpAnyH_ready (rs := [7]) (by kernel_rfl) (by simp) (AllReadyH.cons (o := { dst := some 228, op := Op.call { callee := Callee.builtin Builtin.append, args := #[Operand.tmp 225, Operand.tmp 227], argTypes := #[58, 58] }, type := 58, pos := "outright.go:195", after := #[{ on := 4, ground := Ground.data }, { on := 6, ground := Ground.data }], guard := none }) rfl (fun K hK => ?_) AllReadyH.nil)
              refine wp_append_row1 elemF (.tmp 225) (.tmp 227) rfl B (.slice fA nF fc) nF F rfl (by have := HWJ.out.fa; rw [show ({ overW g i at_ with time := T, facts := F } : Lg).facts.length = nF from HNF2.out] at this; exact this) qv 1 ⟨T, fk, ft, fv⟩ rfl KV.out.rsl (by rw [← HNF2.out]; have := HFN.out; have := HFL.out; have := HK.out; have := HWL.out; omega) (by decide) (Nat.le_trans HBB.out HKJ.out.size) ?_
              intro A6 c6 w7 ho6 hg6 hn6 _
              have hkn := HWJ.out.known (f := ⟨T, fk, ft, fv⟩) (by rw [show ({ overW g i at_ with time := T, facts := F } : Lg).facts.length = nF from HNF2.out]; exact ho6) (by rw [show ({ overW g i at_ with time := T, facts := F } : Lg).facts.length = nF from HNF2.out]; exact hg6) (by rw [show ({ overW g i at_ with time := T, facts := F } : Lg).facts.length = nF from HNF2.out]; exact hn6)
              rw [show ({ overW g i at_ with time := T, facts := F } : Lg).facts.length = nF from HNF2.out] at hkn
              have HKNW := Lib.hid hkn
              have HPB6 : Hid (Blk w7 p #[.int .i64 T, .slice fA nF fc, .slice x.lA nl x.lc] 61) := Lib.hid (by
                have h0 := pblk HNO.out HWJ.out
                rw [HNF2.out] at h0
                exact (hneF HWJ.out (by rw [show ({ overW g i at_ with time := T, facts := F } : Lg).facts.length = nF from HNF2.out]; exact hg6) h0 (by decide)).trans h0)
              clear ho6 hn6 hkn hHeld KV
              have HNPB : Hid (b5 ≠ p) := Lib.hid (fun e => by
                have h1 : We.heap[b5]? = some (.cells #[.int .i64 T, .string fk, .bool ft, .string fv] 75 (0, 0)) := KFJ.out
                have h2 : We.heap[p]? = some (.cells _ 61 (0, 0)) := HWJ.out.blk
                rw [e, h2] at h1
                simp only [Option.some.injEq, Obj.cells.injEq] at h1
                exact absurd h1.2.1 (by decide))
              have KF7 : Hid (Blk w7 b5 #[.int .i64 T, .string fk, .bool ft, .string fv] 75) := Lib.hid ((hg6.block b5 KFJ.out.lt (fun e => HB5F.out _ e.symm rfl)).trans KFJ.out)
              clear hg6
              refine hK.out _ _ (⟨⟨_, HPB6.out⟩, KF7.out⟩) (fun hHeld => ?_)
              clear hK K
              refine wpAnyH_take (i := 8) (oi := { dst := some 229, op := Op.nilCheck (Operand.tmp 221), type := 0, pos := "outright.go:195", after := #[{ on := 0, ground := Ground.data }, { on := 0, ground := Ground.phase }, { on := 1, ground := Ground.phase }, { on := 2, ground := Ground.phase }, { on := 3, ground := Ground.phase }, { on := 4, ground := Ground.phase }, { on := 5, ground := Ground.phase }, { on := 6, ground := Ground.phase }, { on := 7, ground := Ground.phase }], guard := none }) (v := ?_) rfl (by kernel_rfl) (by kernel_rfl) (by kernel_rfl) (fun _ _ _ h => h) (Or.inl ⟨by rfl, ?_⟩) (by assumption) ?_
              rotate_left
              · intro W hSw
                clear hSw
                go_simp
                try with_reducible rfl
              simp only [Act.put, List.setIfInBounds_toArray, List.set_cons_zero, List.set_cons_succ]
              refine wpAnyH_take (i := 9) (oi := { dst := some 230, op := Op.fieldAddr 61 (Operand.tmp 229) 1, type := 0, pos := "outright.go:195", after := #[{ on := 8, ground := Ground.data }, { on := 0, ground := Ground.phase }, { on := 1, ground := Ground.phase }, { on := 2, ground := Ground.phase }, { on := 3, ground := Ground.phase }, { on := 4, ground := Ground.phase }, { on := 5, ground := Ground.phase }, { on := 6, ground := Ground.phase }, { on := 7, ground := Ground.phase }], guard := none }) (v := ?_) rfl (by kernel_rfl) (by kernel_rfl) (by kernel_rfl) (fun _ _ _ h => h) (Or.inl ⟨by rfl, ?_⟩) (by assumption) ?_
              rotate_left
              · intro W hSw
                clear hSw
                go_simp
                try with_reducible rfl
              simp only [Act.put, List.setIfInBounds_toArray, List.set_cons_zero, List.set_cons_succ]
              refine wpAnyH_ready (rs := [10]) (by kernel_rfl) (by simp) (AllReadyH.cons (o := { dst := none, op := Op.store 58 (Operand.tmp 230) (Operand.tmp 228), type := 0, pos := "outright.go:195", after := #[{ on := 9, ground := Ground.data }, { on := 7, ground := Ground.data }, { on := 7, ground := Ground.chain }, { on := 0, ground := Ground.phase }, { on := 1, ground := Ground.phase }, { on := 2, ground := Ground.phase }, { on := 3, ground := Ground.phase }, { on := 4, ground := Ground.phase }, { on := 5, ground := Ground.phase }, { on := 6, ground := Ground.phase }, { on := 7, ground := Ground.phase }], guard := none }) rfl (fun K hK => ?_) AllReadyH.nil)
              have cz := HPB6.out.cell 1
              have fz := HPB6.out.frozen 1
              simp only [List.getElem?_toArray, List.getElem?_cons_zero, List.getElem?_cons_succ] at cz
              go_simp
              clear cz fz hHeld
              refine hK.out _ _ (⟨⟨_, HPB6.out.set (j := 1) _⟩, KF7.out.other HNPB.out _⟩) (fun hHeld => ?_)
              clear hK K
              refine wpAnyH_done (by kernel_rfl) (NoPanic.normal ?_) _
              clear hHeld
              have HFIN : Hid (LgK B w (w7.setCell ⟨p, 1, none⟩ (.slice A6 (nF + 1) c6))) := Lib.hid (HKJ.out.tr HKNW.out.2)
              generalize w7.setCell ⟨p, 1, none⟩ (.slice A6 (nF + 1) c6) = w8 at *
              go_wp2
              exact ⟨⟨k + 1, F ++ [⟨T, fk, ft, fv⟩], A6, c6, HK.out, by go_num, HKNW.out.1, HNF.out, by rw [List.length_append, List.length_singleton]; exact Nat.succ_le_succ HFN.out, HFIN.out⟩, ms_n k m HK.out⟩
    · obtain rfl : m = k := by omega
      have d2 : decide ((m : Int) < (m : Int)) = false := decide_eq_false (Int.lt_irrefl _)
      have HFF : Hid (F = g.facts ++ lastFs T ws) := Lib.hid (by
        have h := HFE.out
        rw [List.drop_eq_nil_of_le (by rw [HM.out]; exact Nat.le_refl _)] at h
        rw [← h]; exact (List.append_nil _).symm)
      clear hlt hk
      go_wp2
      refine bodyPost_end (results_none rfl _ _ _) rfl ?_
      exact ⟨rfl, _, by rw [HGE.out, ← HFF.out]; exact HW.out, HLK.out⟩
end Go.Proofs.Ytoinjnocopejjaa
