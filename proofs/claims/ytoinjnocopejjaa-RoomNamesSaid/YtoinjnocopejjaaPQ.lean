/- PQ, PR, PV in one. -/
import Derived.Test.YtoinjnocopejjaaPO
import Derived.StillTailTactics
import Derived.Deep.QuietTactic
import Derived.BigQuiet
import Derived.Test.YtoinjnocopejjaaOC
/- The examples of room: small, is, run. -/
namespace Go.Proofs.Ytoinjnocopejjaa
open Go.ChangeShapes Go.WideShapes Go.ChangeAt Go.RowKit Go.Maps
set_option linter.unusedVariables false
set_option linter.unusedSimpArgs false
def cf30 : Conf := ⟨1, 2, 1, 2, 9, 2, 2, 3⟩
set_option maxRecDepth 100000 in
set_option maxHeartbeats 1600000 in
theorem small30 (w : World) : Calls Try.prog 40 #[] w fun e w' => e = .returned (.agg #[.int .i64 1, .int .i64 2, .int .i64 1, .int .i64 2, .int .i64 9, .int .i64 2, .int .i64 2, .int .i64 3]) ∧ Below w.heap.size w w' := by
  have hb : Below w.heap.size w (w.alloc (.cells #[.int .i64 1, .int .i64 2, .int .i64 1, .int .i64 2, .int .i64 9, .int .i64 2, .int .i64 2, .int .i64 3] 45)) := (Below.refl _ _).alloc (Nat.le_refl _) _
  have HB := Lib.hid hb
  clear hb
  go_enter Try.func40, Try.ntmps40
  go_wp2
  refine bodyPost_ret (results_cell_row rfl _ _ w.heap.size 45 #[.int .i64 1, .int .i64 2, .int .i64 1, .int .i64 2, .int .i64 9, .int .i64 2, .int .i64 2, .int .i64 3] (0, 0) _ rfl (Blk.new w _ 45) Try.underlying45 rfl (by kernel_rfl)) rfl ?_
  exact ⟨rfl, HB.out⟩
set_option maxRecDepth 100000 in
set_option maxHeartbeats 4000000 in
theorem is30 {W : World} (c : Conf) (A : Option Addr) (n cc : Nat) (LP : List PH) (A2 : Option Addr) (n2 c2 : Nat) (L : List EH) (sl an : Int) (hP : PsOk W W A n LP) (hE : EvOk W W A2 n2 L) (hnb : n ≤ maxLen) (hl : L.length ≤ 5000) (hn : nowP c (psV LP) (evV L) = (sl, an, 0)) : Calls Try.prog 46 #[.agg #[.int .i64 c.ta, .int .i64 c.ac, .int .i64 c.ke, .int .i64 c.de, .int .i64 c.ts, .int .i64 c.kl, .int .i64 c.vl, .int .i64 c.fa], .slice A n cc, .slice A2 n2 c2, .int .i64 sl, .int .i64 an] W fun e w' => e = .returned (.bool true) ∧ Below W.heap.size W w' := by
  have hb1 : Below W.heap.size W (W.alloc (.cells #[.int .i64 c.ta, .int .i64 c.ac, .int .i64 c.ke, .int .i64 c.de, .int .i64 c.ts, .int .i64 c.kl, .int .i64 c.vl, .int .i64 c.fa] 45)) := (Below.refl _ _).alloc (Nat.le_refl _) _
  have HB := Lib.hid hb1
  have HPS := Lib.hid (hP.at_ hb1)
  have HES := Lib.hid (hE.at_ hb1)
  have KC : Hid (Blk (W.alloc (.cells #[.int .i64 c.ta, .int .i64 c.ac, .int .i64 c.ke, .int .i64 c.de, .int .i64 c.ts, .int .i64 c.kl, .int .i64 c.vl, .int .i64 c.fa] 45)) W.heap.size #[.int .i64 c.ta, .int .i64 c.ac, .int .i64 c.ke, .int .i64 c.de, .int .i64 c.ts, .int .i64 c.kl, .int .i64 c.vl, .int .i64 c.fa] 45) := Lib.hid (Blk.new W _ 45)
  have HN := Lib.hid hn
  have HNB := Lib.hid hnb
  have HLL := Lib.hid hl
  clear hb1 hP hE hn hnb hl
  go_enter Try.func46, Try.ntmps46
  go_upto_region 1 with (fail)
  generalize (W.alloc (.cells #[.int .i64 c.ta, .int .i64 c.ac, .int .i64 c.ke, .int .i64 c.de, .int .i64 c.ts, .int .i64 c.kl, .int .i64 c.vl, .int .i64 c.fa] 45)) = w1 at *
  have z0 := KC.out.cell 0; have z1 := KC.out.cell 1; have z2 := KC.out.cell 2; have z3 := KC.out.cell 3; have z4 := KC.out.cell 4; have z5 := KC.out.cell 5; have z6 := KC.out.cell 6; have z7 := KC.out.cell 7; simp only [List.getElem?_toArray, List.getElem?_cons_zero, List.getElem?_cons_succ] at z0 z1 z2 z3 z4 z5 z6 z7
  have HNW := Lib.hid (now_any c A n cc LP A2 n2 c2 L HPS.out HES.out HNB.out HLL.out)
  rw [HN.out] at HNW
  go_wp2_with fail
  refine HNW.out.mono ?_
  rintro e w2 ⟨rfl, hb⟩
  have HB2 := Lib.hid (stepB HB.out hb)
  clear z0 z1 z2 z3 z4 z5 z6 z7 hb HB KC HNW HPS HES
  go_wp2
  go_ret
  exact ⟨rfl, HB2.out⟩
def runE (l : List Cl) : Nat → List Ev
  | 0 => []
  | n + 1 => runE l n ++ [(1, 0, (n : Int), as0), (2, 0, (n : Int), as0), (3, 0, (n : Int), (0, ((l.getD n cl0).1 : Int) == 4, emp, []))]
def eh (e : Ev) : EH := (e, none, 0)
def runH (l : List Cl) (n : Nat) : List EH := (runE l n).map eh
theorem runH_len (l : List Cl) : ∀ n, (runH l n).length = 3 * n
  | 0 => rfl
  | n + 1 => by
    have := runH_len l n
    unfold runH at this ⊢
    unfold runE
    rw [List.map_append, List.length_append, this]
    show 3 * n + 3 = _; omega
theorem evV_eh (l : List Ev) : evV (l.map eh) = l := by
  unfold evV
  rw [List.map_map]
  exact List.map_id l
theorem elemEv : RElem evE 7 Try.prog 90 89 80 where
  und := Try.underlying90
  info := by
    have h : (Try.prog.info? 89).map (fun i => (i.zero, i.size, i.bytes)) = some (some (.agg #[.int .u8 0, .int .i64 0, .int .i64 0, .int .i64 0, .bool false, .string ByteArray.empty, .slice none 0 0]), 7, 80) := by kernel_rfl
    cases hi : Try.prog.info? 89 with
    | none => rw [hi] at h; cases h
    | some i => rw [hi] at h; simp only [Option.map_some, Option.some.injEq, Prod.mk.injEq] at h; exact ⟨i, _, rfl, h.1, h.2.1, h.2.2, rfl⟩
  pos := by decide
  len := fun _ => rfl
  one := fun x u hu => by
    unfold evE at hu
    simp only [List.mem_cons, List.not_mem_nil, or_false] at hu
    rcases hu with rfl | rfl | rfl | rfl | rfl | rfl | rfl <;> rfl
theorem rs_of_ {α : Type} {enc : α → List Value} {k : Nat} (hk : ∀ x, (enc x).length = k) {W : World} {g : Nat} {L : List α} {t : TypeId} (h : Blk W g (rv enc L).toArray t) : RSl enc k W (some ⟨g, 0, none⟩) L.length L :=
  ⟨rfl, fun _ => ⟨g, 0, rfl, h.lt, fun j x hx i hi => by
    rw [h.cell, List.getElem?_toArray, Nat.zero_add]
    exact rv_at hk L j i x hx hi⟩⟩
def RnEnd (l : List Cl) (n : Nat) (W : World) (e : Ending) (w' : World) : Prop := ∃ A c, e = .returned (.slice A (3 * n) c) ∧ ROwn evE 7 w' W.heap.size 89 (.slice A (3 * n) c) (3 * n) (runH l n) ∧ Below W.heap.size W w'
set_option maxRecDepth 100000 in
set_option maxHeartbeats 4000000 in
theorem run30 {W : World} (A : Option Addr) (n cc : Nat) (LP : List PH) (l : List Cl) (y : Hdr) (nn : Nat) (hP : PsOk W W A n LP) (h0 : LP[0]? = some (l, y)) (hnn : nn ≤ l.length) (hll : l.length ≤ 1000) : Calls Try.prog 47 #[.slice A n cc, .int .i64 (nn : Int)] W (RnEnd l nn W) := by
  have HLN : Hid (LP.length = n) := Lib.hid (hP.row W (Fw.refl (Below.refl _ _))).1
  have HN0 : Hid (0 < n) := Lib.hid (by have := (List.getElem?_eq_some_iff.1 h0).1; rw [HLN.out] at this; exact this)
  have HPS := Lib.hid hP
  have H0 := Lib.hid h0
  have HNN := Lib.hid hnn
  have HLL := Lib.hid hll
  have HB : Hid (Below W.heap.size W W) := Lib.hid (Below.refl _ _)
  clear hP h0 hnn hll
  go_enter Try.func47, Try.ntmps47
  go_wp2
  go_loopw [5, 6] (fun s5 s6 W' => ∃ (k : Nat) (Ao : Option Addr) (co : Nat), k ≤ nn ∧ s6 = .int .i64 k ∧ s5 = .slice Ao (3 * k) co ∧ ROwn evE 7 W' W.heap.size 89 (.slice Ao (3 * k) co) (3 * k) (runH l k) ∧ Below W.heap.size W W') (fun _ s6 _ => nn - (intOf s6).toNat)
  case atStart => exact ⟨0, none, 0, Nat.zero_le _, rfl, rfl, ROwn.nil0 _ _ _, HB.out⟩
  case round =>
    obtain ⟨k, Ao, co, hk, rfl, rfl, hro, hb⟩ := hrel
    have HRO := Lib.hid hro
    have HBW := Lib.hid hb
    clear hro hb HB
    by_cases hlt : k < nn
    · have d2 : decide ((k : Int) < (nn : Int)) = true := decide_eq_true (by omega)
      have wk : IntKind.i64.wrap ((k : Int) + 1) = (k : Int) + 1 := IntWalk.i64_in _ (by have := HNN.out; have := HLL.out; omega)
      have wk2 : wrap64 ((k : Int) + 1) = (k : Int) + 1 := w64 (by have := HNN.out; have := HLL.out; omega)
      have hF : Fw W W wr := Fw.of (Below.refl _ _) HBW.out
      obtain ⟨g1, o1, hA1, _, h1⟩ := (HPS.out.row wr hF).2 HN0.out
      have hkl : k < l.length := by have := HNN.out; omega
      obtain ⟨g2, o2, hA2, _, h2⟩ := (HPS.out.inn _ (List.mem_of_getElem? H0.out) wr hF).2 (show 0 < l.length by omega)
      have p0 := h1 0 _ H0.out 0 (by decide)
      simp only [Nat.mul_one, Nat.add_zero, Nat.zero_mul, prE, List.getElem?_cons_zero] at p0
      have hr : l[k]? = some (l.getD k cl0) := by rw [List.getD_eq_getElem?_getD, List.getElem?_eq_getElem hkl]; rfl
      have p1 := h2 k _ hr 0 (by decide)
      simp only [Nat.add_zero, clE, List.getElem?_cons_zero] at p1
      have i1 : ∀ W, (Instr.indexAt 93 (.slice A n cc) (.int .i64 0)).run Try.prog W = .ok (.pointer (some ⟨g1, o1, none⟩)) W := fun W => by rw [hA1]; exact idx93 g1 o1 n cc 0 0 rfl HN0.out W
      have i2 : ∀ W, (Instr.indexAt 92 (.slice y.1 l.length y.2) (.int .i64 (k : Int))).run Try.prog W = .ok (.pointer (some ⟨g2, o2 + k * 7, none⟩)) W := fun W => by rw [hA2]; exact idx92 g2 o2 l.length y.2 k (k : Int) rfl hkl W
      obtain ⟨bq, hbq⟩ : ∃ bq, (((l.getD k cl0).1 : Int) == 4) = bq := ⟨_, rfl⟩
      have HRE : Hid (runH l (k + 1) = runH l k ++ [eh (1, 0, (k : Int), as0), eh (2, 0, (k : Int), as0), eh (3, 0, (k : Int), (0, bq, emp, []))]) := Lib.hid (by
        unfold runH
        rw [show runE l (k + 1) = runE l k ++ [(1, 0, (k : Int), as0), (2, 0, (k : Int), as0), (3, 0, (k : Int), (0, ((l.getD k cl0).1 : Int) == 4, emp, []))] from rfl, List.map_append, hbq]; rfl)
      obtain ⟨kn, hkn⟩ : ∃ kn, (l.getD k cl0).1 = kn := ⟨_, rfl⟩
      rw [hkn] at p1 hbq
      have HLT := Lib.hid hlt
      have HKB : Hid (3 * k + 3 ≤ 1000000) := Lib.hid (by have := HNN.out; have := HLL.out; omega)
      clear h1 h2 hA1 hA2 hr hkn hkl hF hlt
      have hb5 : Below wr.heap.size wr (wr.alloc (.cells #[.int .u8 1, .int .i64 0, .int .i64 (k : Int), .int .i64 0, .bool false, .string { data := #[] }, .slice none 0 0, .int .u8 2, .int .i64 0, .int .i64 (k : Int), .int .i64 0, .bool false, .string { data := #[] }, .slice none 0 0, .int .u8 3, .int .i64 0, .int .i64 (k : Int), .int .i64 0, .bool bq, .string { data := #[] }, .slice none 0 0] 89)) := (Below.refl _ _).alloc (Nat.le_refl _) _
      have KL : Hid (RSl evE 7 (wr.alloc (.cells #[.int .u8 1, .int .i64 0, .int .i64 (k : Int), .int .i64 0, .bool false, .string { data := #[] }, .slice none 0 0, .int .u8 2, .int .i64 0, .int .i64 (k : Int), .int .i64 0, .bool false, .string { data := #[] }, .slice none 0 0, .int .u8 3, .int .i64 0, .int .i64 (k : Int), .int .i64 0, .bool bq, .string { data := #[] }, .slice none 0 0] 89)) (some ⟨wr.heap.size, 0, none⟩) 3 [eh (1, 0, (k : Int), as0), eh (2, 0, (k : Int), as0), eh (3, 0, (k : Int), (0, bq, emp, []))]) := Lib.hid (rs_of_ (t := 89) evE_len (Blk.new wr _ 89))
      have HR5 := Lib.hid (HRO.out.later hb5)
      have HB5 := Lib.hid (stepB HBW.out hb5)
      clear hb5
      go_upto_region 5 with (fail)
      go_wp2_with (first | (at_builtin; refine append_row elemEv rfl (.tmp 12) (.tmp 28) rfl W.heap.size (.slice Ao (3 * k) co) (3 * k) (runH l k) rfl HR5.out (some ⟨wr.heap.size, 0, none⟩) 3 3 _ rfl KL.out (fun h => by cases h) HKB.out (by decide) HB5.out.size ?_; intro v1 w1 ho1 hg1; have HO1 := Lib.hid ho1; have HB6 := Lib.hid (grown_lift HB5.out HB5.out.size HR5.out hg1); obtain ⟨A1, c1, hv1, _, _⟩ := ho1.sl; subst hv1; clear ho1 hg1) | go_in)
      rw [← HRE.out] at HO1
      refine ⟨⟨k + 1, A1, c1, by have := HLT.out; omega, by go_num, rfl, HO1.out, HB6.out⟩, ?_⟩
      simp [intOf]
      have := HLT.out
      omega
    · obtain rfl : k = nn := by omega
      have d2 : decide ((k : Int) < (k : Int)) = false := decide_eq_false (by omega)
      go_wp2
      go_ret
      exact ⟨Ao, co, rfl, HRO.out, HBW.out⟩
end Go.Proofs.Ytoinjnocopejjaa

/- Programs, and events, that the examples make. -/
namespace Go.Proofs.Ytoinjnocopejjaa
open Go.ChangeShapes Go.WideShapes Go.ChangeAt Go.RowKit Go.Maps
set_option linter.unusedVariables false
set_option linter.unusedSimpArgs false
theorem rsl_pre {α : Type} {enc : α → List Value} {k n m : Nat} {W : World} {A : Option Addr} {L : List α} (h : RSl enc k W A n L) (hm : m ≤ n) : RSl enc k W A m (L.take m) :=
  ⟨by rw [List.length_take, h.1]; omega, fun h0 => by
    obtain ⟨g, off, hA, hg, hc⟩ := h.2 (by omega)
    refine ⟨g, off, hA, hg, fun j x hx i hi => hc j x ?_ i hi⟩
    rw [List.getElem?_take] at hx
    split at hx
    · exact hx
    · cases hx⟩
theorem runE_mem (l : List Cl) : ∀ n, ∀ e ∈ runE l n, (1 ≤ e.1 ∧ e.1 ≤ 3) ∧ e.2.2.2.2.2.2 = []
  | 0, e, h => by cases h
  | n + 1, e, h => by
    unfold runE at h
    rcases List.mem_append.1 h with h | h
    · exact runE_mem l n e h
    · simp only [List.mem_cons, List.not_mem_nil, or_false] at h
      rcases h with rfl | rfl | rfl <;> refine ⟨⟨?_, ?_⟩, rfl⟩ <;> simp only <;> omega
theorem ev_bare {W : World} {A : Option Addr} {n : Nat} {l : List Ev} (hr : ∀ W', Below W.heap.size W W' → RSl evE 7 W' A n (l.map eh)) (hm : ∀ e ∈ l, (1 ≤ e.1 ∧ e.1 ≤ 3) ∧ e.2.2.2.2.2.2 = []) : EvOk W W A n (l.map eh) :=
  ⟨fun W' hf => hr W' hf.bel, fun x hx => by
    obtain ⟨e, he, rfl⟩ := List.mem_map.1 hx
    intro W' _
    show RSl pvc 2 W' none e.2.2.2.2.2.2.length e.2.2.2.2.2.2
    rw [(hm e he).2]
    exact RSl.nil _ _, fun x hx => by
    obtain ⟨e, he, rfl⟩ := List.mem_map.1 hx
    have := (hm e he).1
    refine ⟨⟨by show 0 ≤ e.1; omega, by show e.1 ≤ 255; omega⟩, ?_⟩
    show e.2.2.2.2.2.2.length ≤ 100000
    rw [(hm e he).2]
    exact Nat.zero_le _⟩
/-- a beginning of what run tells -/
theorem ev_run {W : World} {A : Option Addr} {n c B m : Nat} {l : List Cl} (h : ROwn evE 7 W B 89 (.slice A n c) n (runH l m)) {k : Nat} (hk : k ≤ n) : EvOk W W A k (((runE l m).take k).map eh) :=
  ev_bare (fun W' hb => by
    have := rsl_pre ((h.later hb).rsl evE_len) hk
    unfold runH at this
    rw [List.map_take]
    exact this) (fun e he => runE_mem l m e (List.mem_of_mem_take he))
/-- one program -/
def lp1 (l : List Cl) (g : Nat) : List PH := [(l, some ⟨g, 0, none⟩, l.length)]
theorem ps_one {W : World} {b g : Nat} {l : List Cl} (hb : Blk W b #[.slice (some ⟨g, 0, none⟩) l.length l.length] 92) (hg : Blk W g (rv clE l).toArray 36) (hc : ∀ x ∈ l, COk x) : PsOk W W (some ⟨b, 0, none⟩) 1 (lp1 l g) :=
  ⟨fun W' hf => by
    have h1 := hb.later hf.bel
    exact (rs_of_ (L := lp1 l g) (enc := prE) prE_len (t := 92) h1), fun x hx => by
    have e : x = (l, some ⟨g, 0, none⟩, l.length) := by simpa [lp1] using hx
    subst e
    intro W' hf
    exact rs_of_ clE_len (hg.later hf.bel), fun x hx y hy => by
    have e : x = (l, some ⟨g, 0, none⟩, l.length) := by simpa [lp1] using hx
    subst e
    exact hc y hy⟩
def l30 : List Cl := [(1, 0, emp, emp, emp, 0, 0), (3, 1, ⟨#[97]⟩, emp, emp, 0, 0)]
theorem l30_ok : ∀ x ∈ l30, COk x := by
  intro x hx
  unfold l30 at hx
  simp only [List.mem_cons, List.not_mem_nil, or_false] at hx
  rcases hx with rfl | rfl <;> exact ⟨by decide, by decide, by decide, by decide, by decide, by decide, by decide⟩
theorem n30a : nowP cf30 [l30] ((runE l30 2).take 5) = (3, 2, 0) := by kernel_rfl
theorem n30b : nowP cf30 [l30] ((runE l30 2).take 6) = (1, 1, 0) := by kernel_rfl
theorem s30 : boundP cf30 = (5, 3) ∧ stepsP cf30 1 = 3 ∧ stepsP cf30 2 = 93 ∧ stepsP cf30 6 = 97 ∧ stepsP cf30 5 = 215 ∧ roundsP cf30 = 215 := ⟨by kernel_rfl, by kernel_rfl, by kernel_rfl, by kernel_rfl, by kernel_rfl, by kernel_rfl⟩
theorem sl90 (g off n c k : Nat) (hk : k ≤ n) (hc : n ≤ c) (ki : Int) (hki : ki = k) (W : World) : (Instr.slice 90 (.slice (some ⟨g, off, none⟩) n c) .none (some (.int .i64 ki)) .none).run Try.prog W = .ok (.slice (some ⟨g, off, none⟩) k c) W := by
  subst hki
  have h1 : (0 : Int) ≤ (k : Int) ∧ (k : Int) ≤ (c : Int) := by omega
  go_simp
end Go.Proofs.Ytoinjnocopejjaa

/- Programs and events as arguments. -/
namespace Go.Proofs.Ytoinjnocopejjaa
open Go.ChangeShapes Go.WideShapes Go.ChangeAt Go.RowKit Go.Maps Go.Deep Go.Joins Go.Maps
set_option linter.unusedVariables false
set_option linter.unusedSimpArgs false
theorem cls92 : Try.prog.cellsOf 92 = 1 := by kernel_rfl
theorem cls89 : Try.prog.cellsOf 89 = 7 := by kernel_rfl
theorem cls33 : Try.prog.cellsOf 33 = 4 := by kernel_rfl
theorem cls30 : Try.prog.cellsOf 30 = 1 := by kernel_rfl
theorem cls4 : Try.prog.cellsOf 4 = 1 := by kernel_rfl
theorem cls31 : Try.prog.cellsOf 31 = 1 := by kernel_rfl
theorem cls129 : Try.prog.cellsOf 129 = 2 := by kernel_rfl
theorem list2 {α : Type} {l : List α} (h : l.length = 2) : ∃ a b, l = [a, b] := by
  match l, h with
  | [a, b], _ => exact ⟨a, b, rfl⟩
theorem list4 {α : Type} {l : List α} (h : l.length = 4) : ∃ a b c d, l = [a, b, c, d] := by
  match l, h with
  | [a, b, c, d], _ => exact ⟨a, b, c, d, rfl⟩
section
variable {H : Type} {enc : TypeId × Value → H} {W : World}
def PrQ (W : World) (v : PH) : Prop := RSl clE 7 W v.2.1 v.1.length v.1 ∧ (∀ y ∈ v.1, COk y) ∧ v.1.length ≤ maxLen
set_option maxRecDepth 100000 in
theorem prog_read {base : Nat} {spare : Nat → Bool} {held : Bool} {fuel : Nat} {cs : List Value} {x : DataW H × List MemPlace} (h : DataW.trod enc Try.prog W base spare held fuel 92 cs = some x) : ∃ v : PH, cs = prE v ∧ PrQ W v := by
  obtain ⟨A, n, c, L, e, hr, hq, h1, h2, h3⟩ := open_row (cenc := clE) (Q := COk) Try.underlying92 cls36 (by decide) clE_len cl_read h
  have hn := hr.1
  subst hn
  exact ⟨(L, A, c), e, hr, hq, h1⟩
set_option maxRecDepth 100000 in
theorem open_progs {base : Nat} {v : Value} {d : DataW H} {ps : List MemPlace} (hval : Value.okWide Try.prog W .any base 93 v) (h : DataW.Trod enc Try.prog W 0 (fun _ => true) true 93 v d ps) :
    ∃ A n c L, v = .slice A n c ∧ RSl prE 1 W A n L ∧ (∀ r ∈ L, PrQ W r) ∧ n ≤ maxLen := by
  obtain ⟨A, n, c, rfl⟩ := okWide_slice Try.underlying93 hval
  obtain ⟨fuel, hf⟩ := h
  obtain ⟨A', n', c', L, e, hr, hq, h1, h2, h3⟩ := open_row (cenc := prE) (Q := PrQ W) Try.underlying93 cls92 (by decide) prE_len prog_read hf
  simp [Value.cells] at e
  obtain ⟨rfl, rfl, rfl⟩ := e
  exact ⟨A, n, c, L, rfl, hr, hq, h1⟩
set_option maxRecDepth 100000 in
theorem pair_read {base : Nat} {spare : Nat → Bool} {held : Bool} {fuel : Nat} {cs : List Value} {x : DataW H × List MemPlace} (h : DataW.trod enc Try.prog W base spare held fuel 129 cs = some x) : ∃ v : Pr, cs = pvc v ∧ True := by
  obtain ⟨ys, n, _, hx, hl, hlen, hg⟩ := DataW.trod_struct Try.underlying129 h
  obtain ⟨c0, c1, rfl⟩ := list2 (hl.trans cls129)
  obtain ⟨y0, y1, rfl⟩ := list2 (show ys.length = 2 from hlen)
  obtain ⟨m0, e0, _, _⟩ := DataW.trod_string Try.underlying9 (show DataW.trod enc Try.prog W base spare held n 9 [c0] = some y0 from by simpa [cls9] using hg 0 _ rfl)
  obtain ⟨m1, e1, _, _⟩ := DataW.trod_string Try.underlying9 (show DataW.trod enc Try.prog W base spare held n 9 [c1] = some y1 from by simpa [cls9] using hg 1 _ rfl)
  simp at e0 e1
  subst e0 e1
  exact ⟨(m0, m1), rfl, trivial⟩
def EvQ (W : World) (v : EH) : Prop := (0 ≤ v.1.1 ∧ v.1.1 ≤ 255) ∧ RSl pvc 2 W v.2.1 v.1.2.2.2.2.2.2.length v.1.2.2.2.2.2.2
set_option maxRecDepth 100000 in
theorem ev_read {base : Nat} {spare : Nat → Bool} {held : Bool} {fuel : Nat} {cs : List Value} {x : DataW H × List MemPlace} (h : DataW.trod enc Try.prog W base spare held fuel 89 cs = some x) : ∃ v : EH, cs = evE v ∧ EvQ W v := by
  obtain ⟨ys, n, _, hx, hl, hlen, hg⟩ := DataW.trod_struct Try.underlying89 h
  obtain ⟨c0, c1, c2, c3, c4, c5, c6, rfl⟩ := list7 (hl.trans cls89)
  obtain ⟨y0, y1, y2, y3, rfl⟩ := list4 (show ys.length = 4 from hlen)
  obtain ⟨m0, e0, _, w0⟩ := DataW.trod_int Try.underlying5 (show DataW.trod enc Try.prog W base spare held n 5 [c0] = some y0 from by simpa [cls5] using hg 0 _ rfl)
  obtain ⟨m1, e1, _, _⟩ := DataW.trod_int Try.underlying3 (show DataW.trod enc Try.prog W base spare held n 3 [c1] = some y1 from by simpa [cls3, cls5] using hg 1 _ rfl)
  obtain ⟨m2, e2, _, _⟩ := DataW.trod_int Try.underlying3 (show DataW.trod enc Try.prog W base spare held n 3 [c2] = some y2 from by simpa [cls3, cls5] using hg 2 _ rfl)
  have h3 : DataW.trod enc Try.prog W base spare held n 33 [c3, c4, c5, c6] = some y3 := by simpa [cls3, cls5, cls33] using hg 3 _ rfl
  obtain ⟨zs, n2, _, hx2, hl2, hlen2, hg2⟩ := DataW.trod_struct Try.underlying33 h3
  obtain ⟨x0, x1, x2, x3, rfl⟩ := list4 (show zs.length = 4 from hlen2)
  obtain ⟨m3, e3, _, _⟩ := DataW.trod_int Try.underlying30 (show DataW.trod enc Try.prog W base spare held n2 30 [c3] = some x0 from by simpa [cls30] using hg2 0 _ rfl)
  obtain ⟨m4, e4, _⟩ := DataW.trod_bool Try.underlying4 (show DataW.trod enc Try.prog W base spare held n2 4 [c4] = some x1 from by simpa [cls30, cls4] using hg2 1 _ rfl)
  obtain ⟨m5, e5, _, _⟩ := DataW.trod_string Try.underlying9 (show DataW.trod enc Try.prog W base spare held n2 9 [c5] = some x2 from by simpa [cls30, cls4, cls9] using hg2 2 _ rfl)
  obtain ⟨A, k, c, L, e6, hr, _, _, _, _⟩ := open_row (cenc := pvc) (Q := fun _ => True) Try.underlying31 cls129 (by decide) pvc_len pair_read (show DataW.trod enc Try.prog W base spare held n2 31 [c6] = some x3 from by simpa [cls30, cls4, cls9, cls31] using hg2 3 _ rfl)
  have hn := hr.1
  subst hn
  simp at e0 e1 e2 e3 e4 e5 e6
  have r0 := rg8 w0
  subst e0 e1 e2 e3 e4 e5 e6
  exact ⟨((m0, m1, m2, m3, m4, m5, L), A, c), rfl, r0, hr⟩
set_option maxRecDepth 100000 in
theorem open_evs {base : Nat} {v : Value} {d : DataW H} {ps : List MemPlace} (hval : Value.okWide Try.prog W .any base 90 v) (h : DataW.Trod enc Try.prog W 0 (fun _ => true) true 90 v d ps) :
    ∃ A n c L, v = .slice A n c ∧ RSl evE 7 W A n L ∧ (∀ r ∈ L, EvQ W r) ∧ n ≤ maxLen ∧ n ≤ c ∧ (A = none → n = 0 ∧ c = 0) := by
  obtain ⟨A, n, c, rfl⟩ := okWide_slice Try.underlying90 hval
  obtain ⟨fuel, hf⟩ := h
  obtain ⟨A', n', c', L, e, hr, hq, h1, h2, h3⟩ := open_row (cenc := evE) (Q := EvQ W) Try.underlying90 cls89 (by decide) evE_len ev_read hf
  simp [Value.cells] at e
  obtain ⟨rfl, rfl, rfl⟩ := e
  exact ⟨A, n, c, L, rfl, hr, hq, h1, h2, h3⟩
end
/-- what was opened can be read on -/
theorem progs_ok {W : World} {A : Option Addr} {n : Nat} {L : List PH} (h : RSl prE 1 W A n L) (hq : ∀ r ∈ L, PrQ W r) : PsOk W W A n L :=
  ⟨fun W' hf => h.later hf.bel, fun x hx W' hf => (hq x hx).1.later hf.bel, fun x hx => (hq x hx).2.1⟩
theorem evs_ok {W : World} {A : Option Addr} {n : Nat} {L : List EH} (h : RSl evE 7 W A n L) (hq : ∀ r ∈ L, EvQ W r) (hl : ∀ r ∈ L, r.1.2.2.2.2.2.2.length ≤ 100000) : EvOk W W A n L :=
  ⟨fun W' hf => h.later hf.bel, fun x hx W' hf => (hq x hx).2.later hf.bel, fun x hx => ⟨(hq x hx).1, hl x hx⟩⟩
end Go.Proofs.Ytoinjnocopejjaa
