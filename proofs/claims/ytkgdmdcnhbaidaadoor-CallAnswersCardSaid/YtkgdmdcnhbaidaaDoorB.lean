/- The tables that a call reads; of, May, kind. -/
import Derived.Test.YtkgdmdcnhbaidaaDoorA
import Derived.Lib.LaidTab
import Derived.WalkSmall
namespace Go.Proofs.YtkgdmdcnhbaidaaDoor
open Go.ChangeShapes Go.WideShapes Go.ChangeAt Go.RowKit
set_option linter.unusedVariables false
set_option linter.unusedSimpArgs false

/-- the tables as they are laid -/
structure Gl (W : World) : Prop where
  lo : 8 ≤ W.heap.size
  words : ∀ j w, wdL[j]? = some w → W.cell? ⟨0, j, none⟩ = some (.string w)
  named : ∀ k, k < 10 → W.cell? ⟨1, k * 6, none⟩ = some (.bool (nmK k).1) ∧ W.cell? ⟨1, k * 6 + 1, none⟩ = some (.bool (nmK k).2.1) ∧ W.cell? ⟨1, k * 6 + 2, none⟩ = some (.bool (nmK k).2.2.1) ∧ W.cell? ⟨1, k * 6 + 3, none⟩ = some (.bool (nmK k).2.2.2.1) ∧ W.cell? ⟨1, k * 6 + 4, none⟩ = some (.bool (nmK k).2.2.2.2.1) ∧ W.cell? ⟨1, k * 6 + 5, none⟩ = some (.bool (nmK k).2.2.2.2.2)
  max : ∃ m, W.cell? ⟨2, 0, none⟩ = some (.int .i64 m)
  pow : Lib.TabIs Tryd.prog W "internal/strconv.uint64pow10" .u64 Lib.pow10Tab
  syn : ∃ t p, W.var? Tryd.prog "strconv.ErrSyntax" = some #[.iface t p]
  rng : ∃ t p, W.var? Tryd.prog "strconv.ErrRange" = some #[.iface t p]
theorem Gl.at8 {W W' : World} (h : Gl W) (hb : Below 8 W W') : Gl W' := by
  have hl := h.lo
  obtain ⟨m, hm⟩ := h.max
  obtain ⟨t1, p1, h1⟩ := h.syn
  obtain ⟨t2, p2, h2⟩ := h.rng
  refine ⟨Nat.le_trans hl hb.size, fun j w e => (hb.cell (p := ⟨0, j, none⟩) (show 0 < 8 by omega)).trans (h.words j w e), fun k hk => ?_, ⟨m, (hb.cell (p := ⟨2, 0, none⟩) (show 2 < _ by omega)).trans hm⟩, var?_below hb (by kernel_rfl) (show 3 < _ by omega) h.pow, ⟨t1, p1, var?_below hb (by kernel_rfl) (show 6 < _ by omega) h1⟩, ⟨t2, p2, var?_below hb (by kernel_rfl) (show 7 < _ by omega) h2⟩⟩
  obtain ⟨a0, a1, a2, a3, a4, a5⟩ := h.named k hk
  exact ⟨(hb.cell (p := ⟨1, k * 6, none⟩) (show 1 < _ by omega)).trans a0, (hb.cell (p := ⟨1, k * 6 + 1, none⟩) (show 1 < _ by omega)).trans a1, (hb.cell (p := ⟨1, k * 6 + 2, none⟩) (show 1 < _ by omega)).trans a2, (hb.cell (p := ⟨1, k * 6 + 3, none⟩) (show 1 < _ by omega)).trans a3, (hb.cell (p := ⟨1, k * 6 + 4, none⟩) (show 1 < _ by omega)).trans a4, (hb.cell (p := ⟨1, k * 6 + 5, none⟩) (show 1 < _ by omega)).trans a5⟩
theorem Gl.later {W W' : World} (h : Gl W) (hb : Below W.heap.size W W') : Gl W' := h.at8 (hb.mono h.lo)
def nmV (n : Nm) : Value := .agg #[.bool n.1, .bool n.2.1, .bool n.2.2.1, .bool n.2.2.2.1, .bool n.2.2.2.2.1, .bool n.2.2.2.2.2]
def clV (x : Cl) : Value := .agg #[.int .u8 x.1, .int .i64 x.2.1, .string x.2.2.1, .string x.2.2.2.1, .string x.2.2.2.2.1, .int .i64 x.2.2.2.2.2.1, .int .u8 x.2.2.2.2.2.2]
theorem idx91 (k : Nat) (i : Int) (hi : i = (k : Int)) (h : k < 10) (W : World) : (Instr.indexAt 91 (.pointer (some ⟨1, 0, none⟩)) (.int .u8 i)).run Tryd.prog W = .ok (.pointer (some ⟨1, k * 6, none⟩)) W := by
  subst hi
  have h1 : (0 : Int) ≤ (k : Int) ∧ (k : Int) < 10 := by omega
  go_simp
set_option maxRecDepth 100000 in
set_option maxHeartbeats 4000000 in
theorem of_any (k : Nat) (w : World) (hk : k ≤ 255) (hg : Gl w) : Calls Tryd.prog 33 #[.int .u8 (k : Int)] w fun e w' => e = .returned (nmV (nmK k)) ∧ Below w.heap.size w w' := by
  have HB : Hid (Below w.heap.size w (w.alloc (.cells #[.bool false, .bool false, .bool false, .bool false, .bool false, .bool false] 72))) := (Below.refl _ _).alloc (Nat.le_refl _) _
  have HG := Lib.hid (hg.later HB.out)
  by_cases h : k < 10
  · have d1 : decide ((10 : Int) ≤ (k : Int)) = false := decide_eq_false (by omega)
    obtain ⟨a0, a1, a2, a3, a4, a5⟩ := HG.out.named k h
    have i1 := idx91 k (k : Int) rfl h
    unfold nmV
    obtain ⟨n, hn⟩ : ∃ n, nmK k = n := ⟨_, rfl⟩
    rw [hn] at a0 a1 a2 a3 a4 a5 ⊢
    obtain ⟨n0, n1, n2, n3, n4, n5⟩ := n
    simp only at a0 a1 a2 a3 a4 a5 ⊢
    have w0 : IntKind.i64.wrap (k : Int) = (k : Int) := IntWalk.i64_in _ (by omega)
    clear hn hg
    go_enter Tryd.func33, Tryd.ntmps33
    go_wp2
    refine bodyPost_ret (results_cell_row rfl _ _ w.heap.size 72 _ (0, 0) _ rfl (heap_alloc_new _ _) Tryd.underlying72 rfl (by kernel_rfl)) rfl ?_
    exact ⟨rfl, (Below.refl _ _).alloc (Nat.le_refl _) _⟩
  · have d1 : decide ((10 : Int) ≤ (k : Int)) = true := decide_eq_true (by omega)
    have w0 : IntKind.i64.wrap (k : Int) = (k : Int) := IntWalk.i64_in _ (by omega)
    have e : nmK k = nm0 := by
      unfold nmK
      split <;> first | omega | rfl
    rw [e]
    have hbt : Tryd.prog.built 72 [] = some #[.bool false, .bool false, .bool false, .bool false, .bool false, .bool false] := by kernel_rfl
    clear hg e
    go_enter Tryd.func33, Tryd.ntmps33
    go_wp2
    refine bodyPost_ret (results_cell_row rfl _ _ w.heap.size 72 _ (0, 0) _ rfl (heap_alloc_new _ _) Tryd.underlying72 rfl (by kernel_rfl)) rfl ?_
    exact ⟨rfl, (Below.refl _ _).alloc (Nat.le_refl _) _⟩
theorem fld5 (n0 n1 n2 n3 n4 n5 : Bool) (W : World) : (Instr.field 72 (.agg #[.bool n0, .bool n1, .bool n2, .bool n3, .bool n4, .bool n5]) 5).run Tryd.prog W = .ok (.bool n5) W := by
  unfold Instr.field asAgg
  go_simp
set_option maxRecDepth 100000 in
set_option maxHeartbeats 4000000 in
theorem may_any (x : Cl) (w : World) (hk : x.1 ≤ 255) (he : x.2.2.2.2.2.2 ≤ 255) (hg : Gl w) : Calls Tryd.prog 13 #[clV x] w fun e w' => e = .returned (.int .i64 (if mayC x then 0 else 1)) ∧ Below w.heap.size w w' := by
  obtain ⟨kn, tx, ke, en, va, li, egn⟩ := x
  simp only at hk he
  obtain ⟨k, hkk⟩ : ∃ k : Int, (kn : Int) = k := ⟨_, rfl⟩
  obtain ⟨eg, hee⟩ : ∃ k : Int, (egn : Int) = k := ⟨_, rfl⟩
  show Calls Tryd.prog 13 #[.agg #[.int .u8 kn, .int .i64 tx, .string ke, .string en, .string va, .int .i64 li, .int .u8 egn]] w _
  have HB : Hid (Below w.heap.size w (w.alloc (.cells #[.int .u8 kn, .int .i64 tx, .string ke, .string en, .string va, .int .i64 li, .int .u8 egn] 24))) := (Below.refl _ _).alloc (Nat.le_refl _) _
  have HG := Lib.hid (hg.later HB.out)
  have HOF := Lib.hid (of_any kn _ hk HG.out)
  unfold nmV at HOF
  have HM : Hid (mayC (kn, tx, ke, en, va, li, egn) = (decide (1 ≤ kn) && decide (kn ≤ 9) && !((nmK kn).2.2.2.2.2 && decide (egn ≠ 1) && decide (egn ≠ 2)))) := Lib.hid rfl
  rw [HM.out]
  clear hg HM
  rw [hkk, hee] at HB HG HOF ⊢
  obtain ⟨nn, hnn⟩ : ∃ n, nmK kn = n := ⟨_, rfl⟩
  rw [hnn] at HOF ⊢
  obtain ⟨n0, n1, n2, n3, n4, n5⟩ := nn
  simp only at HOF ⊢
  have HK : Hid (Blk (w.alloc (.cells #[.int .u8 k, .int .i64 tx, .string ke, .string en, .string va, .int .i64 li, .int .u8 eg] 24)) w.heap.size #[.int .u8 k, .int .i64 tx, .string ke, .string en, .string va, .int .i64 li, .int .u8 eg] 24) := Blk.new _ _ _
  by_cases h1 : k < 1
  · have d1 : decide (k < 1) = true := decide_eq_true h1
    rw [decide_eq_false (p := 1 ≤ kn) (by omega)]
    go_enter Tryd.func13, Tryd.ntmps13
    go_wp2
    go_ret
    exact ⟨rfl, HB.out⟩
  · have d1 : decide (k < 1) = false := decide_eq_false h1
    rw [decide_eq_true (p := 1 ≤ kn) (by omega)]
    by_cases h9 : 9 < k
    · have d9 : decide (9 < k) = true := decide_eq_true h9
      rw [decide_eq_false (p := kn ≤ 9) (by omega)]
      go_enter Tryd.func13, Tryd.ntmps13
      go_wp2
      go_ret
      exact ⟨rfl, HB.out⟩
    · have d9 : decide (9 < k) = false := decide_eq_false h9
      rw [decide_eq_true (p := kn ≤ 9) (by omega)]
      clear h1 h9
      obtain ⟨b1, hb1⟩ : ∃ b, decide (egn ≠ 1) = b := ⟨_, rfl⟩
      obtain ⟨b2, hb2⟩ : ∃ b, decide (egn ≠ 2) = b := ⟨_, rfl⟩
      have e1 : (eg != 1) = b1 := by rw [← hb1, Bool.eq_iff_iff, bne_iff_ne, decide_eq_true_eq]; omega
      have e2 : (eg != 2) = b2 := by rw [← hb2, Bool.eq_iff_iff, bne_iff_ne, decide_eq_true_eq]; omega
      rw [hb1, hb2]
      go_enter Tryd.func13, Tryd.ntmps13
      go_upto_region 1 with (fail)
      generalize w.alloc (.cells #[.int .u8 k, .int .i64 tx, .string ke, .string en, .string va, .int .i64 li, .int .u8 eg] 24) = w1 at *
      obtain ⟨p, hp⟩ : ∃ p, w.heap.size = p := ⟨_, rfl⟩
      rw [hp] at HK ⊢
      have c0 := HK.out.cell 0
      have c6 := HK.out.cell 6
      simp only [List.getElem?_toArray, List.getElem?_cons_zero, List.getElem?_cons_succ] at c0 c6
      go_wp2_with fail
      refine HOF.out.mono ?_
      rintro e w2 ⟨rfl, hb⟩
      have HB2 := Lib.hid (stepB HB.out hb)
      replace HK := Lib.hid (HK.out.later hb)
      clear hb c0 c6 HOF hp
      have c6 := HK.out.cell 6
      simp only [List.getElem?_toArray, List.getElem?_cons_zero, List.getElem?_cons_succ] at c6
      clear hb1 hb2 hee hkk hnn
      have hfl := fld5 n0 n1 n2 n3 n4 n5
      cases n5 <;> cases b1 <;> cases b2
      all_goals (
        go_wp2
        go_ret
        exact ⟨rfl, HB2.out⟩)
theorem wd_len : wdL.length = 10 := rfl
theorem idx76 (C : Array Value) (k : Nat) (i : Int) (v : Value) (hi : i = (k : Int)) (hk : k < 10) (hv : C[k]? = some v) (W : World) : (Instr.index 76 (.agg C) (.int .i64 i)).run Tryd.prog W = .ok v W := by
  subst hi
  have h1 : (0 : Int) ≤ (k : Int) ∧ (k : Int) < 10 := by omega
  unfold Instr.index
  go_simp
theorem fw_step {w : ByteArray} {k : Nat} (hk : k < 10) : fw w k (wdL.drop k) = if wdL.getD k emp = w then k else fw w (k + 1) (wdL.drop (k + 1)) := by
  have hl : k < wdL.length := hk
  rw [List.drop_eq_getElem_cons hl, fw, List.getD_eq_getElem?_getD, List.getElem?_eq_getElem hl]; rfl
def wdV : Value := .agg #[.string { data := #[] }, .string { data := #[98, 101, 103, 105, 110] }, .string { data := #[103, 101, 116] }, .string { data := #[112, 117, 116] }, .string { data := #[100, 101, 108, 101, 116, 101] }, .string { data := #[115, 99, 97, 110] }, .string { data := #[99, 111, 109, 109, 105, 116] }, .string { data := #[97, 98, 111, 114, 116] }, .string { data := #[118, 97, 99, 117, 117, 109] }, .string { data := #[109, 105, 103, 114, 97, 116, 101] }]
theorem wd_at {k : Nat} (hk : k < 10) : (#[.string { data := #[] }, .string { data := #[98, 101, 103, 105, 110] }, .string { data := #[103, 101, 116] }, .string { data := #[112, 117, 116] }, .string { data := #[100, 101, 108, 101, 116, 101] }, .string { data := #[115, 99, 97, 110] }, .string { data := #[99, 111, 109, 109, 105, 116] }, .string { data := #[97, 98, 111, 114, 116] }, .string { data := #[118, 97, 99, 117, 117, 109] }, .string { data := #[109, 105, 103, 114, 97, 116, 101] }] : Array Value)[k]? = some (.string (wdL.getD k emp)) := by
  match k, hk with
  | 0, _ => rfl
  | 1, _ => rfl
  | 2, _ => rfl
  | 3, _ => rfl
  | 4, _ => rfl
  | 5, _ => rfl
  | 6, _ => rfl
  | 7, _ => rfl
  | 8, _ => rfl
  | 9, _ => rfl
set_option maxRecDepth 100000 in
set_option maxHeartbeats 4000000 in
theorem kind_any (w0 : ByteArray) (w : World) (hg : Gl w) : Calls Tryd.prog 31 #[.string w0] w fun e w' => e = .returned (.int .u8 (kindW w0 : Nat)) ∧ Below w.heap.size w w' := by
  have h0 := hg.words 0 _ rfl
  have h1 := hg.words 1 _ rfl
  have h2 := hg.words 2 _ rfl
  have h3 := hg.words 3 _ rfl
  have h4 := hg.words 4 _ rfl
  have h5 := hg.words 5 _ rfl
  have h6 := hg.words 6 _ rfl
  have h7 := hg.words 7 _ rfl
  have h8 := hg.words 8 _ rfl
  have h9 := hg.words 9 _ rfl
  have HB : Hid (Below w.heap.size w w) := Below.refl _ _
  clear hg
  go_enter Tryd.func31, Tryd.ntmps31
  go_wp2
  go_loopw [6] (fun ix W => ∃ k : Nat, k ≤ 10 ∧ ix = .int .i64 k ∧ kindW w0 = fw w0 k (wdL.drop k) ∧ Below w.heap.size w W) (fun ix _ => 10 - (intOf ix).toNat)
  case atStart => exact ⟨0, by omega, rfl, rfl, HB.out⟩
  case round =>
    obtain ⟨k, hk, rfl, hf, hb⟩ := hrel
    have HF := Lib.hid hf
    have HB2 := Lib.hid hb
    clear hf hb h0 h1 h2 h3 h4 h5 h6 h7 h8 h9 HB
    by_cases hlt : k < 10
    · have d1 : decide ((k : Int) < 10) = true := decide_eq_true (by omega)
      have wk : IntKind.i64.wrap ((k : Int) + 1) = (k : Int) + 1 := IntWalk.i64_in _ (by omega)
      have i1 := idx76 _ k (k : Int) _ rfl hlt (wd_at hlt)
      have hs := fw_step (w := w0) hlt
      obtain ⟨a, ha⟩ : ∃ a, wdL.getD k emp = a := ⟨_, rfl⟩
      rw [ha] at i1 hs
      by_cases he : a = w0
      · subst he
        rw [if_pos rfl] at hs
        have HK : Hid (kindW a = k) := by show _ = _; rw [HF.out, hs]
        have wk2 : IntKind.u8.wrap (k : Int) = (k : Int) := by simp [IntKind.wrap, IntKind.bits, IntKind.signed]; omega
        clear hs ha
        go_wp2
        go_ret
        exact ⟨by rw [HK.out]; rfl, HB2.out⟩
      · rw [if_neg he] at hs
        have HS := Lib.hid hs
        have e1 : (a.toList == w0.toList) = false := by
          rw [beq_eq_false_iff_ne, ByteArray.toList_eq, ByteArray.toList_eq]
          exact fun e => he (ByteArray.ext (Array.toList_inj.1 e))
        clear hs ha he
        go_wp2
        go_roundw
        case rel => exact ⟨k + 1, by omega, by go_num, by rw [HF.out, HS.out], HB2.out⟩
        case measure => simp [intOf]; omega
    · obtain rfl : k = 10 := by omega
      have HK : Hid (kindW w0 = 0) := by show _ = _; rw [HF.out]; rfl
      go_wp2
      go_ret
      exact ⟨by rw [HK.out]; rfl, HB2.out⟩
end Go.Proofs.YtkgdmdcnhbaidaaDoor
