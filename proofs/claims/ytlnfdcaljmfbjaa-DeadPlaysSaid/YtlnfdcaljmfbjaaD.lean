/- Add, Less, Pass. -/
import Derived.Test.YtlnfdcaljmfbjaaC
namespace Go.Proofs.Ytlnfdcaljmfbjaa
open Go.ChangeShapes Go.WideShapes Go.ChangeAt Go.RowKit Go.Maps
set_option linter.unusedVariables false
set_option linter.unusedSimpArgs false

theorem DdAt.turned {W W' : World} {B p b n : Nat} {C C' : List Ct} (h : DdAt W B p b C) (hg : W.grownBy W' (some b)) (ho : W'.ownsMap Try.prog 3 R3 b n (dm C')) (ok : Ok C') : DdAt W' B p b C' :=
  ⟨h.hp, h.blk.grown hg (fun e => h.ne (Option.some.inj e)), ⟨h.own.1, own_tight ho⟩, ok⟩
theorem grown_of_below {w w' : World} (h : Below w.heap.size w w') (r : Option Nat) : w.grownBy w' r := ⟨h.os, h.tape, h.output, h.size, fun k hk _ => h.block k hk⟩
theorem grown_refl (w : World) (r : Option Nat) : w.grownBy w r := ⟨rfl, rfl, rfl, Nat.le_refl _, fun _ _ _ => rfl⟩
theorem grown_step {a b c : World} {r : Option Nat} (h : a.grownBy b r) (k : b.grownBy c r) : a.grownBy c r := grown_trans h k
def DEnd (B p b : Nat) (C' : List Ct) (v : Value) (w : World) (x : Ending) (w' : World) : Prop := x = .returned v ∧ DdAt w' B p b C' ∧ w.grownBy w' (some b)
set_option maxRecDepth 100000 in
set_option maxHeartbeats 4000000 in
theorem add_any (B p b : Nat) (C : List Ct) (ts : Int) (w : World) (h : DdAt w B p b C) : Calls Try.prog 10 #[.pointer (some ⟨p, 0, none⟩), .int .i64 ts] w (DEnd B p b (addS C ts) (.int .i64 (addE C ts)) w) := by
  have H := Lib.hid h
  have hsn := sum_nn h.ok.pos
  have hs64 := h.ok.sum
  by_cases c0 : ts < 1 ∨ 1048576 < ts
  · have HE : Hid (addE C ts = 1) := if_pos c0
    have HS : Hid (addS C ts = C) := by show _ = _; unfold addS; rw [HE.out, if_neg (by decide)]
    rw [HE.out, HS.out]
    clear h
    by_cases c1 : ts < 1
    · have d1 : decide (ts < 1) = true := decide_eq_true c1
      go_enter Try.func10, Try.ntmps10
      go_wp2
      go_ret
      exact ⟨rfl, H.out, grown_refl _ _⟩
    · have d1 : decide (ts < 1) = false := decide_eq_false c1
      have d2 : decide (1048576 < ts) = true := decide_eq_true (by omega)
      go_enter Try.func10, Try.ntmps10
      go_wp2
      go_ret
      exact ⟨rfl, H.out, grown_refl _ _⟩
  have d1 : decide (ts < 1) = false := decide_eq_false (by omega)
  have d2 : decide (1048576 < ts) = false := decide_eq_false (by omega)
  by_cases c2 : 64 ≤ sumC C
  · have HE : Hid (addE C ts = 41) := by show _ = _; unfold addE; rw [if_neg c0, if_pos c2]
    have HS : Hid (addS C ts = C) := by show _ = _; unfold addS; rw [HE.out, if_neg (by decide)]
    have d3 : decide (64 ≤ sumC C) = true := decide_eq_true c2
    rw [HE.out, HS.out]
    clear h
    go_enter Try.func10, Try.ntmps10
    go_wp2_with fail
    refine (all_any B p b C w H.out).mono ?_
    rintro x w1 ⟨rfl, hb⟩
    have H1 := Lib.hid (H.out.later hb)
    have HG := Lib.hid (grown_of_below hb (some b))
    clear hb
    go_wp2
    go_ret
    exact ⟨rfl, H1.out, HG.out⟩
  have HE : Hid (addE C ts = 0) := by show _ = _; unfold addE; rw [if_neg c0, if_neg c2]
  have HS : Hid (addS C ts = putC C ts (ofC C ts + 1)) := by show _ = _; unfold addS; rw [HE.out, if_pos rfl]
  have d3 : decide (64 ≤ sumC C) = false := decide_eq_false c2
  have ho := h.ok.of0 ts
  have HOK : Hid (Ok (putC C ts (ofC C ts + 1))) := h.ok.put (by omega) (by omega) (by omega)
  have hts : (Lit.int .i64 ts).wf = true := wf64 (by omega)
  have hlen := h.len
  have qT := fun w => run_eql_map_nil (P := Try.prog) w 48 3 3 (some b) Try.underlying48
  rw [HE.out, HS.out]
  clear h
  go_enter Try.func10, Try.ntmps10
  go_wp2_with fail
  refine (all_any B p b C w H.out).mono ?_
  rintro x w1 ⟨rfl, hb⟩
  have H1 := Lib.hid (H.out.later hb)
  have HG := Lib.hid (grown_of_below hb (some b))
  have HM := Lib.hid H1.out.own.2
  have k0 := H1.out.blk.cell 0
  simp only [List.getElem?_toArray, List.getElem?_cons_zero] at k0
  clear hb
  go_wp2_with (first
    | (at_lookup; refine wpList_lookup_own_int _ rfl _ _ 48 rfl 3 3 .i64 law3 Try.underlying48 Try.underlying3 (zero3 _) b C.length _ rfl HM.out _ _ rfl (keyOf_int_mk Try.underlying3 hts) ?_; intro c hat)
    | go_in)
  intro hwc
  clear hwc
  have hc : ofC C ts = c := by rw [atKey_dm] at hat; simpa using hat
  subst hc
  clear hat
  have wq : IntKind.i64.wrap (ofC C ts + 1) = ofC C ts + 1 := IntWalk.i64_in _ (by omega)
  have wq2 : wrap64 (ofC C ts + 1) = ofC C ts + 1 := by unfold wrap64; omega
  go_wp2_with (first
    | (at_mapUpdate; refine wpList_mapUpdate_own _ rfl _ _ _ 48 rfl 3 3 law3 Try.underlying48 _ b C.length _ rfl HM.out (by unfold maxLen; omega) _ _ _ rfl rfl (keyOf_int_mk Try.underlying3 hts) _ [] (plainElem_int Try.underlying3 (wf64 (by omega))) ?_; intro w2 ho2)
    | go_in)
  intro hg2
  first | rw [wq] at ho2 | skip
  rw [put_dm] at ho2
  have HF := Lib.hid (H1.out.turned hg2 ho2 HOK.out)
  have HG2 := Lib.hid (grown_step HG.out hg2)
  clear ho2 hg2 k0
  go_wp2
  go_ret
  exact ⟨rfl, HF.out, HG2.out⟩
set_option maxRecDepth 100000 in
set_option maxHeartbeats 4000000 in
theorem less_any (B p b : Nat) (C : List Ct) (ts : Int) (w : World) (h : DdAt w B p b C) (hts : (Lit.int .i64 ts).wf = true) : Calls Try.prog 11 #[.pointer (some ⟨p, 0, none⟩), .int .i64 ts] w (DEnd B p b (lessS C ts) (.bool (decide (ofC C ts ≠ 0))) w) := by
  have H := Lib.hid h
  by_cases c0 : ofC C ts = 0
  · have HS : Hid (lessS C ts = C) := if_pos c0
    have HB : Hid (decide (ofC C ts ≠ 0) = false) := decide_eq_false (fun h => h c0)
    have CO := Lib.hid (of_any B p b C ts w h hts)
    rw [c0] at CO
    rw [HS.out, HB.out]
    clear h c0
    go_enter Try.func11, Try.ntmps11
    go_wp2_with fail
    refine (CO.out).mono ?_
    rintro x _ ⟨rfl, rfl⟩
    go_wp2
    go_ret
    exact ⟨rfl, H.out, grown_refl _ _⟩
  have HB : Hid (decide (ofC C ts ≠ 0) = true) := decide_eq_true c0
  have ho := h.ok.of0 ts
  have hs64 := h.ok.sum
  have hlen := h.len
  have hok := h.ok
  have hup := h.ok.up
  have CO := Lib.hid (of_any B p b C ts w h hts)
  have HM := Lib.hid h.own.2
  have k0 := h.blk.cell 0
  simp only [List.getElem?_toArray, List.getElem?_cons_zero] at k0
  have dz := show (ofC C ts == 0) = false by rw [beq_eq_false_iff_ne]; exact c0
  have HOF := Lib.hid (of_put hup ts (ofC C ts - 1))
  have wq : IntKind.i64.wrap (ofC C ts - 1) = ofC C ts - 1 := IntWalk.i64_in _ (by omega)
  have wq2 : wrap64 (ofC C ts - 1) = ofC C ts - 1 := by unfold wrap64; omega
  have HL : Hid (lessS C ts = if ofC C ts = 1 then delC C ts else putC C ts (ofC C ts - 1)) := if_neg c0
  have HP : Hid (ofC C ts ≠ 1 → Ok (putC C ts (ofC C ts - 1))) := fun h1 => hok.put (ho.2.2 c0) (by omega) (by omega)
  have HD : Hid (Ok (delC C ts)) := hok.del ts
  rw [HB.out]
  obtain ⟨X, hX⟩ : ∃ X, lessS C ts = X := ⟨_, rfl⟩
  have HX := Lib.hid (hX.symm.trans HL.out)
  rw [hX]
  clear h hok hup hX HL
  go_enter Try.func11, Try.ntmps11
  go_wp2_with fail
  refine (CO.out).mono ?_
  rintro x _ ⟨rfl, rfl⟩
  clear CO
  go_wp2_with (first
    | (at_lookup; refine wpList_lookup_own_int _ rfl _ _ 48 rfl 3 3 .i64 law3 Try.underlying48 Try.underlying3 (zero3 _) b C.length _ rfl HM.out _ _ rfl (keyOf_int_mk Try.underlying3 hts) ?_; intro c hat)
    | go_in)
  intro hwc
  clear hwc
  have hc : ofC C ts = c := by rw [atKey_dm] at hat; simpa using hat
  subst hc
  clear hat
  go_wp2_with (first
    | (at_mapUpdate; refine wpList_mapUpdate_own _ rfl _ _ _ 48 rfl 3 3 law3 Try.underlying48 _ b C.length _ rfl HM.out (by unfold maxLen; omega) _ _ _ rfl rfl (keyOf_int_mk Try.underlying3 hts) _ [] (plainElem_int Try.underlying3 (wf64 (by omega))) ?_; intro w2 ho2)
    | go_in)
  intro hg2
  first | rw [wq] at ho2 | skip
  rw [put_dm] at ho2
  have HM2 := Lib.hid ho2
  have HG2 := Lib.hid hg2
  have HB2 := Lib.hid (H.out.blk.grown hg2 (fun e => H.out.ne (Option.some.inj e)))
  have k1 := HB2.out.cell 0
  simp only [List.getElem?_toArray, List.getElem?_cons_zero] at k1
  clear ho2 hg2 k0 dz
  go_wp2_with (first
    | (at_lookup; refine wpList_lookup_own_int _ rfl _ _ 48 rfl 3 3 .i64 law3 Try.underlying48 Try.underlying3 (zero3 _) b (C.length + 1) _ rfl HM2.out _ _ rfl (keyOf_int_mk Try.underlying3 hts) ?_; intro c2 hat2)
    | go_in)
  intro hwc
  clear hwc
  have hc : ofC C ts - 1 = c2 := by rw [atKey_dm, HOF.out] at hat2; simpa using hat2
  subst hc
  clear hat2
  by_cases c1 : ofC C ts = 1
  · have HXX := Lib.hid (HX.out.trans (if_pos c1))
    have d1 : (ofC C ts - 1 == 0) = true := by rw [beq_iff_eq]; omega
    clear c0
    go_wp2_with (first
      | (at_delete; refine wpList_delete_own _ rfl _ _ 48 3 rfl 3 law3 Try.underlying48 _ b (C.length + 1) _ rfl HM2.out _ _ rfl (keyOf_int_mk Try.underlying3 hts) ?_; intro w3 ho3)
      | go_in)
    intro ht3
    rw [del_dm, del_put] at ho3
    rw [← HXX.out] at ho3
    have HF := Lib.hid (H.out.turned (grown_step HG2.out ht3.grown) ho3 (by rw [HXX.out]; exact HD.out))
    have HG3 := Lib.hid (grown_step HG2.out ht3.grown)
    clear ho3 ht3 k1
    go_wp2
    go_ret
    exact ⟨rfl, HF.out, HG3.out⟩
  · have HXX := Lib.hid (HX.out.trans (if_neg c1))
    have d1 : (ofC C ts - 1 == 0) = false := by rw [beq_eq_false_iff_ne]; omega
    rw [← HXX.out] at HM2
    have HF := Lib.hid (H.out.turned HG2.out HM2.out (by rw [HXX.out]; exact HP.out c1))
    clear k1
    go_wp2
    go_ret
    exact ⟨rfl, HF.out, HG2.out⟩
end Go.Proofs.Ytlnfdcaljmfbjaa
