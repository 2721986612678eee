/- NG, NI, NH, NJ in one. -/
import Derived.Test.YtoinjnocopejjaaNF
import Derived.Lib.AppendZerosOnto
import Derived.Lib.Overlaps
import Derived.Laws.CopyRow
import Derived.StillTailTactics
import Derived.Laws.Externs
/- A version put ahead: Insert. -/
namespace Go.Proofs.Ytoinjnocopejjaa
open Go.ChangeShapes Go.WideShapes Go.ChangeAt Go.RowKit Go.Maps
set_option linter.unusedVariables false
set_option linter.unusedSimpArgs false
theorem run_copy_k {P : Program} (w : World) (dT sT ty elem : TypeId) (g o k dLen dCap : Nat) (a : Addr) (sLen sCap : Nat) (cur : Array Value) (t : TypeId) (cs : List Value) (m : Nat)
    (hu : P.underlying dT = some (.slice elem)) (hs : (P.info? elem).map (·.size) = some k)
    (hg : w.heap[g]? = some (.cells cur t (0, 0))) (hm : Nat.min sLen dLen = m) (hn : cs.length = m * k)
    (hsrc : ∀ j v, cs[j]? = some v → w.cell? (a.add j) = some v) (hfit : o + cs.length ≤ cur.size) (h1 : ∀ v ∈ cs, v.oneCell' = true) :
    (Builtin.copy_ #[dT, sT] ty #[.slice (some ⟨g, o, none⟩) dLen dCap, .slice (some a) sLen sCap]).run P w =
      .ok (goInt m) (w.setRow g (cur.toList.take o ++ cs ++ cur.toList.drop (o + cs.length)).toArray) := by
  have hl := run_loadCells_list (P := P) w a cs hsrc
  have hst := run_storeCells_at P g o t cs 0 cur w hg (by simpa using hfit) h1
  cases hq : P.info? elem with
  | none => simp [hq] at hs
  | some i =>
    have hi : i.size = k := by simpa [hq] using hs
    simp [Builtin.copy_, run_underlying hu, Builtin.lenOf, Builtin.firstCells, sizeOf, typeInfo, hq, hi, hm, ← hn, hl, hst]
theorem wpList_copy_k {P : Program} {w : World} {ops : Array Oper} {rest : List Oper} {o : Oper} {a : Act} {Q : Exit → Act → World → Prop} (hgd : o.guard = none) (d s : Operand) (dT sT : TypeId)
    (ho : o.op = .call { callee := .builtin .copy, args := #[d, s], argTypes := #[dT, sT] }) (elem : TypeId) (k : Nat) (hu : P.underlying dT = some (.slice elem)) (hsz : (P.info? elem).map (·.size) = some k)
    (g off dLen dCap : Nat) (ad : Addr) (sLen sCap : Nat) (hd : a.eval d = .slice (some ⟨g, off, none⟩) dLen dCap) (hs : a.eval s = .slice (some ad) sLen sCap) (m : Nat) (hm : Nat.min sLen dLen = m)
    (cur : Array Value) (t : TypeId) (hg : w.heap[g]? = some (.cells cur t (0, 0))) (cs : List Value) (hn : cs.length = m * k)
    (hsrc : ∀ j v, cs[j]? = some v → w.cell? (ad.add j) = some v) (hfit : off + cs.length ≤ cur.size) (h1 : ∀ v ∈ cs, v.oneCell' = true)
    (h : wpList P ops Q rest (a.put o.dst (goInt m)) (w.setRow g (cur.toList.take off ++ cs ++ cur.toList.drop (off + cs.length)).toArray)) :
    wpList P ops Q (o :: rest) a w := by
  refine wpList_plain hgd fun K' hK' => ?_
  have hrun := run_copy_k w dT sT o.type elem g off k dLen dCap ad sLen sCap cur t cs m hu hsz hg hm hn hsrc hfit h1
  unfold Oper.wp execOp
  simp only [ho, resolve, invoke, builtin, Sem.run_bind, Sem.run_pure, Result.andThen_ok, List.map_toArray, List.map_cons, List.map_nil, hd, hs, hrun]
  exact hK' _ _ h
theorem size26 (w : World) : (Go.sizeOf 26).run Try.prog w = .ok 4 w := by kernel_rfl
theorem info26 : (Try.prog.info? 26).map (·.size) = some 4 := by kernel_rfl
theorem slo (g o m c k : Nat) (i : Int) (hi : i = (k : Int)) (hk : k ≤ m) (hc : m ≤ c) (hkc : k < c) (W : World) : (Instr.slice 38 (.slice (some ⟨g, o, none⟩) m c) (some (.int .i64 i)) .none .none).run Try.prog W = .ok (.slice (some ⟨g, o + k * 4, none⟩) (m - k) (c - k)) W := by
  subst hi
  have ht : Try.prog.underlying 38 = some (.slice 26) := Try.underlying38
  have ht' : Try.prog.underlying 38 = some (.slice (Try.prog.elem 38)) := by simp [Program.elem, ht]
  have he : Try.prog.elem 38 = 26 := by simp [Program.elem, ht]
  rw [run_slice_l W 38 _ _ _ ht' .i64 _ (by omega) (by omega), he, size26]
  have e : ¬ c = k := by omega
  simp [Result.andThen, sliced, e, add_plain]
theorem shi (g o m c k : Nat) (i : Int) (hi : i = (k : Int)) (hk : k ≤ c) (hc : 0 < c) (W : World) : (Instr.slice 38 (.slice (some ⟨g, o, none⟩) m c) .none (some (.int .i64 i)) .none).run Try.prog W = .ok (.slice (some ⟨g, o, none⟩) k c) W := by
  subst hi
  have ht : Try.prog.underlying 38 = some (.slice 26) := Try.underlying38
  have ht' : Try.prog.underlying 38 = some (.slice (Try.prog.elem 38)) := by simp [Program.elem, ht]
  have he : Try.prog.elem 38 = 26 := by simp [Program.elem, ht]
  rw [run_slice_h W 38 _ _ _ ht' .i64 _ (by omega) (by omega), he, size26]
  have e : ¬ c = 0 := by omega
  simp [Result.andThen, sliced, Addr.add, e]
def CloneO (vs : List Ver) (n : Nat) (w : World) (e : Ending) (w' : World) : Prop := ∃ v, e = .returned v ∧ w'.ownsRow w.heap.size 26 4 v n (vsv vs) ∧ Below w.heap.size w w'
set_option maxRecDepth 100000 in
set_option maxHeartbeats 2000000 in
theorem cloneo_any (A : Option Addr) (n c : Nat) (vs : List Ver) (w : World) (hn : n ≤ 1000000) (hs : Vers w.heap.size w A n vs) :
    Calls Try.prog 63 #[.slice A n c] w (CloneO vs n w) := by
  have Hs := Lib.hid hs
  clear hs
  cases A with
  | none =>
    have hn0 : n = 0 := by
      rcases Nat.eq_zero_or_pos n with h | h
      · exact h
      · obtain ⟨g, off, e, _⟩ := Hs.out.2 h; cases e
    subst hn0
    have hv : Hid (vs = []) := List.eq_nil_of_length_eq_zero Hs.out.1
    have hq := fun W => Lib.run_eql_slice_nil (P := Try.prog) W 38 26 none 0 c 0 0 Try.underlying38
    go_enter Try.func63, Try.ntmps63
    go_wp2
    go_ret
    exact ⟨_, rfl, by rw [hv.out]; exact World.ownsRow_nil _ _ _ _, Below.refl _ _⟩
  | some a =>
    obtain ⟨i0, hi, hz0, hz1, hz2⟩ := info_parts v27info
    have hown0 := World.ownsRow_lit (base := w.heap.size) (size := 4) (e := 26) w #[] 0 (Nat.le_refl _) (by unfold maxLen; omega) (by simp)
    have Hl : Hid ((vsv vs).length = n * 4) := by show _ = _; rw [vsv_len, Hs.out.1]
    have Hc : Hid (∀ i u, (vsv vs)[i]? = some u → (w.alloc (.cells #[] 26)).cell? (a.add i) = some u) := by
      by_cases h0 : 0 < n
      · obtain ⟨g, off, e, hg, hc⟩ := Hs.out.2 h0
        cases e
        intro i u hu
        have := vers_cells Hs.out.1 hc i u hu
        exact (((Below.refl w.heap.size w).alloc (Nat.le_refl _) (.cells #[] 26)).cell (p := (⟨g, off, none⟩ : Addr).add i) (by rw [add_plain]; exact hg)).trans this
      · have hv : vs = [] := List.eq_nil_of_length_eq_zero (by have := Hs.out.1; omega)
        intro i u hu
        rw [hv] at hu; simp [vsv] at hu
    have hq := fun W => Lib.run_eql_slice_nil (P := Try.prog) W 38 26 (some a) n c 0 0 Try.underlying38
    go_enter Try.func63, Try.ntmps63
    go_wp2_with (at_builtin; refine wpList_append_own _ rfl _ _ 38 rfl w.heap.size 26 i0 _ 4 40 Try.underlying38 hi hz0 hz1 hz2 rfl (by decide) _ 0 [] rfl hown0 a n c (vsv vs) rfl Hl.out Hc.out (vsv_one vs) (by unfold maxLen; omega) (by omega) (by simp) ?_; intro v' w3 hown' hgrow3 hnil3)
    simp only [Nat.zero_add, List.nil_append] at hown'
    have hb : Below w.heap.size w w3 := ((Below.refl _ _).alloc (Nat.le_refl _) _).grown hgrow3 (by simp) (fun j e => by cases e; exact Nat.le_refl _)
    have HOO := Lib.hid hown'
    clear hown' hgrow3 hnil3
    go_wp2
    go_ret
    exact ⟨_, rfl, HOO.out, hb⟩
end Go.Proofs.Ytoinjnocopejjaa

/- Insert at the front, where there is room. -/
namespace Go.Proofs.Ytoinjnocopejjaa
open Go.ChangeShapes Go.WideShapes Go.ChangeAt Go.RowKit Go.Maps
set_option linter.unusedVariables false
set_option linter.unusedSimpArgs false
def LenIs (k : Nat) (l : List Value) : Prop := l.length = k
def InsEnd (vs : List Ver) (n B : Nat) (w : World) (e : Ending) (w' : World) : Prop := ∃ A c, e = .returned (.slice A n c) ∧ n ≤ c ∧ VRow w' B A n vs ∧ Below B w w' ∧ A ≠ none
theorem vsv1 (u : Ver) : vsv [u] = (vcells u).toList := rfl
theorem put_front {Z : List Value} {u : Ver} {L : List Ver} {n : Nat} (hL : L.length = n) (hz : (n + 1) * 4 ≤ Z.length) (X : List Value) (hX : X = vsv [u] ++ Z.drop 4) :
    (X.take 4 ++ vsv L ++ X.drop (4 + n * 4)).take ((n + 1) * 4) = vsv (u :: L) ∧ (X.take 4 ++ vsv L ++ X.drop (4 + n * 4)).length = Z.length := by
  have h4 : (vsv [u]).length = 4 := rfl
  have hl : (vsv L).length = n * 4 := by rw [vsv_len, hL]
  have e1 : X.take 4 = vsv [u] := by rw [hX, List.take_append_of_le_length (by rw [h4]; exact Nat.le_refl _), List.take_of_length_le (by rw [h4]; exact Nat.le_refl _)]
  have hXl : X.length = Z.length := by rw [hX, List.length_append, h4, List.length_drop]; omega
  rw [e1]
  refine ⟨?_, ?_⟩
  · rw [List.take_append_of_le_length (by rw [List.length_append, h4, hl]; omega), List.take_of_length_le (by rw [List.length_append, h4, hl]; omega)]
    exact (vsv_app [u] L).symm
  · rw [List.length_append, List.length_append, h4, hl, List.length_drop, hXl]; omega
theorem put_back {Z : List Value} {u : Ver} {L : List Ver} {n : Nat} (hL : L.length = n) (hz : (n + 1) * 4 ≤ Z.length) (X : List Value) (hX : X = Z.take 4 ++ vsv L ++ Z.drop (4 + n * 4)) :
    (X.take 0 ++ vsv [u] ++ X.drop (0 + 4)).take ((n + 1) * 4) = vsv (u :: L) ∧ (X.take 0 ++ vsv [u] ++ X.drop (0 + 4)).length = Z.length ∧ X.length = Z.length := by
  have h4 : (vsv [u]).length = 4 := rfl
  have hl : (vsv L).length = n * 4 := by rw [vsv_len, hL]
  have ht4 : (Z.take 4).length = 4 := by rw [List.length_take]; omega
  have hXl : X.length = Z.length := by rw [hX, List.length_append, List.length_append, ht4, hl, List.length_drop]; omega
  have e1 : X.drop (0 + 4) = vsv L ++ Z.drop (4 + n * 4) := by
    rw [hX, List.append_assoc, Nat.zero_add, List.drop_append_of_le_length (by rw [ht4]; exact Nat.le_refl _), List.drop_of_length_le (by rw [ht4]; exact Nat.le_refl _), List.nil_append]
  rw [List.take_zero, List.nil_append, e1]
  refine ⟨?_, ?_, hXl⟩
  · rw [← List.append_assoc, List.take_append_of_le_length (by rw [List.length_append, h4, hl]; omega), List.take_of_length_le (by rw [List.length_append, h4, hl]; omega)]
    exact (vsv_app [u] L).symm
  · rw [List.length_append, List.length_append, h4, hl, List.length_drop]; omega
theorem src_of_row {W : World} {B n cap g : Nat} {L : List Ver} (h : W.ownsRow B 26 4 (.slice (some ⟨g, 0, none⟩) n cap) n (vsv L)) : ∀ j v, (vsv L)[j]? = some v → W.cell? ((⟨g, 0, none⟩ : Addr).add j) = some v := fun j v hv => by
  have hl : (vsv L).length = n * 4 := h.1
  have hj : j < (vsv L).length := (List.getElem?_eq_some_iff.1 hv).1
  rw [add_plain, Nat.zero_add, World.ownsRow.cellAt h j (by omega)]
  exact hv
theorem src_of_blk {W : World} {g : Nat} {u : Ver} (h : Blk W g (vcells u) 26) : ∀ j v, (vsv [u])[j]? = some v → W.cell? ((⟨g, 0, none⟩ : Addr).add j) = some v := fun j v hv => by
  rw [add_plain, Nat.zero_add, h.cell, ← hv, vsv1, Array.getElem?_toList]
set_option maxRecDepth 100000 in
set_option maxHeartbeats 4000000 in
theorem insert_room (B n g cap gv : Nat) (L : List Ver) (u : Ver) (w : World) (hO : w.ownsRow B 26 4 (.slice (some ⟨g, 0, none⟩) n cap) n (vsv L)) (hu : Blk w gv (vcells u) 26) (hne : gv ≠ g) (hn : n ≤ 8) (hB : B ≤ w.heap.size) (h0 : 0 < n) (hc : n + 1 ≤ cap) :
    Calls Try.prog 86 #[.slice (some ⟨g, 0, none⟩) n cap, .int .i64 0, .slice (some ⟨gv, 0, none⟩) 1 1] w (InsEnd (u :: L) (n + 1) B w) := by
  have hl : L.length = n := by have := hO.1; rw [vsv_len] at this; omega
  rcases hO.2 with ⟨e, _⟩ | ⟨g', cap', cur, e, hBg, hg, hnc, hcm, hsz, htk⟩
  · cases e
  cases e
  clear hcm htk
  have HO := Lib.hid hO
  have HU := Lib.hid hu
  have KC : Hid (Blk w g cur 26) := Lib.hid hg
  have hglt : g < w.heap.size := (Array.getElem?_eq_some_iff.1 hg).1
  have HLL := Lib.hid hl
  have HK := Lib.hid (And.intro hBg (And.intro hsz (And.intro hne (And.intro hB hglt))))
  have h4 : (vsv [u]).length = 1 * 4 := rfl
  have hLl : (vsv L).length = n * 4 := by rw [vsv_len, hl]
  have H4 := Lib.hid h4
  have HL4 := Lib.hid hLl
  have e0 : ((0 : Int) == (n : Int)) = false := by rw [beq_eq_false_iff_ne]; omega
  have hs0 := slo g 0 n cap 0 0 rfl (by omega) (by omega) (by omega)
  have wn : wrap64 ((n : Int) + 1) = (n : Int) + 1 := by unfold wrap64; omega
  have wn2 : IntKind.i64.wrap ((n : Int) + 1) = (n : Int) + 1 := by rw [IntKind.wrap_i64]; omega
  have w1 : wrap64 1 = 1 := by unfold wrap64; omega
  have w12 : IntKind.i64.wrap 1 = 1 := by rw [IntKind.wrap_i64]; omega
  simp only [Nat.zero_mul, Nat.add_zero, Nat.sub_zero] at hs0
  have d2 : decide ((cap : Int) < (n : Int) + 1) = false := decide_eq_false (by omega)
  have d3 : decide (cap < n + 1) = false := decide_eq_false (by omega)
  have hs1 := shi g 0 n cap (n + 1) ((n : Int) + 1) (by omega) (by omega) (by omega)
  have hlo0 := slo g 0 (n + 1) cap 0 0 rfl (by omega) (by omega) (by omega)
  have hlo1 := slo g 0 (n + 1) cap 1 1 rfl (by omega) (by omega) (by omega)
  simp only [Nat.zero_mul, Nat.add_zero, Nat.sub_zero, Nat.zero_add, Nat.one_mul, Nat.add_sub_cancel] at hlo0 hlo1
  have HCZ : Hid (cur.size = cap * 4 ∧ n + 1 ≤ cap) := Lib.hid ⟨HK.out.2.1, by omega⟩
  have HCS : Hid (LenIs (cap * 4) cur.toList) := Lib.hid (by show cur.toList.length = cap * 4; rw [Array.length_toList]; exact HK.out.2.1)
  clear hO hu hg hl hBg hsz hne hB hglt h4 hLl hn hc h0 hnc
  go_enter Try.func86, Try.ntmps86
  have hmin1 : Nat.min 1 (n + 1) = 1 := Nat.min_eq_left (by omega)
  have hmin2 : Nat.min (n + 1) n = n := Nat.min_eq_right (by omega)
  have hov := Lib.run_overlaps_apart (P := Try.prog) w 38 4 26 Try.underlying38 4 size26 ⟨gv, 0, none⟩ ⟨g, 4, none⟩ 1 1 n (cap - 1) (show gv ≠ g from HK.out.2.2.1) 26 26 4 (cap * 4) (by have := HU.out; unfold World.shape?; rw [show w.heap[gv]? = _ from this]; rfl) (by unfold World.shape?; rw [show w.heap[g]? = _ from KC.out]; simp [HCZ.out.1]) (by have := HCZ.out; omega) (HU.out.frozen 0) (HU.out.frozen 4)
  go_upto_region 15 with (fail)
  rw [run_callFunc_extern Try.func102 (by kernel_rfl) (by kernel_rfl) (by kernel_rfl) (e := Extern.SlicesOverlaps.overlaps #[38, 38] #[4]) (by kernel_rfl), hov]
  simp only [Result.andThen]
  rw [Oper.upon_value]
  go_upto_region 15 with (fail)
  go_still_tail 8, (by kernel_rfl)
  change wpList _ _ _ _ _ (World.drew w)
  have HB4 : Hid (Below B w (World.drew w)) := Lib.hid (Below.drew (Below.refl _ _))
  have KC4 : Hid (Blk (World.drew w) g cur 26) := Lib.hid KC.out
  have KU4 : Hid (Blk (World.drew w) gv (vcells u) 26) := Lib.hid HU.out
  have HO4 : Hid ((World.drew w).ownsRow B 26 4 (.slice (some ⟨g, 0, none⟩) n cap) n (vsv L)) := Lib.hid HO.out
  clear hov
  generalize World.drew w = w4 at *
  obtain ⟨X, hX⟩ : ∃ X, cur.toList.take 4 ++ vsv L ++ cur.toList.drop (4 + (vsv L).length) = X := ⟨_, rfl⟩
  have hcp : (Builtin.copy_ #[38, 38] 3 #[.slice (some ⟨g, 4, none⟩) n (cap - 1), .slice (some ⟨g, 0, none⟩) (n + 1) cap]).run Try.prog w4 = .ok (goInt n) (w4.setRow g X.toArray) := by
    rw [← hX]
    exact run_copy_k w4 38 38 3 26 g 4 4 n (cap - 1) ⟨g, 0, none⟩ (n + 1) cap cur 26 (vsv L) n Try.underlying38 info26 KC4.out hmin2 HL4.out (src_of_row HO4.out) (by have := HCZ.out; have := HL4.out; omega) (vsv_one L)
  have HX : Hid (X = cur.toList.take 4 ++ vsv L ++ cur.toList.drop (4 + n * 4)) := Lib.hid (by rw [← hX, HL4.out])
  have HPB := Lib.hid (put_back (u := u) HLL.out (show (n + 1) * 4 ≤ cur.toList.length by rw [Array.length_toList]; have := HCZ.out; omega) X HX.out)
  have KX : Hid (Blk (w4.setRow g X.toArray) g X.toArray 26) := Lib.hid (Blk.setRow_self KC4.out)
  have HB5 := Lib.hid (Ytoinjnocopejjaa.below_setRow HB4.out HK.out.1 X.toArray)
  have KU5 : Hid (Blk (w4.setRow g X.toArray) gv (vcells u) 26) := Lib.hid (Blk.setRow KU4.out HK.out.2.2.1)
  clear hX HX
  go_upto_region 16 with (fail)
  clear hcp KC4 HB4 HO4 KU4
  generalize w4.setRow g X.toArray = w5 at *
  have HXL : Hid (X.length = cap * 4) := Lib.hid (by have h1 := HPB.out.2.2; have h2 : cur.toList.length = cap * 4 := HCS.out; rw [h1, h2])
  obtain ⟨Y, hY⟩ : ∃ Y, X.take 0 ++ vsv [u] ++ X.drop (0 + 4) = Y := ⟨_, rfl⟩
  have hcp : (Builtin.copy_ #[38, 38] 3 #[.slice (some ⟨g, 0, none⟩) (n + 1) cap, .slice (some ⟨gv, 0, none⟩) 1 1]).run Try.prog w5 = .ok (goInt 1) (w5.setRow g Y.toArray) := by
    rw [← hY]
    exact run_copy_k w5 38 38 3 26 g 0 4 (n + 1) cap ⟨gv, 0, none⟩ 1 1 X.toArray 26 (vsv [u]) 1 Try.underlying38 info26 KX.out hmin1 H4.out (src_of_blk KU5.out) (by have := HCZ.out; have := HXL.out; have := H4.out; simp; omega) (vsv_one [u])
  rw [hY] at HPB
  have KY : Hid (Blk (w5.setRow g Y.toArray) g Y.toArray 26) := Lib.hid (Blk.setRow_self KX.out)
  have HB6 := Lib.hid (Ytoinjnocopejjaa.below_setRow HB5.out HK.out.1 Y.toArray)
  clear hY
  go_upto_region 17 with (fail)
  clear hcp KX HB5 KU5
  generalize w5.setRow g Y.toArray = w6 at *
  go_wp2
  go_ret
  exact ⟨_, _, rfl, HCZ.out.2, ⟨by rw [List.length_cons, HLL.out], fun _ => ⟨g, Y.toArray, rfl, HK.out.1, KY.out, by have h1 := HPB.out.2.1; have h2 : cur.toList.length = cap * 4 := HCS.out; simp only [List.size_toArray]; rw [h1, h2]; exact Nat.mul_le_mul_right 4 HCZ.out.2, by simp only; exact HPB.out.1⟩⟩, HB6.out, by intro e; cases e⟩
end Go.Proofs.Ytoinjnocopejjaa

/- Insert at the front. -/
namespace Go.Proofs.Ytoinjnocopejjaa
open Go.ChangeShapes Go.WideShapes Go.ChangeAt Go.RowKit Go.Maps
set_option linter.unusedVariables false
set_option linter.unusedSimpArgs false
set_option maxRecDepth 100000 in
set_option maxHeartbeats 8000000 in
theorem insert_any (B n g cap gv : Nat) (L : List Ver) (u : Ver) (w : World) (hO : w.ownsRow B 26 4 (.slice (some ⟨g, 0, none⟩) n cap) n (vsv L)) (hu : Blk w gv (vcells u) 26) (hne : gv ≠ g) (hn : n ≤ 8) (hB : B ≤ w.heap.size) :
    Calls Try.prog 86 #[.slice (some ⟨g, 0, none⟩) n cap, .int .i64 0, .slice (some ⟨gv, 0, none⟩) 1 1] w (InsEnd (u :: L) (n + 1) B w) := by
  have hl : L.length = n := by have := hO.1; rw [vsv_len] at this; omega
  rcases hO.2 with ⟨e, _⟩ | ⟨g', cap', cur, e, hBg, hg, hnc, hcm, hsz, htk⟩
  · cases e
  cases e
  clear hcm htk
  have HO := Lib.hid hO
  have HU := Lib.hid hu
  have HG := Lib.hid hg
  have hglt : g < w.heap.size := (Array.getElem?_eq_some_iff.1 hg).1
  have HLL := Lib.hid hl
  have HK := Lib.hid (And.intro hBg (And.intro hsz (And.intro hne (And.intro hB hglt))))
  have h4 : (vsv [u]).length = 1 * 4 := rfl
  have hLl : (vsv L).length = n * 4 := by rw [vsv_len, hl]
  have H4 := Lib.hid h4
  have HL4 := Lib.hid hLl
  clear hO hu hg hl hBg hsz hne hB hglt h4 hLl
  by_cases h0 : n = 0
  · subst h0
    obtain ⟨i0, hi, hz0, hz1, hz2⟩ := info_parts v27info
    by_cases hc0 : cap = 0
    · have hs0 : ∀ W, (Instr.slice 38 (.slice (some ⟨g, 0, none⟩) 0 cap) (some (.int .i64 0)) .none .none).run Try.prog W = .ok (.slice (some ⟨g, 0, none⟩) 0 cap) W := fun W => by
        have ht : Try.prog.underlying 38 = some (.slice 26) := Try.underlying38
        have ht' : Try.prog.underlying 38 = some (.slice (Try.prog.elem 38)) := by simp [Program.elem, ht]
        have he : Try.prog.elem 38 = 26 := by simp [Program.elem, ht]
        have := run_slice_l (P := Try.prog) W 38 (some ⟨g, 0, none⟩) 0 cap ht' .i64 0 (by omega) (by omega)
        rw [this, he, size26]
        simp [Result.andThen, sliced, hc0]
      go_enter Try.func86, Try.ntmps86
      go_wp2_with (first | (at_builtin; refine wpList_append_own _ rfl _ _ 38 rfl B 26 i0 _ 4 40 Try.underlying38 hi hz0 hz1 hz2 rfl (by decide) _ 0 (vsv L) rfl HO.out ⟨gv, 0, none⟩ 1 1 (vsv [u]) rfl H4.out (src_of_blk HU.out) (vsv_one [u]) (by unfold maxLen; omega) (by omega) HK.out.2.2.2.1 ?_; intro v3 w3 ho3 hg3 hn3) | go_in)
      have HE : Hid (L = []) := Lib.hid (List.eq_nil_of_length_eq_zero HLL.out)
      rw [HE.out] at ho3
      obtain ⟨A', c', e3, hc', hrow⟩ := own_vrow (vs := [u]) ho3
      subst e3
      have HR := Lib.hid hrow
      have HB3 := Lib.hid ((Below.refl B w).grown hg3 HK.out.2.2.2.1 (fun j e => by cases e; exact HK.out.1))
      have HC := Lib.hid hc'
      have HNE : Hid (A' ≠ none) := Lib.hid (fun e => by subst e; obtain ⟨g2, cur2, h1, _⟩ := hrow.blk (by decide); cases h1)
      clear ho3 hg3 hn3 hrow hc'
      go_wp2
      go_ret
      exact ⟨A', c', rfl, HC.out, by rw [HE.out]; exact HR.out, HB3.out, HNE.out⟩
    · have hs0 := slo g 0 0 cap 0 0 rfl (Nat.le_refl _) (by omega) (by omega)
      go_enter Try.func86, Try.ntmps86
      go_wp2_with (first | (at_builtin; refine wpList_append_own _ rfl _ _ 38 rfl B 26 i0 _ 4 40 Try.underlying38 hi hz0 hz1 hz2 rfl (by decide) _ 0 (vsv L) rfl HO.out ⟨gv, 0, none⟩ 1 1 (vsv [u]) rfl H4.out (src_of_blk HU.out) (vsv_one [u]) (by unfold maxLen; omega) (by omega) HK.out.2.2.2.1 ?_; intro v3 w3 ho3 hg3 hn3) | go_in)
      have HE : Hid (L = []) := Lib.hid (List.eq_nil_of_length_eq_zero HLL.out)
      rw [HE.out] at ho3
      obtain ⟨A', c', e3, hc', hrow⟩ := own_vrow (vs := [u]) ho3
      subst e3
      have HR := Lib.hid hrow
      have HB3 := Lib.hid ((Below.refl B w).grown hg3 HK.out.2.2.2.1 (fun j e => by cases e; exact HK.out.1))
      have HC := Lib.hid hc'
      have HNE : Hid (A' ≠ none) := Lib.hid (fun e => by subst e; obtain ⟨g2, cur2, h1, _⟩ := hrow.blk (by decide); cases h1)
      clear ho3 hg3 hn3 hrow hc'
      go_wp2
      go_ret
      exact ⟨A', c', rfl, HC.out, by rw [HE.out]; exact HR.out, HB3.out, HNE.out⟩
  · have e0 : ((0 : Int) == (n : Int)) = false := by rw [beq_eq_false_iff_ne]; omega
    have hs0 := slo g 0 n cap 0 0 rfl (by omega) (by omega) (by omega)
    have wn : wrap64 ((n : Int) + 1) = (n : Int) + 1 := by unfold wrap64; omega
    have wn2 : IntKind.i64.wrap ((n : Int) + 1) = (n : Int) + 1 := by rw [IntKind.wrap_i64]; omega
    have wn0 : wrap64 ((n : Int) + 1 - 0) = (n : Int) + 1 := by unfold wrap64; omega
    have wn3 : IntKind.i64.wrap ((n : Int) + 1 - 0) = (n : Int) + 1 := by rw [IntKind.wrap_i64]; omega
    have w12 : IntKind.i64.wrap 1 = 1 := by rw [IntKind.wrap_i64]; omega
    have w1 : wrap64 1 = 1 := by unfold wrap64; omega
    simp only [Nat.zero_mul, Nat.add_zero, Nat.sub_zero] at hs0
    by_cases hc : cap < n + 1
    · have d1 : decide ((n : Int) + 1 > (cap : Int)) = true := decide_eq_true (by omega)
      have d2 : decide ((cap : Int) < (n : Int) + 1) = true := decide_eq_true (by omega)
      have d3 : decide (cap < n + 1) = true := decide_eq_true hc
      have hs1 := shi g 0 n cap 0 0 rfl (by omega) (by omega)
      obtain ⟨i0, hi, hz0, hz1, hz2⟩ := info_parts v27info
      obtain ⟨gc, hgc⟩ : ∃ gc, grownCap w (cap + 1) cap 26 = gc := ⟨_, rfl⟩
      have hge : cap + 1 ≤ gc := by rw [← hgc]; exact grownCap_ge w (cap + 1) cap 26
      obtain rfl : cap = n := by omega
      have happ := Lib.run_append_grow_zeros (P := Try.prog) w 38 3 38 26 i0 _ .i64 .i64 Try.underlying38 Try.underlying3 hi hz0 (some ⟨g, 0, none⟩) 0 cap [] (by simp [Builtin.firstCells]; rfl) (cap + 1) (by omega) (by rw [hz1]; decide) (by omega) (by omega) (by rw [hz2]; omega) (by
        rw [hz2, Nat.zero_add]
        have : Builtin.nextslicecap (cap + 1) cap ≤ 1000 := by
          unfold Builtin.nextslicecap
          split
          · omega
          · rw [if_pos (by omega)]; omega
        omega)
      rw [Nat.zero_add, hgc, show ((cap + 1 : Nat) : Int) = (cap : Int) + 1 from by omega] at happ
      obtain ⟨Z, hZ⟩ : ∃ Z, (List.toArray ([] : List Value) ++ Builtin.zeroCells (Value.agg #[.int .i64 0, .int .i64 0, .bool false, .string ⟨#[]⟩]).cells (cap + 1) ++ Builtin.zeroCells (Value.agg #[.int .i64 0, .int .i64 0, .bool false, .string ⟨#[]⟩]).cells (gc - (cap + 1))) = Z := ⟨_, rfl⟩
      rw [hZ] at happ
      have hZs : Z.size = gc * 4 := by
        rw [← hZ]
        simp only [Array.size_append, size_zeroCells]
        show 0 + (cap + 1) * 4 + (gc - (cap + 1)) * 4 = gc * 4
        omega
      have HZS : Hid (Z.size = gc * 4 ∧ cap + 1 ≤ gc) := Lib.hid ⟨hZs, hge⟩
      have HZC : Hid (LenIs (gc * 4) Z.toList) := Lib.hid (by show Z.toList.length = gc * 4; rw [Array.length_toList]; exact hZs)
      clear hZ hZs hgc hi hz0 hz1 hz2
      have hlo0 := slo w.heap.size 0 (cap + 1) gc 0 0 rfl (by omega) hge (by omega)
      have hlo1 := slo w.heap.size 0 (cap + 1) gc 1 1 rfl (by omega) hge (by omega)
      simp only [Nat.zero_mul, Nat.add_zero, Nat.sub_zero, Nat.zero_add, Nat.one_mul, Nat.add_sub_cancel] at hlo0 hlo1
      have hmin1 : Nat.min 1 (cap + 1) = 1 := Nat.min_eq_left (by omega)
      have hmin2 : Nat.min cap cap = cap := Nat.min_self cap
      have HBZ : Hid (Below B w (World.drew (w.alloc (.cells Z 26)))) := Lib.hid (Below.drew ((Below.refl B w).alloc HK.out.2.2.2.1 _))
      have KZ : Hid (Blk (World.drew (w.alloc (.cells Z 26))) w.heap.size Z 26) := Lib.hid (Blk.new w Z 26)
      have HBw : Hid (Below w.heap.size w (World.drew (w.alloc (.cells Z 26)))) := Lib.hid (Below.drew ((Below.refl _ w).alloc (Nat.le_refl _) _))
      have KU : Hid (Blk (World.drew (w.alloc (.cells Z 26))) gv (vcells u) 26) := Lib.hid (HU.out.later HBw.out)
      have HO2 : Hid ((World.drew (w.alloc (.cells Z 26))).ownsRow B 26 4 (.slice (some ⟨g, 0, none⟩) cap cap) cap (vsv L)) := Lib.hid (World.ownsRow.kept HO.out (row := none) ⟨HBw.out.os, HBw.out.tape, HBw.out.output, HBw.out.size, fun k hk _ => HBw.out.block k hk⟩ (Or.inr (fun e => by cases e)))
      have HQ : Hid (B ≤ w.heap.size ∧ gv ≠ w.heap.size ∧ g ≠ w.heap.size) := Lib.hid ⟨HK.out.2.2.2.1, fun e => by have := HU.out.lt; omega, fun e => by have := HK.out.2.2.2.2; omega⟩
      obtain ⟨X, hX⟩ : ∃ X, Z.toList.take 0 ++ vsv [u] ++ Z.toList.drop (0 + (vsv [u]).length) = X := ⟨_, rfl⟩
      have hcp : (Builtin.copy_ #[38, 38] 3 #[.slice (some ⟨w.heap.size, 0, none⟩) (cap + 1) gc, .slice (some ⟨gv, 0, none⟩) 1 1]).run Try.prog (World.drew (w.alloc (.cells Z 26))) = .ok (goInt 1) ((World.drew (w.alloc (.cells Z 26))).setRow w.heap.size X.toArray) := by
        rw [← hX]
        exact run_copy_k (World.drew (w.alloc (.cells Z 26))) 38 38 3 26 w.heap.size 0 4 (cap + 1) gc ⟨gv, 0, none⟩ 1 1 Z 26 (vsv [u]) 1 Try.underlying38 info26 KZ.out hmin1 H4.out (src_of_blk KU.out) (by have := HZS.out; have := H4.out; omega) (vsv_one [u])
      have HX : Hid (X = vsv [u] ++ Z.toList.drop 4) := Lib.hid (by rw [← hX, List.take_zero, List.nil_append]; rfl)
      clear hX
      have happ2 := happ
      go_enter Try.func86, Try.ntmps86
      go_wp2_with (first | (at_builtin; refine Lib.wpList_append_run _ rfl _ _ 38 3 rfl _ _ rfl rfl _ _ happ2 ?_) | go_in)
      obtain ⟨q, hq⟩ : ∃ q, w.heap.size = q := ⟨_, rfl⟩
      rw [hq] at KZ HQ hlo0 hlo1 ⊢
      clear happ happ2 hcp hq HBw
      generalize World.drew (w.alloc (.cells Z 26)) = w2 at *
      have KZ3 : Hid (Blk (w2.setRow q X.toArray) q X.toArray 26) := Lib.hid (Blk.setRow_self KZ.out)
      have HB3 := Lib.hid (Ytoinjnocopejjaa.below_setRow HBZ.out HQ.out.1 X.toArray)
      have HO3 : Hid ((w2.setRow q X.toArray).ownsRow B 26 4 (.slice (some ⟨g, 0, none⟩) cap cap) cap (vsv L)) := Lib.hid (World.ownsRow.kept HO2.out (row := some q) ⟨rfl, rfl, rfl, by simp, fun k _ hk => Ytoinjnocopejjaa.setRow_other' w2 q k _ (fun e => hk (by rw [e]))⟩ (Or.inr (fun e => HQ.out.2.2 (by cases e; rfl))))
      have HPF := Lib.hid (put_front HLL.out (show (cap + 1) * 4 ≤ Z.toList.length by rw [Array.length_toList]; have := HZS.out; omega) X HX.out)
      have HX0 : Hid (X = vsv [u] ++ Z.toList.drop 4) := Lib.hid HX.out
      clear HX KZ HBZ HO2 KU
      generalize w2.setRow q X.toArray = w3 at *
      go_still_tail 8, (by kernel_rfl)
      change wpList _ _ _ _ _ (World.drew w3)
      have HB4 := Lib.hid (Below.drew HB3.out)
      have KZ4 : Hid (Blk (World.drew w3) q X.toArray 26) := Lib.hid KZ3.out
      have HO4 : Hid ((World.drew w3).ownsRow B 26 4 (.slice (some ⟨g, 0, none⟩) cap cap) cap (vsv L)) := Lib.hid HO3.out
      clear HB3 KZ3 HO3
      generalize World.drew w3 = w4 at *
      have HXL : Hid (X.length = gc * 4) := Lib.hid (by rw [HX0.out, List.length_append, List.length_drop, show Z.toList.length = gc * 4 from HZC.out]; show 4 + _ = _; have := HZS.out; omega)
      obtain ⟨Y, hY⟩ : ∃ Y, X.take 4 ++ vsv L ++ X.drop (4 + cap * 4) = Y := ⟨_, rfl⟩
      have hcp : (Builtin.copy_ #[38, 38] 3 #[.slice (some ⟨q, 4, none⟩) cap (gc - 1), .slice (some ⟨g, 0, none⟩) cap cap]).run Try.prog w4 = .ok (goInt cap) (w4.setRow q Y.toArray) := by
        rw [← hY]
        have h := run_copy_k w4 38 38 3 26 q 4 4 cap (gc - 1) ⟨g, 0, none⟩ cap cap X.toArray 26 (vsv L) cap Try.underlying38 info26 KZ4.out hmin2 HL4.out (src_of_row HO4.out) (by have := HZS.out; have := HL4.out; have := HXL.out; simp; omega) (vsv_one L)
        rw [HL4.out] at h
        exact h
      rw [hY] at HPF
      have KY : Hid (Blk (w4.setRow q Y.toArray) q Y.toArray 26) := Lib.hid (Blk.setRow_self KZ4.out)
      have HB5 := Lib.hid (Ytoinjnocopejjaa.below_setRow HB4.out HQ.out.1 Y.toArray)
      clear hY
      go_upto_region 12 with (fail)
      clear hcp KZ4 HB4 HO4
      generalize w4.setRow q Y.toArray = w5 at *
      go_wp2
      go_ret
      exact ⟨_, _, rfl, HZS.out.2, ⟨by rw [List.length_cons, HLL.out], fun _ => ⟨q, Y.toArray, rfl, HQ.out.1, KY.out, by have h1 := HPF.out.2; have h2 : Z.toList.length = gc * 4 := HZC.out; simp only [List.size_toArray]; rw [h1, h2]; exact Nat.mul_le_mul_right 4 HZS.out.2, by simp only; exact HPF.out.1⟩⟩, HB5.out, by intro e; cases e⟩
    · exact insert_room B n g cap gv L u w HO.out HU.out HK.out.2.2.1 hn HK.out.2.2.2.1 (by omega) (by omega)
end Go.Proofs.Ytoinjnocopejjaa

/- The closure of commit. -/
namespace Go.Proofs.Ytoinjnocopejjaa
open Go.ChangeShapes Go.WideShapes Go.ChangeAt Go.RowKit Go.Maps
set_option linter.unusedVariables false
set_option linter.unusedSimpArgs false
set_option maxRecDepth 100000 in
set_option maxHeartbeats 4000000 in
theorem insert_nil (B gv : Nat) (u : Ver) (w : World) (hu : Blk w gv (vcells u) 26) (hB : B ≤ w.heap.size) :
    Calls Try.prog 86 #[.slice none 0 0, .int .i64 0, .slice (some ⟨gv, 0, none⟩) 1 1] w (InsEnd [u] 1 B w) := by
  have HU := Lib.hid hu
  have HBB := Lib.hid hB
  have h4 : (vsv [u]).length = 1 * 4 := rfl
  have H4 := Lib.hid h4
  clear hu hB h4
  obtain ⟨i0, hi, hz0, hz1, hz2⟩ := info_parts v27info
  have hs0 : ∀ W, (Instr.slice 38 (.slice none 0 0) (some (.int .i64 0)) .none .none).run Try.prog W = .ok (.slice none 0 0) W := fun W => by
    have ht : Try.prog.underlying 38 = some (.slice 26) := Try.underlying38
    have ht' : Try.prog.underlying 38 = some (.slice (Try.prog.elem 38)) := by simp [Program.elem, ht]
    have he : Try.prog.elem 38 = 26 := by simp [Program.elem, ht]
    have := run_slice_l (P := Try.prog) W 38 none 0 0 ht' .i64 0 (by omega) (by omega)
    rw [this, he, size26]
    simp [Result.andThen, sliced]
  go_enter Try.func86, Try.ntmps86
  go_wp2_with (first | (at_builtin; refine wpList_append_own _ rfl _ _ 38 rfl B 26 i0 _ 4 40 Try.underlying38 hi hz0 hz1 hz2 rfl (by decide) _ 0 [] rfl (World.ownsRow_nil _ _ _ _) ⟨gv, 0, none⟩ 1 1 (vsv [u]) rfl H4.out (src_of_blk HU.out) (vsv_one [u]) (by unfold maxLen; omega) (by omega) HBB.out ?_; intro v3 w3 ho3 hg3 hn3) | go_in)
  obtain ⟨A', c', e3, hc', hrow⟩ := own_vrow (vs := [u]) ho3
  subst e3
  have HR := Lib.hid hrow
  have HB3 := Lib.hid ((Below.refl B w).grown hg3 HBB.out (fun j e => by cases e))
  have HC := Lib.hid hc'
  have HNE : Hid (A' ≠ none) := Lib.hid (fun e => by subst e; obtain ⟨g2, cur2, h1, _⟩ := hrow.blk (by decide); cases h1)
  clear ho3 hg3 hn3 hrow hc'
  go_wp2
  go_ret
  exact ⟨A', c', rfl, HC.out, HR.out, HB3.out, HNE.out⟩
theorem ownsRow_base' {W : World} {base base' : Nat} {e : TypeId} {size : Nat} {v : Value} {k : Nat} {xs : List Value} (h : W.ownsRow base e size v k xs) (hb : base' ≤ base) : W.ownsRow base' e size v k xs := by
  refine ⟨h.1, ?_⟩
  rcases h.2 with hn | ⟨g, cap, cur, hv, hbg, rest⟩
  · exact .inl hn
  · exact .inr ⟨g, cap, cur, hv, Nat.le_trans hb hbg, rest⟩
theorem insert_own (B n gv : Nat) (v0 : Value) (L : List Ver) (u : Ver) (w : World) (hO : w.ownsRow B 26 4 v0 n (vsv L)) (hu : Blk w gv (vcells u) 26) (hne : v0.ownBlock ≠ some gv) (hn : n ≤ 8) (hB : B ≤ w.heap.size) :
    Calls Try.prog 86 #[v0, .int .i64 0, .slice (some ⟨gv, 0, none⟩) 1 1] w (InsEnd (u :: L) (n + 1) B w) := by
  rcases hO.2 with ⟨rfl, h0⟩ | ⟨g, cap, cur, rfl, _⟩
  · subst h0
    have hL : L = [] := List.eq_nil_of_length_eq_zero (by have := hO.1; rw [vsv_len] at this; omega)
    subst hL
    exact insert_nil B gv u w hu hB
  · exact insert_any B n g cap gv L u w hO hu (fun e => hne (by rw [e]; rfl)) hn hB
set_option maxRecDepth 100000 in
set_option maxHeartbeats 16000000 in
theorem comm_any (B p bx : Nat) (s : MS) (S : Nat → Prop) (hd : Hd) (w : World) (h : MR w B p s S) (hbx : Blk w bx #[.pointer (some ⟨p, 0, none⟩)] 22) (hv : HdAt w hd) (hn1 : hd.n + 1 ≤ 8) : Calls Try.prog 85 #[rowV hd, .pointer (some ⟨bx, 0, none⟩)] w (RwEnd ({ hd.I with ts := s.clock } :: hd.L, ver0) w) := by
  obtain ⟨x, h, _⟩ := h
  have HD := Lib.hid hv
  obtain ⟨A, n, c, L, ⟨iw, its, itm, iv⟩⟩ := hd
  simp only at hn1
  have HN1 := Lib.hid hn1
  have hb2 : Below w.heap.size w ((w.alloc (.cells #[.slice A n c, .int .i64 iw, .int .i64 its, .bool itm, .string iv] 114)).alloc (.cells #[.slice none 0 0, .int .i64 0, .int .i64 0, .bool false, .string ⟨#[]⟩] 114)) := ((Below.refl _ _).alloc (Nat.le_refl _) _).alloc (by simp) _
  have hm := h.later hb2
  have k8 : (((w.alloc (.cells #[.slice A n c, .int .i64 iw, .int .i64 its, .bool itm, .string iv] 114)).alloc (.cells #[.slice none 0 0, .int .i64 0, .int .i64 0, .bool false, .string ⟨#[]⟩] 114))).cell? ⟨p, 8, none⟩ = some (.int .i64 s.clock) := hm.c0 8
  have kb := (hbx.later hb2).cell 0
  simp only [List.getElem?_toArray, List.getElem?_cons_zero] at kb
  have K2 : Hid (Blk ((w.alloc (.cells #[.slice A n c, .int .i64 iw, .int .i64 its, .bool itm, .string iv] 114)).alloc (.cells #[.slice none 0 0, .int .i64 0, .int .i64 0, .bool false, .string ⟨#[]⟩] 114)) w.heap.size #[.slice A n c, .int .i64 iw, .int .i64 its, .bool itm, .string iv] 114) := Lib.hid ((Blk.new w _ 114).alloc _)
  have K3 : Hid (Blk ((w.alloc (.cells #[.slice A n c, .int .i64 iw, .int .i64 its, .bool itm, .string iv] 114)).alloc (.cells #[.slice none 0 0, .int .i64 0, .int .i64 0, .bool false, .string ⟨#[]⟩] 114)) (w.heap.size + 1) #[.slice none 0 0, .int .i64 0, .int .i64 0, .bool false, .string ⟨#[]⟩] 114) := Lib.hid (Blk.new2 _ _ 114 (by simp))
  have HB := Lib.hid hb2
  obtain ⟨ck, hck⟩ : ∃ ck, s.clock = ck := ⟨_, rfl⟩
  rw [hck] at k8 ⊢
  unfold rowV
  simp only
  have z2 := K2.out.cell 2
  have f2 := K2.out.frozen 2
  simp only [List.getElem?_toArray, List.getElem?_cons_zero, List.getElem?_cons_succ] at z2
  clear h hbx hv hn1 hb2 hm hck
  go_enter Try.func85, Try.ntmps85
  go_upto_region 1 with (fail)
  generalize ((w.alloc (.cells #[.slice A n c, .int .i64 iw, .int .i64 its, .bool itm, .string iv] 114)).alloc (.cells #[.slice none 0 0, .int .i64 0, .int .i64 0, .bool false, .string ⟨#[]⟩] 114)) = w2 at *
  have K2b : Hid (Blk (w2.setCell ⟨w.heap.size, 2, none⟩ (.int .i64 ck)) w.heap.size #[.slice A n c, .int .i64 iw, .int .i64 ck, .bool itm, .string iv] 114) := Lib.hid (K2.out.set (j := 2) _)
  have K3b : Hid (Blk (w2.setCell ⟨w.heap.size, 2, none⟩ (.int .i64 ck)) (w.heap.size + 1) #[.slice none 0 0, .int .i64 0, .int .i64 0, .bool false, .string ⟨#[]⟩] 114) := Lib.hid (K3.out.other (by omega) _)
  have HBb := Lib.hid (HB.out.setCell (p := ⟨w.heap.size, 2, none⟩) (Nat.le_refl _) (.int .i64 ck))
  go_upto_region 2 with (fail)
  clear z2 f2 k8 kb K2 K3 HB
  generalize w2.setCell ⟨w.heap.size, 2, none⟩ (.int .i64 ck) = w3 at *
  refine wp_region_noPanic ?_
  obtain ⟨W0, rfl⟩ : ∃ W0 : World, W0 = w3 := ⟨_, rfl⟩
  refine wp_region_held_drew (S := fun W => Below w.heap.size w W ∧ Blk W w.heap.size #[.slice A n c, .int .i64 iw, .int .i64 ck, .bool itm, .string iv] 114) (by kernel_rfl) (⟨Below.drew HBb.out, K2b.out⟩) (fun hHeld => ?_)
  have HB4 : Hid (Below w.heap.size w (World.drew W0)) := Lib.hid (Below.drew HBb.out)
  have K24 : Hid (Blk (World.drew W0) w.heap.size #[.slice A n c, .int .i64 iw, .int .i64 ck, .bool itm, .string iv] 114) := Lib.hid K2b.out
  have K34 : Hid (Blk (World.drew W0) (w.heap.size + 1) #[.slice none 0 0, .int .i64 0, .int .i64 0, .bool false, .string ⟨#[]⟩] 114) := Lib.hid K3b.out
  clear K2b K3b HBb
  generalize World.drew W0 = Wd at *
  refine wpAnyH_take (i := 0) (oi := { dst := some 10, op := Op.fieldAddr 114 (Operand.tmp 2) 0, type := 0, pos := "model.go:237", after := #[], guard := none }) (v := ?_) rfl (by kernel_rfl) (by kernel_rfl) (by kernel_rfl) (fun _ _ _ h => h) (Or.inl ⟨by rfl, ?_⟩) (by assumption) ?_
  rotate_left
  · intro W hSw
    clear hSw
    go_simp
    try with_reducible rfl
  simp only [Act.put, List.setIfInBounds_toArray, List.set_cons_zero, List.set_cons_succ]
  refine wpAnyH_take (i := 1) (oi := { dst := some 11, op := Op.load 38 (Operand.tmp 10), type := 38, pos := "model.go:237", after := #[{ on := 0, ground := Ground.data }], guard := none }) (v := ?_) rfl (by kernel_rfl) (by kernel_rfl) (by kernel_rfl) (fun _ _ _ h => h) (Or.inl ⟨by rfl, ?_⟩) (by assumption) ?_
  rotate_left
  · intro W hSw
    have z0 := hSw.2.cell 0
    simp only [List.getElem?_toArray, List.getElem?_cons_zero, List.getElem?_cons_succ] at z0
    clear hSw
    go_simp
    try with_reducible rfl
  simp only [Act.put, List.setIfInBounds_toArray, List.set_cons_zero, List.set_cons_succ]
  refine wpAnyH_take (i := 3) (oi := { dst := some 13, op := Op.fieldAddr 114 (Operand.tmp 2) 1, type := 0, pos := "model.go:237", after := #[], guard := none }) (v := ?_) rfl (by kernel_rfl) (by kernel_rfl) (by kernel_rfl) (fun _ _ _ h => h) (Or.inl ⟨by rfl, ?_⟩) (by assumption) ?_
  rotate_left
  · intro W hSw
    clear hSw
    go_simp
    try with_reducible rfl
  simp only [Act.put, List.setIfInBounds_toArray, List.set_cons_zero, List.set_cons_succ]
  refine wpAnyH_take (i := 4) (oi := { dst := some 14, op := Op.load 26 (Operand.tmp 13), type := 26, pos := "model.go:237", after := #[{ on := 3, ground := Ground.data }], guard := none }) (v := ?_) rfl (by kernel_rfl) (by kernel_rfl) (by kernel_rfl) (fun _ _ _ h => h) (Or.inl ⟨by rfl, ?_⟩) (by assumption) ?_
  rotate_left
  · intro W hSw
    have z1 := hSw.2.cell 1
    have z2 := hSw.2.cell 2
    have z3 := hSw.2.cell 3
    have z4 := hSw.2.cell 4
    simp only [List.getElem?_toArray, List.getElem?_cons_zero, List.getElem?_cons_succ] at z1 z2 z3 z4
    clear hSw
    go_simp
    try with_reducible rfl
  simp only [Act.put, List.setIfInBounds_toArray, List.set_cons_zero, List.set_cons_succ]
  have HWD : Hid (w.heap.size + 1 + 1 ≤ Wd.heap.size) := Lib.hid (by have := K34.out.lt; omega)
  refine wpAnyH_ready (rs := [2, 5]) (by kernel_rfl) (by simp) (AllReadyH.cons (o := { dst := some 12, op := Op.call { callee := Callee.value (Operand.func 63), args := #[Operand.tmp 11], argTypes := #[38] }, type := 38, pos := "model.go:237", after := #[{ on := 1, ground := Ground.data }], guard := none }) rfl (fun K hK => ?_) (AllReadyH.cons (o := { dst := some 15, op := Op.buildSlice 38 1 #[(0, Operand.tmp 14)], type := 38, pos := "model.go:237", after := #[{ on := 4, ground := Ground.data }], guard := none }) rfl (fun K hK => ?_) AllReadyH.nil))
  · have HCL := Lib.hid (cloneo_any A n c L Wd (by have := HN1.out; omega) (vers_of ((show HdAt w ⟨A, n, c, L, ⟨iw, its, itm, iv⟩⟩ from HD.out).later HB4.out)))
    go_simp
    refine HCL.out.mono ?_
    rintro e W4 ⟨vc, rfl, hov, hb⟩
    have HOV := Lib.hid hov
    replace HB4 := Lib.hid (stepB HB4.out hb)
    replace K24 := Lib.hid (K24.out.later hb)
    replace K34 := Lib.hid (K34.out.later hb)
    clear hb HCL hHeld hov
    refine hK.out _ _ (⟨HB4.out, K24.out⟩) (fun hHeld => ?_)
    clear hK K
    refine wpAnyH_ready (rs := [5]) (by kernel_rfl) (by simp) (AllReadyH.cons (o := { dst := some 15, op := Op.buildSlice 38 1 #[(0, Operand.tmp 14)], type := 38, pos := "model.go:237", after := #[{ on := 4, ground := Ground.data }], guard := none }) rfl (fun K hK => ?_) AllReadyH.nil)
    go_simp
    have hb : Below W4.heap.size W4 (W4.alloc (.cells #[.int .i64 iw, .int .i64 ck, .bool itm, .string iv] 26)) := (Below.refl _ _).alloc (Nat.le_refl _) _
    have KV : Hid (Blk (W4.alloc (.cells #[.int .i64 iw, .int .i64 ck, .bool itm, .string iv] 26)) W4.heap.size (vcells ⟨iw, ck, itm, iv⟩) 26) := Lib.hid (Blk.new W4 _ 26)
    replace HB4 := Lib.hid (stepB HB4.out hb)
    replace K24 := Lib.hid (K24.out.later hb)
    replace K34 := Lib.hid (K34.out.later hb)
    have HOW : Hid ((W4.alloc (.cells #[.int .i64 iw, .int .i64 ck, .bool itm, .string iv] 26)).ownsRow (w.heap.size + 1 + 1) 26 4 vc n (vsv L)) := Lib.hid (World.ownsRow.kept (row := none) (ownsRow_base' HOV.out HWD.out) ⟨hb.os, hb.tape, hb.output, hb.size, fun k hk _ => hb.block k hk⟩ (by cases vc.ownBlock <;> simp))
    have HNV : Hid (vc.ownBlock ≠ some W4.heap.size) := Lib.hid (fun e => by have := (World.ownsRow.lt HOV.out _ e).2; omega)
    have HSZ : Hid (w.heap.size + 1 + 1 ≤ (W4.alloc (.cells #[.int .i64 iw, .int .i64 ck, .bool itm, .string iv] 26)).heap.size) := Lib.hid (by have := K34.out.lt; omega)
    clear hb hHeld HOV
    refine hK.out _ _ (⟨HB4.out, K24.out⟩) (fun hHeld => ?_)
    clear hK K
    generalize W4.alloc (.cells #[.int .i64 iw, .int .i64 ck, .bool itm, .string iv] 26) = Wf at *
    obtain ⟨qv, hqv⟩ : ∃ x, W4.heap.size = x := ⟨_, rfl⟩
    rw [hqv] at KV HNV ⊢
    clear hqv
    refine wpAnyH_ready (rs := [6]) (by kernel_rfl) (by simp) (AllReadyH.cons (o := { dst := some 16, op := Op.call { callee := Callee.value (Operand.func 86), args := #[Operand.tmp 12, Operand.const (Value.int IntKind.i64 0), Operand.tmp 15], argTypes := #[38, 3, 38] }, type := 38, pos := "model.go:237", after := #[{ on := 2, ground := Ground.data }, { on := 5, ground := Ground.data }, { on := 2, ground := Ground.chain }], guard := none }) rfl (fun K hK => ?_) AllReadyH.nil)
    have HCL := Lib.hid (insert_own (w.heap.size + 1 + 1) n qv vc L ⟨iw, ck, itm, iv⟩ Wf HOW.out KV.out HNV.out (by have := HN1.out; omega) HSZ.out)
    go_simp
    refine HCL.out.mono ?_
    rintro e W6 ⟨A6, c6, rfl, hc6, hr6, hb6, hne6⟩
    replace HB4 := Lib.hid (HB4.out.trans (hb6.mono (by omega)))
    replace K24 := Lib.hid ((hb6.block _ (by omega)).trans K24.out)
    replace K34 := Lib.hid ((hb6.block _ (by omega)).trans K34.out)
    have HR6 := Lib.hid hr6
    have HC6 := Lib.hid (And.intro hc6 hne6)
    clear hc6 hr6 hb6 hne6 HCL hHeld HOW KV HNV HSZ
    refine hK.out _ _ (⟨HB4.out, K24.out⟩) (fun hHeld => ?_)
    clear hK K
    refine wpAnyH_take (i := 7) (oi := { dst := some 17, op := Op.build 114 #[(0, Operand.tmp 16)], type := 114, pos := "model.go:237", after := #[{ on := 6, ground := Ground.data }], guard := none }) (v := ?_) rfl (by kernel_rfl) (by kernel_rfl) (by kernel_rfl) (fun _ _ _ h => h) (Or.inl ⟨by rfl, ?_⟩) (by assumption) ?_
    rotate_left
    · intro W hSw
      clear hSw
      go_simp
      try with_reducible rfl
    simp only [Act.put, List.setIfInBounds_toArray, List.set_cons_zero, List.set_cons_succ]
    refine wpAnyH_ready (rs := [8]) (by kernel_rfl) (by simp) (AllReadyH.cons (o := { dst := none, op := Op.store 114 (Operand.tmp 3) (Operand.tmp 17), type := 0, pos := "model.go:237", after := #[{ on := 7, ground := Ground.data }, { on := 6, ground := Ground.chain }, { on := 0, ground := Ground.phase }, { on := 1, ground := Ground.phase }, { on := 2, ground := Ground.phase }, { on := 3, ground := Ground.phase }, { on := 4, ground := Ground.phase }, { on := 5, ground := Ground.phase }, { on := 6, ground := Ground.phase }, { on := 7, ground := Ground.phase }], guard := none }) rfl (fun K hK => ?_) AllReadyH.nil)
    refine wp_store_row 114 (.tmp 3) (.tmp 17) rfl (w.heap.size + 1) #[.slice A6 (n + 1) c6, .int .i64 0, .int .i64 0, .bool false, .string ⟨#[]⟩] rfl rfl 114 #[.slice none 0 0, .int .i64 0, .int .i64 0, .bool false, .string ⟨#[]⟩] K34.out (by kernel_rfl) rfl (by first | rfl | (simp [Value.oneCell']; done)) ?_
    refine hK.out _ _ (⟨below_setRow HB4.out (Nat.le_succ _) _, Blk.setRow K24.out (by omega)⟩) (fun hHeld => ?_)
    clear hK K
    refine wpAnyH_done (by kernel_rfl) (NoPanic.normal ?_) _
    clear hHeld
    have HS2 := Lib.hid (Ytoinjnocopejjaa.below_setRow HB4.out (Nat.le_succ _) #[.slice A6 (n + 1) c6, .int .i64 0, .int .i64 0, .bool false, .string ⟨#[]⟩])
    have HS1 : Hid (Blk (W6.setRow (w.heap.size + 1) #[.slice A6 (n + 1) c6, .int .i64 0, .int .i64 0, .bool false, .string ⟨#[]⟩]) (w.heap.size + 1) #[.slice A6 (n + 1) c6, .int .i64 0, .int .i64 0, .bool false, .string ⟨#[]⟩] 114) := Lib.hid (Blk.setRow_self K34.out)
    have HR7 : Hid (VRow (W6.setRow (w.heap.size + 1) #[.slice A6 (n + 1) c6, .int .i64 0, .int .i64 0, .bool false, .string ⟨#[]⟩]) 0 A6 (n + 1) (⟨iw, ck, itm, iv⟩ :: L)) := Lib.hid (vrow_keep (HR6.out.mono (Nat.zero_le _)) (fun g cur hg => setRow_other' W6 _ g _ (fun e => by
      subst e
      have hk := K34.out
      unfold Blk at hk
      rw [hk] at hg; simp only [Option.some.injEq, Obj.cells.injEq] at hg; exact absurd hg.2.1 (by decide))))
    go_wp2
    refine bodyPost_ret (results_cell_row rfl _ _ (w.heap.size + 1) 114 _ (0, 0) _ rfl HS1.out Try.underlying114 rfl (by kernel_rfl)) rfl ?_
    exact ⟨⟨A6, n + 1, c6, ⟨iw, ck, itm, iv⟩ :: L, ver0⟩, rfl, rfl, ⟨HR7.out, HC6.out.1, fun e => absurd e HC6.out.2, HN1.out⟩, HS2.out⟩
  · go_simp
    have hb : Below Wd.heap.size Wd (Wd.alloc (.cells #[.int .i64 iw, .int .i64 ck, .bool itm, .string iv] 26)) := (Below.refl _ _).alloc (Nat.le_refl _) _
    have KV : Hid (Blk (Wd.alloc (.cells #[.int .i64 iw, .int .i64 ck, .bool itm, .string iv] 26)) Wd.heap.size (vcells ⟨iw, ck, itm, iv⟩) 26) := Lib.hid (Blk.new Wd _ 26)
    replace HB4 := Lib.hid (stepB HB4.out hb)
    replace K24 := Lib.hid (K24.out.later hb)
    replace K34 := Lib.hid (K34.out.later hb)
    have HSZ0 : Hid (w.heap.size + 1 + 1 ≤ (Wd.alloc (.cells #[.int .i64 iw, .int .i64 ck, .bool itm, .string iv] 26)).heap.size) := Lib.hid (by have := K34.out.lt; omega)
    clear hb hHeld
    refine hK.out _ _ (⟨HB4.out, K24.out⟩) (fun hHeld => ?_)
    clear hK K
    generalize Wd.alloc (.cells #[.int .i64 iw, .int .i64 ck, .bool itm, .string iv] 26) = Wf at *
    obtain ⟨qv, hqv⟩ : ∃ x, Wd.heap.size = x := ⟨_, rfl⟩
    have HQV : Hid (qv < Wf.heap.size) := Lib.hid (by rw [← hqv]; exact KV.out.lt)
    rw [hqv] at KV ⊢
    clear hqv
    refine wpAnyH_ready (rs := [2]) (by kernel_rfl) (by simp) (AllReadyH.cons (o := { dst := some 12, op := Op.call { callee := Callee.value (Operand.func 63), args := #[Operand.tmp 11], argTypes := #[38] }, type := 38, pos := "model.go:237", after := #[{ on := 1, ground := Ground.data }], guard := none }) rfl (fun K hK => ?_) AllReadyH.nil)
    have HCL := Lib.hid (cloneo_any A n c L Wf (by have := HN1.out; omega) (vers_of ((show HdAt w ⟨A, n, c, L, ⟨iw, its, itm, iv⟩⟩ from HD.out).later HB4.out)))
    go_simp
    refine HCL.out.mono ?_
    rintro e W4 ⟨vc, rfl, hov, hb⟩
    have HOV := Lib.hid hov
    replace HB4 := Lib.hid (stepB HB4.out hb)
    replace K24 := Lib.hid (K24.out.later hb)
    replace K34 := Lib.hid (K34.out.later hb)
    have HOW : Hid (W4.ownsRow (w.heap.size + 1 + 1) 26 4 vc n (vsv L)) := Lib.hid (ownsRow_base' HOV.out HSZ0.out)
    have HNV : Hid (vc.ownBlock ≠ some qv) := Lib.hid (fun e => by have := (World.ownsRow.lt HOV.out _ e).1; have := HQV.out; omega)
    have HSZ : Hid (w.heap.size + 1 + 1 ≤ W4.heap.size) := Lib.hid (Nat.le_trans HSZ0.out hb.size)
    replace KV := Lib.hid (KV.out.later hb)
    clear hb HCL hHeld hov HOV HSZ0 HQV
    refine hK.out _ _ (⟨HB4.out, K24.out⟩) (fun hHeld => ?_)
    clear hK K
    refine wpAnyH_ready (rs := [6]) (by kernel_rfl) (by simp) (AllReadyH.cons (o := { dst := some 16, op := Op.call { callee := Callee.value (Operand.func 86), args := #[Operand.tmp 12, Operand.const (Value.int IntKind.i64 0), Operand.tmp 15], argTypes := #[38, 3, 38] }, type := 38, pos := "model.go:237", after := #[{ on := 2, ground := Ground.data }, { on := 5, ground := Ground.data }, { on := 2, ground := Ground.chain }], guard := none }) rfl (fun K hK => ?_) AllReadyH.nil)
    have HCL := Lib.hid (insert_own (w.heap.size + 1 + 1) n qv vc L ⟨iw, ck, itm, iv⟩ W4 HOW.out KV.out HNV.out (by have := HN1.out; omega) HSZ.out)
    go_simp
    refine HCL.out.mono ?_
    rintro e W6 ⟨A6, c6, rfl, hc6, hr6, hb6, hne6⟩
    replace HB4 := Lib.hid (HB4.out.trans (hb6.mono (by omega)))
    replace K24 := Lib.hid ((hb6.block _ (by omega)).trans K24.out)
    replace K34 := Lib.hid ((hb6.block _ (by omega)).trans K34.out)
    have HR6 := Lib.hid hr6
    have HC6 := Lib.hid (And.intro hc6 hne6)
    clear hc6 hr6 hb6 hne6 HCL hHeld HOW KV HNV HSZ
    refine hK.out _ _ (⟨HB4.out, K24.out⟩) (fun hHeld => ?_)
    clear hK K
    refine wpAnyH_take (i := 7) (oi := { dst := some 17, op := Op.build 114 #[(0, Operand.tmp 16)], type := 114, pos := "model.go:237", after := #[{ on := 6, ground := Ground.data }], guard := none }) (v := ?_) rfl (by kernel_rfl) (by kernel_rfl) (by kernel_rfl) (fun _ _ _ h => h) (Or.inl ⟨by rfl, ?_⟩) (by assumption) ?_
    rotate_left
    · intro W hSw
      clear hSw
      go_simp
      try with_reducible rfl
    simp only [Act.put, List.setIfInBounds_toArray, List.set_cons_zero, List.set_cons_succ]
    refine wpAnyH_ready (rs := [8]) (by kernel_rfl) (by simp) (AllReadyH.cons (o := { dst := none, op := Op.store 114 (Operand.tmp 3) (Operand.tmp 17), type := 0, pos := "model.go:237", after := #[{ on := 7, ground := Ground.data }, { on := 6, ground := Ground.chain }, { on := 0, ground := Ground.phase }, { on := 1, ground := Ground.phase }, { on := 2, ground := Ground.phase }, { on := 3, ground := Ground.phase }, { on := 4, ground := Ground.phase }, { on := 5, ground := Ground.phase }, { on := 6, ground := Ground.phase }, { on := 7, ground := Ground.phase }], guard := none }) rfl (fun K hK => ?_) AllReadyH.nil)
    refine wp_store_row 114 (.tmp 3) (.tmp 17) rfl (w.heap.size + 1) #[.slice A6 (n + 1) c6, .int .i64 0, .int .i64 0, .bool false, .string ⟨#[]⟩] rfl rfl 114 #[.slice none 0 0, .int .i64 0, .int .i64 0, .bool false, .string ⟨#[]⟩] K34.out (by kernel_rfl) rfl (by first | rfl | (simp [Value.oneCell']; done)) ?_
    refine hK.out _ _ (⟨below_setRow HB4.out (Nat.le_succ _) _, Blk.setRow K24.out (by omega)⟩) (fun hHeld => ?_)
    clear hK K
    refine wpAnyH_done (by kernel_rfl) (NoPanic.normal ?_) _
    clear hHeld
    have HS2 := Lib.hid (Ytoinjnocopejjaa.below_setRow HB4.out (Nat.le_succ _) #[.slice A6 (n + 1) c6, .int .i64 0, .int .i64 0, .bool false, .string ⟨#[]⟩])
    have HS1 : Hid (Blk (W6.setRow (w.heap.size + 1) #[.slice A6 (n + 1) c6, .int .i64 0, .int .i64 0, .bool false, .string ⟨#[]⟩]) (w.heap.size + 1) #[.slice A6 (n + 1) c6, .int .i64 0, .int .i64 0, .bool false, .string ⟨#[]⟩] 114) := Lib.hid (Blk.setRow_self K34.out)
    have HR7 : Hid (VRow (W6.setRow (w.heap.size + 1) #[.slice A6 (n + 1) c6, .int .i64 0, .int .i64 0, .bool false, .string ⟨#[]⟩]) 0 A6 (n + 1) (⟨iw, ck, itm, iv⟩ :: L)) := Lib.hid (vrow_keep (HR6.out.mono (Nat.zero_le _)) (fun g cur hg => setRow_other' W6 _ g _ (fun e => by
      subst e
      have hk := K34.out
      unfold Blk at hk
      rw [hk] at hg; simp only [Option.some.injEq, Obj.cells.injEq] at hg; exact absurd hg.2.1 (by decide))))
    go_wp2
    refine bodyPost_ret (results_cell_row rfl _ _ (w.heap.size + 1) 114 _ (0, 0) _ rfl HS1.out Try.underlying114 rfl (by kernel_rfl)) rfl ?_
    exact ⟨⟨A6, n + 1, c6, ⟨iw, ck, itm, iv⟩ :: L, ver0⟩, rfl, rfl, ⟨HR7.out, HC6.out.1, fun e => absurd e HC6.out.2, HN1.out⟩, HS2.out⟩
end Go.Proofs.Ytoinjnocopejjaa
