/- A chain is built. -/
import Derived.Test.YtbncpfkoeahhpaaCP
import Derived.Test.YtbncpfkoeahhpaaCN
import Derived.Test.YtbncpfkoeahhpaaCDa
namespace Go.Proofs.Ytbncpfkoeahhpaa
open Go.ChangeShapes Go.WideShapes Go.ChangeAt Go.RowKit Go.Maps
set_option linter.unusedVariables false
set_option linter.unusedSimpArgs false

theorem CX.base {B B' q a m K : Nat} {W : World} {cf : Conf} {st : AS} {S : Nat → Prop} {nd : Int → Nd} {U : List Int} (h : CX W B q cf a m st S nd U K) (hb : B' ≤ B) : CX W B' q cf a m st S nd U K := ⟨h.cr.base hb, h.ci, h.pg⟩
def topU (us : List Int) (k : Nat) : Int := if k = 0 then 0 else us.getD (k - 1) 0
/-- a chain of the first k versions of L -/
structure Bd (st : AS) (nd : Int → Nd) (us : List Int) (L : List Vn) (k : Nat) : Prop where
  len : us.length = k
  nod : us.Nodup
  rg : ∀ x ∈ us, hR x ∧ x ≠ 0
  is : ∀ x, hR x → isA st x = decide (x ∈ us)
  nd : ∀ j, j < k → nd (us.getD j 0) = (L.getD j vn0, topU us j)
theorem Bd.nil (nd : Int → Nd) (L : List Vn) : Bd (0, [], []) nd [] L 0 := ⟨rfl, List.nodup_nil, (fun x h => by cases h), (fun x _ => by simp [isA]), (fun j h => by omega)⟩
theorem getD_in {us : List Int} {j : Nat} (h : j < us.length) : us.getD j 0 ∈ us := by
  rw [List.getD_eq_getElem?_getD, List.getElem?_eq_getElem h]; exact List.getElem_mem h
theorem getD_ap {us : List Int} {y : Int} {j : Nat} (h : j < us.length) : (us ++ [y]).getD j 0 = us.getD j 0 := by
  rw [List.getD_eq_getElem?_getD, List.getD_eq_getElem?_getD, List.getElem?_append_left h]
theorem getD_last {us : List Int} {y : Int} : (us ++ [y]).getD us.length 0 = y := by
  rw [List.getD_eq_getElem?_getD, List.getElem?_append_right (Nat.le_refl _)]; simp
theorem topU_ap {us : List Int} {y : Int} {j : Nat} (h : j ≤ us.length) : topU (us ++ [y]) j = topU us j := by
  unfold topU
  split
  · rfl
  · exact getD_ap (by omega)
theorem Bd.top {st : AS} {nd : Int → Nd} {us : List Int} {L : List Vn} {k : Nat} (h : Bd st nd us L k) : hR (topU us k) := by
  unfold topU
  split
  · exact ⟨Int.le_refl _, by decide⟩
  · exact (h.rg _ (getD_in (by rw [h.len]; omega))).1
theorem Bd.snoc {st st' : AS} {nd : Int → Nd} {us : List Int} {L : List Vn} {k : Nat} {y : Int} (h : Bd st nd us L k) (hy : hR y) (hn : y ∉ us) (h0 : y ≠ 0) (his : ∀ x, hR x → isA st' x = (isA st x || decide (x = y))) : Bd st' (setN nd y (L.getD k vn0, topU us k)) (us ++ [y]) L (k + 1) := by
  refine ⟨by rw [List.length_append, h.len]; rfl, ?_, fun x hx => ?_, fun x hx => ?_, fun j hj => ?_⟩
  · rw [List.nodup_append]
    exact ⟨h.nod, by simp, fun a ha b hb => by
      rw [List.mem_singleton] at hb
      subst hb
      exact fun e => hn (e ▸ ha)⟩
  · rcases List.mem_append.1 hx with q | q
    · exact h.rg x q
    · rw [List.mem_singleton.1 q]; exact ⟨hy, h0⟩
  · rw [his x hx, h.is x hx]
    by_cases e1 : x ∈ us
    · simp [e1]
    · simp [e1]
  · unfold setN
    by_cases e : j = k
    · subst e
      have e2 : (us ++ [y]).getD j 0 = y := by rw [← h.len]; exact getD_last
      rw [e2, if_pos rfl, topU_ap (by rw [h.len]; exact Nat.le_refl _)]
    · have hj2 : j < us.length := by rw [h.len]; omega
      rw [getD_ap hj2, if_neg (fun q => hn (by rw [← q]; exact getD_in hj2)), h.nd j (by omega), topU_ap (by omega)]
def BdOk (cf : Conf) (n : Nat) (L : List Vn) (w : World) (e : Ending) (w' : World) : Prop := ∃ q a m st S nd us vU, e = .returned (.tuple #[.pointer (some ⟨q, 0, none⟩), vU, .bool true]) ∧ cf.vl = ((m : Nat) : Int) ∧ n ≤ 300 ∧ Ow hv w' w.heap.size 24 vU us.length us ∧ CX w' w.heap.size q cf a m st S nd us n ∧ Bd st nd us L n ∧ Below w.heap.size w w'
def BdEnd (cf : Conf) (n : Nat) (L : List Vn) (w : World) (e : Ending) (w' : World) : Prop := (e = .returned (.tuple #[.pointer none, .slice none 0 0, .bool false]) ∧ Below w.heap.size w w') ∨ BdOk cf n L w e w'
set_option maxRecDepth 100000 in
set_option maxHeartbeats 8000000 in
theorem build_any (cf : Conf) (A : Option Addr) (n c : Nat) (L : List Vn) (w : World) (hS : RSl vec 4 w A n L) (hz : ∀ v ∈ L, v.2.2.2.size ≤ maxLen ∧ v.1 ≤ 9223372036854775807) (hn : n ≤ maxLen) (hL : LgS n L) : Calls Try.prog 21 #[cf.val, .slice A n c] w (BdEnd cf n L w) := by
  show Calls Try.prog 21 #[.agg #[.int .i64 cf.ta, .int .i64 cf.ac, .int .i64 cf.ke, .int .i64 cf.de, .int .i64 cf.ts, .int .i64 cf.kl, .int .i64 cf.vl, .int .i64 cf.fa], .slice A n c] w _
  have HS := Lib.hid hS
  have HZ := Lib.hid hz
  have HLN : Hid (L.length = n) := hS.1
  obtain ⟨K0, hK0, hcs, hsm⟩ := hL
  have HCS := Lib.hid hcs
  have HSM := Lib.hid hsm
  unfold maxLen at hn
  have hb0 : Below w.heap.size w (w.alloc (.cells #[.int .i64 cf.ta, .int .i64 cf.ac, .int .i64 cf.ke, .int .i64 cf.de, .int .i64 cf.ts, .int .i64 cf.kl, .int .i64 cf.vl, .int .i64 cf.fa] 43)) := (Below.refl _ _).alloc (Nat.le_refl _) _
  have HB0 := Lib.hid hb0
  have HV : Hid (∀ W, Calls Try.prog 19 #[.agg #[.int .i64 cf.ta, .int .i64 cf.ac, .int .i64 cf.ke, .int .i64 cf.de, .int .i64 cf.ts, .int .i64 cf.kl, .int .i64 cf.vl, .int .i64 cf.fa]] W fun e w' => (mayB cf = false ∧ e = .returned (.tuple #[.pointer none, .int .i64 1]) ∧ Below W.heap.size W w') ∨ (∃ m q a S, cf.vl = ((m : Nat) : Int) ∧ e = .returned (.tuple #[.pointer (some ⟨q, 0, none⟩), .int .i64 0]) ∧ CX w' W.heap.size q cf a m (0, [], []) S (fun _ => nd0) [] 0 ∧ Below W.heap.size W w')) := fun W => by
    cases hm : mayB cf with
    | false => exact (chnew_no cf W hm).mono (fun e w' h => .inl ⟨rfl, h⟩)
    | true =>
      have h0 : 0 ≤ cf.vl := by
        have h1 := hm
        unfold mayB at h1
        rw [List.all_eq_true] at h1
        have h2 := h1 6 (by simp)
        rw [decide_eq_true_eq] at h2
        exact h2.1
      exact (xnew cf cf.vl.toNat W hm (by omega) (fun _ => nd0)).mono (fun e w' h => .inr (by
        obtain ⟨q, a, S, h1, h2, h3⟩ := h
        exact ⟨_, q, a, S, by omega, h1, h2, h3⟩))
  clear hS hz hcs hsm hb0
  go_enter Try.func21, Try.ntmps21
  go_wp2_with fail
  refine (HV.out _).mono ?_
  clear HV
  rintro e w1 (⟨_, rfl, hb⟩ | ⟨m, q, a, S0, hm, rfl, hx, hb⟩)
  · have HB1 := Lib.hid (stepB HB0.out hb)
    clear hb HB0
    go_wp2
    go_ret3
    exact .inl ⟨rfl, HB1.out⟩
  have HM := Lib.hid hm
  have HB1 := Lib.hid (stepB HB0.out hb)
  have HX1 := Lib.hid (CX.base hx HB0.out.size)
  clear hm hx hb HB0
  go_wp2
  go_loopw [9, 10, 11] (fun al tp i W => ∃ (k : Nat) (st : AS) (S : Nat → Prop) (nd : Int → Nd) (us : List Int) (vU : Value), k ≤ n ∧ k ≤ K0 ∧ i = .int .i64 k ∧ vU = al ∧ tp = .int .u64 (topU us k) ∧ Ow hv W w.heap.size 24 vU us.length us ∧ CX W w.heap.size q cf a m st S nd us k ∧ Bd st nd us L k ∧ Below w.heap.size w W) (fun _ _ i _ => n - (intOf i).toNat)
  case atStart => exact ⟨0, _, S0, _, [], _, Nat.zero_le _, Nat.zero_le _, rfl, rfl, rfl, Ow.none _ _ _, HX1.out, Bd.nil _ _, HB1.out⟩
  case round =>
    obtain ⟨k, st, S, nd, us, vU, hk, hk0, rfl, rfl, rfl, ho, hx, hbd, hb⟩ := hrel
    have HO := Lib.hid ho
    have HX := Lib.hid hx
    have HD := Lib.hid hbd
    have HB := Lib.hid hb
    have HU := Lib.hid hbd.len
    clear ho hx hbd hb HX1 HB1
    by_cases hlt : k < n
    · have d2 : decide ((k : Int) < (n : Int)) = true := decide_eq_true (by omega)
      have w3 : IntKind.i64.wrap ((k : Int) + 1) = (k : Int) + 1 := IntWalk.i64_in _ (by omega)
      obtain ⟨g, off, rfl, hg, a0, a1, a2, a3⟩ := rsl_at (HS.out.later HB.out) hlt
      have hx1 := index_run g off n c k (k : Int) rfl hlt
      have hmem : L.getD k vn0 ∈ L := by
        have h1 : k < L.length := by rw [HLN.out]; exact hlt
        rw [List.getD_eq_getElem?_getD, List.getElem?_eq_getElem h1]
        exact List.getElem_mem h1
      have hzv := HZ.out _ hmem
      have HTP := Lib.hid HD.out.top
      obtain ⟨tp, htp⟩ : ∃ tp, topU us k = tp := ⟨_, rfl⟩
      rw [htp] at HTP
      rw [htp]
      have HTE := Lib.hid htp
      obtain ⟨v, hv_⟩ : ∃ v, L.getD k vn0 = v := ⟨_, rfl⟩
      rw [hv_] at a0 a1 a2 a3 hzv
      have HVE := Lib.hid hv_
      obtain ⟨wr2, t, b, v⟩ := v
      simp only at a0 a1 a2 a3 hzv
      have HZV := Lib.hid hzv
      clear hmem hzv hv_ htp hg
      cases hmay : mayV m (wr2, t, b, v) with
      | false =>
        have HMK := Lib.hid (chmake_no w.heap.size q cf a m st S wr HX.out.cr wr2 t b v tp HZV.out.1 hmay)
        clear hmay
        go_wp2_with fail
        refine HMK.out.mono ?_
        rintro e w2 ⟨rfl, hb⟩
        have HB2 := Lib.hid (stepB HB.out hb)
        clear hb HMK
        go_wp2
        go_ret3
        exact .inl ⟨rfl, HB2.out⟩
      | true =>
        have hkk : k < K0 := by
          rcases Nat.lt_or_ge k K0 with q1 | q1
          · exact q1
          · obtain rfl : k = K0 := by omega
            rcases HCS.out with q2 | ⟨_, q2⟩
            · omega
            · rw [HVE.out] at q2
              have h5 := mayV_VN hmay HZV.out.2 HTP.out
              have h6 := h5.2.2.1
              have h7 := HX.out.cr.m256
              simp only at h6 q2
              omega
        have HMK := Lib.hid (xmake w.heap.size q cf a m st S nd us k wr HX.out wr2 t b v tp HZV.out.1 hmay HZV.out.2 HTP.out (by omega))
        clear hmay
        go_wp2_with fail
        refine HMK.out.mono ?_
        rintro e w2 ⟨y, ⟨hy1, hy2, _, hy4⟩, rfl, st2, S2, hx2, his, hs2, hf⟩
        have HD2 : Hid (Bd st2 (setN nd y ((wr2, t, b, v), tp)) (us ++ [y]) L (k + 1)) := by
          have h := HD.out.snoc hy1 hy2 hy4 his
          rw [HVE.out, HTE.out] at h
          exact h
        have HX2 := Lib.hid hx2
        have HO2 := Lib.hid (HX.out.cr.ar.ow hf HO.out (by decide))
        have HB2 : Hid (Below w.heap.size w w2) := HX.out.cr.ar.frBelow hf HB.out (Nat.le_refl _) HB.out.size
        have HT2 : Hid (y = topU (us ++ [y]) (k + 1)) := by
          show _ = _
          unfold topU
          rw [if_neg (by omega), Nat.add_sub_cancel, ← HD.out.len, getD_last]
        clear hx2 his hs2 hf hy1 hy2 hy4 HMK HO HB HX HD
        obtain ⟨AV, cV, hv1, _⟩ := Ow.sl HO2.out
        subst hv1
        have hbx : Below w2.heap.size w2 (w2.alloc (.cells #[.int .u64 y] 24)) := (Below.refl _ _).alloc (Nat.le_refl _) _
        have HY6 : Hid (Sl hv (w2.alloc (.cells #[.int .u64 y] 24)) (some ⟨w2.heap.size, 0, none⟩) 1 1 [y]) := Blk.sl (enc := hv) (xs := [y]) (Blk.new w2 #[.int .u64 y] 24)
        have HX6 := Lib.hid (HX2.out.later hbx)
        have HO6 := Lib.hid (Ow.later HO2.out hbx)
        have HB6 := Lib.hid (stepB HB2.out hbx)
        clear hbx
        go_wp2_with (first
          | (at_builtin; refine wpList_append_sl elemH rfl (.tmp 39) (.tmp 41) rfl w.heap.size (.slice AV us.length cV) us.length us rfl HO6.out (some ⟨w2.heap.size, 0, none⟩) 1 1 [y] rfl HY6.out (by have := HU.out; omega) (by decide) HB6.out.size ?_; intro vn7 w7 ho7)
          | fail)
        intro hg7
        have HX7 : Hid (CX w7 w.heap.size q cf a m st2 S2 (setN nd y ((wr2, t, b, v), tp)) (us ++ [y]) (k + 1)) := ⟨⟨HX6.out.cr.hq, HX6.out.cr.blk.grown hg7 (fun e => by
          obtain ⟨cur, hc⟩ := Ow.tag HO6.out _ e.symm
          exact absurd (blk_t HX6.out.cr.blk hc) (by decide)), HX6.out.cr.ar.grown HO6.out ⟨by decide, by decide, by decide⟩ hg7, HX6.out.cr.vl, HX6.out.cr.may⟩, HX6.out.ci, HX6.out.pg⟩
        have HB7 := Lib.hid (ow_below HO6.out HB6.out HB6.out.size hg7)
        have HO7 := Lib.hid ho7
        clear ho7 hg7 HY6 HX6 HO6 HB6 HX2 HO2 HB2
        go_wp2
        go_roundw
        case rel => exact ⟨k + 1, st2, S2, _, us ++ [y], vn7, by omega, by omega, by go_num, rfl, by rw [← HT2.out], by rw [List.length_append]; exact HO7.out, HX7.out, HD2.out, HB7.out⟩
        case measure => simp [intOf]; omega
    · obtain rfl : k = n := by omega
      have d1 : decide ((k : Int) < (k : Int)) = false := decide_eq_false (by omega)
      go_wp2
      go_ret3
      exact .inr ⟨q, a, m, st, S, nd, us, _, rfl, HM.out, by omega, HO.out, HX.out, HD.out, HB.out⟩
end Go.Proofs.Ytbncpfkoeahhpaa
