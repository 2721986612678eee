/- CallTxs: its walk. -/
import Derived.Test.YtkgdmdcnhbaidaaDoorOD
import Derived.Test.YtkgdmdcnhbaidaaDoorX
import Derived.Test.YtkgdmdcnhbaidaaDoorWK
namespace Go.Proofs.YtkgdmdcnhbaidaaDoor
open Go.ChangeShapes Go.WideShapes Go.ChangeAt Go.RowKit
set_option linter.unusedVariables false
set_option linter.unusedSimpArgs false

theorem elemM : RElem nmc 1 Tryd.prog 55 3 8 where
  und := Tryd.underlying55
  info := by
    have h : (Tryd.prog.info? 3).map (fun i => (i.zero, i.size, i.bytes)) = some (some (.int .i64 0), 1, 8) := by kernel_rfl
    cases hi : Tryd.prog.info? 3 with
    | none => rw [hi] at h; cases h
    | some i => rw [hi] at h; simp only [Option.map_some, Option.some.injEq, Prod.mk.injEq] at h; exact ⟨i, _, rfl, h.1, h.2.1, h.2.2, rfl⟩
  pos := by decide
  len := nmc_len
  one := fun x u hu => by simp [nmc] at hu; subst hu; rfl
def inc (x : Int) : Int := wrap64 (x + 1)
def Ap (v v2 : Value) : Prop := ∀ j, v.ownBlock = some j → v2.ownBlock ≠ some j
theorem TxAt.nq {W : World} {B p q : Nat} {v u : Value} {L : List Int} (h : TxAt W B p v L) (hb : Blk W q #[u] 63) : v.ownBlock ≠ some q := fun e => by
  obtain ⟨c, hc⟩ := Ow.tag h.row q e
  unfold Blk at hb
  rw [hc] at hb
  cases hb
/-- two lists that lie apart, the first one's block below the second one's base -/
structure Two (W : World) (B B2 p p2 : Nat) (v v2 : Value) (L L2 : List Int) : Prop where
  t : TxAt W B p v L
  c : TxAt W B2 p2 v2 L2
  ap : Ap v v2
  lt : p < B2
  le : B ≤ B2
section
variable {w W W' : World} {B B2 p p2 : Nat} {v v2 v' : Value} {L L2 L' : List Int}
theorem Two.later (h : Two W B B2 p p2 v v2 L L2) (hb : Below W.heap.size W W') : Two W' B B2 p p2 v v2 L L2 := ⟨h.t.later hb, h.c.later hb, h.ap, h.lt, h.le⟩
theorem Two.addc (h : Two W B B2 p p2 v v2 L L2) (ht : TxAt W' B2 p2 v' L') (hf : FrX W W' p2 v2.ownBlock) (hn : Nw W v2 v') : Two W' B B2 p p2 v v' L L' := by
  have h1 := h.lt
  have h2 := h.c.hp
  refine ⟨h.t.fr hf (by omega) (fun e => by have := (Ow.lt h.c.row _ e).1; omega) (h.t.nq h.c.blk) h.ap, ht, fun j hj e => ?_, h1, h.le⟩
  rcases hn j e with e2 | e2
  · exact h.ap j hj e2
  · have := (Ow.lt h.t.row j hj).2; omega
theorem Two.addt (h : Two W B B2 p p2 v v2 L L2) (ht : TxAt W' B p v' L') (hf : FrX W W' p v.ownBlock) (hn : Nw W v v') : Two W' B B2 p p2 v' v2 L' L2 := by
  have h1 := h.lt
  have h2 := h.c.hp
  refine ⟨ht, h.c.fr hf (by omega) (h.t.nq h.c.blk) (fun e => by have := (Ow.lt h.c.row _ e).1; omega) (fun j hj e => h.ap j e hj), fun j hj e => ?_, h1, h.le⟩
  rcases hn j hj with e2 | e2
  · exact h.ap j e2 e
  · have := (Ow.lt h.c.row j e).2; omega
theorem Two.bc (h : Two W B B2 p p2 v v2 L L2) (hf : FrX W W' p2 v2.ownBlock) (hb : Below B w W) (hB : B ≤ W.heap.size) : Below B w W' :=
  hf.below hb hB (by have := h.c.hp; have := h.le; omega) (fun j e => by have := (Ow.lt h.c.row j e).1; have := h.le; omega)
theorem Two.bt (h : Two W B B2 p p2 v v2 L L2) (hf : FrX W W' p v.ownBlock) (hb : Below B w W) (hB : B ≤ W.heap.size) : Below B w W' :=
  hf.below hb hB h.t.hp (fun j e => (Ow.lt h.t.row j e).1)
end
theorem ofX_in {L : List Int} {k : Nat} {x : Int} (h : L[k]? = some x) : ofX L ((k : Int) + 1) = (x, true) := by
  have hk := (List.getElem?_eq_some_iff.1 h).1
  unfold ofX
  rw [if_pos (by omega)]
  congr 1
  rw [show ((k : Int) + 1 - 1).toNat = k by omega, List.getD_eq_getElem?_getD, h]; rfl
set_option maxRecDepth 100000 in
set_option maxHeartbeats 16000000 in
theorem txs_walk (A : Option Addr) (n c : Nat) (L : List Int) (A2 : Option Addr) (n2 c2 : Nat) (M : List Int) (x : Int) (W : World) (hA : RSl nmc 1 W A n L ∧ n ≤ maxLen ∧ (A = none → n = 0 ∧ c = 0)) (hL : ∀ r ∈ L, inI r) (hA2 : RSl nmc 1 W A2 n2 M ∧ n2 ≤ maxLen ∧ (A2 = none → n2 = 0 ∧ c2 = 0)) (hM : ∀ r ∈ M, inI r) (hx : inI x) (hg : Gl W) :
    Calls Tryd.prog 9 #[.slice A n c, .slice A2 n2 c2, .int .i64 x] W fun e w' => e = .returned (.bool true) ∧ Below W.heap.size W w' := by
  have HR := Lib.hid hA.1
  have HR2 := Lib.hid hA2.1
  have HNIL := Lib.hid hA.2.2
  have HNIL2 := Lib.hid hA2.2.2
  have HLN : Hid (L.length = n) := Lib.hid hA.1.1
  have HLN2 : Hid (M.length = n2) := Lib.hid hA2.1.1
  have HXI := Lib.hid hx
  have HG := Lib.hid hg
  have HB : Hid (Below W.heap.size W W) := Lib.hid (Below.refl _ _)
  clear hA hA2 hL hM hx hg
  go_enter Tryd.func9, Tryd.ntmps9
  have HCL_ := Lib.hid (works_any W HG.out)
  go_wp2_with fail
  refine HCL_.out.mono ?_
  rintro e w3 ⟨rfl, hb⟩
  replace HG := Lib.hid (HG.out.later hb)
  replace HB := Lib.hid (stepB HB.out hb)
  clear hb HCL_
  by_cases h1 : 300 < n
  · have d1 : decide (300 < (n : Int)) = true := decide_eq_true (by omega)
    clear h1
    go_wp2_with fail
    refine (works_any w3 HG.out).mono ?_
    rintro e w4 ⟨rfl, hb⟩
    replace HB := Lib.hid (stepB HB.out hb)
    clear hb
    go_wp2
    go_ret
    exact ⟨rfl, HB.out⟩
  · have d1 : decide (300 < (n : Int)) = false := decide_eq_false (by omega)
    have HN : Hid (n ≤ 300) := Lib.hid (by omega)
    clear h1
    by_cases h2 : 300 < n2
    · have d2 : decide (300 < (n2 : Int)) = true := decide_eq_true (by omega)
      clear h2
      go_wp2_with fail
      refine (works_any w3 HG.out).mono ?_
      rintro e w4 ⟨rfl, hb⟩
      replace HB := Lib.hid (stepB HB.out hb)
      clear hb
      go_wp2
      go_ret
      exact ⟨rfl, HB.out⟩
    · have d2 : decide (300 < (n2 : Int)) = false := decide_eq_false (by omega)
      have HN2 : Hid (n2 ≤ 300) := Lib.hid (by omega)
      clear h2
      go_wp2_with fail
      refine (add_nil 1 w3).mono ?_
      rintro e w4 ⟨rfl, rfl⟩
      go_wp2_with fail
      refine (of_nil 1 w4).mono ?_
      rintro e w5 ⟨rfl, rfl⟩
      go_wp2_with fail
      refine (len_nil w5).mono ?_
      rintro e w6 ⟨rfl, rfl⟩
      go_wp2_with fail
      refine (copy_nil w6).mono ?_
      rintro e w7 ⟨rfl, rfl⟩
      have hbt : Tryd.prog.built 63 [] = some #[.slice none 0 0] := by kernel_rfl
      go_upto_block 0 with (fail)
      clear hbt d1 d2
      have hby : Below w7.heap.size w7 (w7.alloc (.cells #[.slice none 0 0] 63)) := (Below.refl _ _).alloc (Nat.le_refl _) _
      have HT : Hid (TxAt (w7.alloc (.cells #[.slice none 0 0] 63)) W.heap.size w7.heap.size (.slice none 0 0) []) := Lib.hid ⟨HB.out.size, Blk.new _ _ _, Ow.none _ _ _⟩
      replace HG := Lib.hid (HG.out.later hby)
      replace HB := Lib.hid (stepB HB.out hby)
      clear hby
      generalize w7.alloc (.cells #[.slice none 0 0] 63) = w8 at *
      obtain ⟨p, hp⟩ : ∃ x, w7.heap.size = x := ⟨_, rfl⟩
      rw [hp] at HT
      try rw [hp]
      clear hp
      go_wp2
      go_loopw [11] (fun i wr => ∃ (k : Nat) (v : Value), k ≤ n ∧ i = .int .i64 k ∧ TxAt wr W.heap.size p v (L.take k) ∧ Below W.heap.size W wr) (fun i _ => n - (intOf i).toNat)
      case atStart => exact ⟨0, _, Nat.zero_le _, rfl, HT.out, HB.out⟩
      case round =>
        obtain ⟨k, v, hk, rfl, ht, hb⟩ := hrel
        have HT1 := Lib.hid ht
        have HB1 := Lib.hid hb
        clear ht hb
        by_cases hlt : k < n
        · have d2 : decide ((k : Int) < (n : Int)) = true := decide_eq_true (by omega)
          have wk : IntKind.i64.wrap ((k : Int) + 1) = (k : Int) + 1 := IntWalk.i64_in _ (by have := HN.out; omega)
          obtain ⟨g, off, hAA, hgl, hc⟩ := (HR.out.later HB1.out).2 (by omega)
          subst hAA
          have i1 := idx55 g off n c k (k : Int) rfl hlt
          have hrk : L[k]? = some (L[k]'(by rw [HLN.out]; exact hlt)) := List.getElem?_eq_getElem _
          generalize L[k]'(by rw [HLN.out]; exact hlt) = y at *
          have y0 : wr.cell? ⟨g, off + k, none⟩ = some (.int .i64 y) := by
            have h := hc k y hrk 0 (by decide)
            rw [Nat.mul_one, Nat.add_zero] at h
            exact h
          have HTK : Hid (L.take (k + 1) = L.take k ++ [y]) := Lib.hid (by rw [List.take_add_one, hrk]; rfl)
          have HAD := Lib.hid (add_any p W.heap.size v (L.take k) y wr HT1.out HB1.out.size (by rw [List.length_take]; have := HN.out; omega))
          clear hc hgl hrk
          go_wp2_with fail
          refine HAD.out.mono ?_
          rintro e w9 ⟨rfl, v', ht, hf, hn⟩
          have HT2 := Lib.hid ht
          have HB2 := Lib.hid (hf.below HB1.out HB1.out.size HT1.out.hp (fun j e => (Ow.lt HT1.out.row j e).1))
          clear ht hf hn HAD y0
          go_wp2
          go_roundw
          case rel => exact ⟨k + 1, v', by omega, by go_num, by rw [HTK.out]; exact HT2.out, HB2.out⟩
          case measure => simp [intOf]; omega
        · obtain rfl : n = k := by omega
          have d2 : decide ((n : Int) < (n : Int)) = false := decide_eq_false (by omega)
          have HTL : Hid (L.take n = L) := List.take_of_length_le (by rw [HLN.out]; exact Nat.le_refl _)
          have HTW : Hid (TxAt wr W.heap.size p v L) := Lib.hid (by have h := HT1.out; rw [HTL.out] at h; exact h)
          have HCP := Lib.hid (copy_any p W.heap.size v L wr HTW.out (by rw [HLN.out]; have := HN.out; omega))
          clear HT HT1 HTL HB
          go_wp2_with fail
          refine HCP.out.mono ?_
          rintro e w10 ⟨p2, v2, rfl, ht, hb⟩
          obtain ⟨B2, hB2⟩ : ∃ x, wr.heap.size = x := ⟨_, rfl⟩
          have HTWO : Hid (Two w10 W.heap.size B2 p p2 v v2 L L) := Lib.hid ⟨HTW.out.later hb, hB2 ▸ ht, fun j hj e => by
            have h1 := (Ow.lt HTW.out.row j hj).2
            have h2 := (Ow.lt ht.row j e).1
            omega, by rw [← hB2]; exact HTW.out.blk.lt, by rw [← hB2]; exact HB1.out.size⟩
          have HB := Lib.hid (stepB HB1.out hb)
          clear ht hb hB2 HCP HTW HB1 d2
          go_wp2
          go_loopw [13] (fun i wr => ∃ (j : Nat) (v v2 : Value), j ≤ n2 ∧ i = .int .i64 j ∧ Two wr W.heap.size B2 p p2 v v2 (L ++ (M.take j).map inc) (L ++ M.take j) ∧ Below W.heap.size W wr) (fun i _ => n2 - (intOf i).toNat)
          case atStart => exact ⟨0, _, _, Nat.zero_le _, rfl, by simpa using HTWO.out, HB.out⟩
          case round =>
            obtain ⟨j, v, v2, hj, rfl, ht, hb⟩ := hrel
            have HT1 := Lib.hid ht
            have HB1 := Lib.hid hb
            clear ht hb
            by_cases hlt : j < n2
            · have d2 : decide ((j : Int) < (n2 : Int)) = true := decide_eq_true (by omega)
              have wk : IntKind.i64.wrap ((j : Int) + 1) = (j : Int) + 1 := IntWalk.i64_in _ (by have := HN2.out; omega)
              obtain ⟨g, off, hAA, hgl, hc⟩ := (HR2.out.later HB1.out).2 (by omega)
              subst hAA
              have i1 := idx55 g off n2 c2 j (j : Int) rfl hlt
              have hrk : M[j]? = some (M[j]'(by rw [HLN2.out]; exact hlt)) := List.getElem?_eq_getElem _
              generalize M[j]'(by rw [HLN2.out]; exact hlt) = y at *
              have Y0 : Hid (∀ V, Below W.heap.size W V → V.cell? ⟨g, off + j, none⟩ = some (.int .i64 y)) := Lib.hid (fun V hV => by
                obtain ⟨g', off', h1, h2, h3⟩ := (HR2.out.later hV).2 (by omega)
                cases h1
                have h := h3 j y hrk 0 (by decide)
                rw [Nat.mul_one, Nat.add_zero] at h
                exact h)
              have HTK : Hid (M.take (j + 1) = M.take j ++ [y]) := Lib.hid (by rw [List.take_add_one, hrk]; rfl)
              have HLZ : Hid ((L ++ M.take j).length ≤ 100000 ∧ (L ++ (M.take j).map inc).length ≤ 100000) := Lib.hid (by
                rw [List.length_append, List.length_append, List.length_map, List.length_take, HLN.out]
                have h1 := HN.out
                have h2 := HN2.out
                omega)
              have y0 := Y0.out wr HB1.out
              have HAD := Lib.hid (add_any p2 B2 v2 (L ++ M.take j) y wr HT1.out.c (by have h1 := HT1.out.c.hp; have h2 := HT1.out.c.blk.lt; omega) HLZ.out.1)
              clear hc hgl hrk
              go_wp2_with fail
              refine HAD.out.mono ?_
              rintro e w11 ⟨rfl, v2', ht, hf, hn⟩
              have HT2 := Lib.hid (HT1.out.addc ht hf hn)
              have HB2 := Lib.hid (HT1.out.bc hf HB1.out HB1.out.size)
              clear ht hf hn HAD y0
              have y0 := Y0.out w11 HB2.out
              have HAD := Lib.hid (add_any p W.heap.size v (L ++ (M.take j).map inc) (wrap64 (y + 1)) w11 HT2.out.t HB2.out.size HLZ.out.2)
              go_wp2_with fail
              refine HAD.out.mono ?_
              rintro e w12 ⟨rfl, v', ht, hf, hn⟩
              have HT3 := Lib.hid (HT2.out.addt ht hf hn)
              have HB3 := Lib.hid (HT2.out.bt hf HB2.out HB2.out.size)
              clear ht hf hn HAD y0
              go_wp2
              go_roundw
              case rel =>
                refine ⟨j + 1, v', v2', by omega, by go_num, ?_, HB3.out⟩
                rw [HTK.out, List.map_append, ← List.append_assoc, ← List.append_assoc]
                exact HT3.out
              case measure => simp [intOf]; omega
            · obtain rfl : n2 = j := by omega
              have d2 : decide ((n2 : Int) < (n2 : Int)) = false := decide_eq_false (by omega)
              have HTL : Hid (M.take n2 = M) := List.take_of_length_le (by rw [HLN2.out]; exact Nat.le_refl _)
              have HTW : Hid (Two wr W.heap.size B2 p p2 v v2 (L ++ M.map inc) (L ++ M)) := Lib.hid (by have h := HT1.out; rw [HTL.out] at h; exact h)
              clear HTWO HT1 HTL HB
              have hby : Below wr.heap.size wr (wr.alloc (.cells #[] 3)) := (Below.refl _ _).alloc (Nat.le_refl _) _
              have HO : Hid (ROwn nmc 1 (wr.alloc (.cells #[] 3)) wr.heap.size 3 (.slice (some ⟨wr.heap.size, 0, none⟩) 0 0) 0 []) := Lib.hid (ROwn.fresh wr 3 (Nat.le_refl _) rfl)
              have HTW2 := Lib.hid (HTW.out.later hby)
              have HB2 := Lib.hid (stepB HB1.out hby)
              have HRl := Lib.hid (HR.out.later HB2.out)
              have HSZ : Hid (wr.heap.size ≤ (wr.alloc (.cells #[] 3)).heap.size) := Lib.hid hby.size
              clear hby
              go_upto_region 19 with (fail)
              refine wp_region_lit ?_
              refine wpList_plain rfl (fun K hK => ?_)
              go_simp
              refine hK _ _ ?_
              clear hK K
              try simp only [Act.put, List.setIfInBounds_toArray, List.set_cons_zero, List.set_cons_succ]
              refine wpList_plain rfl (fun K hK => ?_)
              go_simp
              refine hK _ _ ?_
              clear hK K
              try simp only [Act.put, List.setIfInBounds_toArray, List.set_cons_zero, List.set_cons_succ]
              refine append_row elemM rfl (.tmp 88) (.tmp 89) rfl wr.heap.size (.slice (some ⟨wr.heap.size, 0, none⟩) 0 0) 0 [] rfl HO.out A n c L rfl HRl.out HNIL.out (by have := HN.out; omega) (by decide) HSZ.out ?_
              intro v4 w4_ ho4 hg4
              try simp only [Act.put, List.setIfInBounds_toArray, List.set_cons_zero, List.set_cons_succ]
              have HO4 := Lib.hid ho4
              have HTW4 : Hid (Two w4_ W.heap.size B2 p p2 v v2 (L ++ M.map inc) (L ++ M)) := Lib.hid (HTW.out.later ((((Below.refl _ _).alloc (Nat.le_refl _) (.cells #[] 3)).grown hg4 HSZ.out (fun k e => by cases e; exact Nat.le_refl _))))
              have HB4 : Hid (Below W.heap.size W w4_) := Lib.hid (HB2.out.grown hg4 HB2.out.size (fun k e => by cases e; exact HB1.out.size))
              have HR4 := Lib.hid (HR2.out.later HB4.out)
              have HW4 : Hid (wr.heap.size ≤ w4_.heap.size) := Lib.hid (Nat.le_trans HSZ.out hg4.size)
              have HBW4 : Hid (Below wr.heap.size wr w4_) := Lib.hid (((Below.refl _ _).alloc (Nat.le_refl _) (.cells #[] 3)).grown hg4 HSZ.out (fun k e => by cases e; exact Nat.le_refl _))
              clear ho4 hg4
              refine wpList_plain rfl (fun K hK => ?_)
              go_simp
              refine hK _ _ ?_
              clear hK K
              try simp only [Act.put, List.setIfInBounds_toArray, List.set_cons_zero, List.set_cons_succ]
              refine append_row elemM rfl (.tmp 90) (.tmp 91) rfl wr.heap.size v4 (0 + n) ([] ++ L) rfl HO4.out A2 n2 c2 M rfl HR4.out HNIL2.out (by have := HN.out; have := HN2.out; omega) (by decide) HW4.out ?_
              intro v5 w5_ ho5 hg5
              try simp only [Act.put, List.setIfInBounds_toArray, List.set_cons_zero, List.set_cons_succ]
              have HBW5 : Hid (Below wr.heap.size wr w5_) := Lib.hid (HBW4.out.grown hg5 HW4.out (fun k e => (HO4.out.lt k e).1))
              have HB5 := Lib.hid (stepB HB1.out HBW5.out)
              have HTW5 := Lib.hid (HTW.out.later HBW5.out)
              obtain ⟨Aq, cq, hvq, _, _⟩ := ho5.sl
              subst hvq
              have HAL := Lib.hid (ho5.rsl nmc_len)
              clear ho5 hg5 HTW HTW2 HB1 HB2 HRl HSZ HTW4 HB4 HR4 HW4 HBW4 HBW5 HO HO4 d2
              obtain ⟨q, hq⟩ : ∃ q, 0 + n + n2 = q := ⟨_, rfl⟩
              have HQ : Hid (q = n + n2) := Lib.hid (by omega)
              rw [hq] at HAL ⊢
              rw [List.nil_append] at HAL
              clear hq
              have HLC : Hid ((L ++ M).length = q) := HAL.out.1
              have HLT : Hid ((L ++ M.map inc).length = q) := Lib.hid (by rw [List.length_append, List.length_map, HLN.out, HLN2.out, HQ.out])
              go_wp2_with fail
              refine (len_any p W.heap.size v (L ++ M.map inc) w5_ HTW5.out.t).mono ?_
              rintro e w13 ⟨rfl, rfl⟩
              rw [HLT.out]
              go_wp2_with fail
              refine (len_any p2 B2 v2 (L ++ M) w13 HTW5.out.c).mono ?_
              rintro e w14 ⟨rfl, rfl⟩
              rw [HLC.out]
              go_wp2
              go_loopw [15] (fun i wr => ∃ (k : Nat), k ≤ q ∧ i = .int .i64 k ∧ w14 = wr) (fun i _ => q - (intOf i).toNat)
              case atStart => exact ⟨0, Nat.zero_le _, rfl, rfl⟩
              case round =>
                obtain ⟨k, hk, rfl, rfl⟩ := hrel
                by_cases hlt : k < q
                · have d2 : decide ((k : Int) < (q : Int)) = true := decide_eq_true (by omega)
                  have wk : IntKind.i64.wrap ((k : Int) + 1) = (k : Int) + 1 := IntWalk.i64_in _ (by have := HN.out; have := HN2.out; have := HQ.out; omega)
                  obtain ⟨g, off, hAA, hgl, hc⟩ := HAL.out.2 (by omega)
                  subst hAA
                  have i1 := idx55 g off q cq k (k : Int) rfl hlt
                  have hrk : (L ++ M)[k]? = some ((L ++ M)[k]'(by rw [HLC.out]; exact hlt)) := List.getElem?_eq_getElem _
                  have hrt : (L ++ M.map inc)[k]? = some ((L ++ M.map inc)[k]'(by rw [HLT.out]; exact hlt)) := List.getElem?_eq_getElem _
                  generalize (L ++ M)[k]'(by rw [HLC.out]; exact hlt) = y at *
                  generalize (L ++ M.map inc)[k]'(by rw [HLT.out]; exact hlt) = z at *
                  have y0 : w14.cell? ⟨g, off + k, none⟩ = some (.int .i64 y) := by
                    have h := hc k y hrk 0 (by decide)
                    rw [Nat.mul_one, Nat.add_zero] at h
                    exact h
                  have HYZ : Hid ((k < n → z = y) ∧ (n ≤ k → z = wrap64 (y + 1))) := Lib.hid (by
                    constructor
                    · intro h
                      rw [List.getElem?_append_left (by rw [HLN.out]; exact h)] at hrk hrt
                      rw [hrk] at hrt
                      exact (Option.some.inj hrt).symm
                    · intro h
                      rw [List.getElem?_append_right (by rw [HLN.out]; exact h)] at hrk hrt
                      rw [List.getElem?_map, hrk] at hrt
                      exact (Option.some.inj hrt).symm)
                  have HO1 := Lib.hid (txof_any p2 B2 v2 (L ++ M) ((k : Int) + 1) w14 HTW5.out.c (by have := HN.out; have := HN2.out; have := HQ.out; omega))
                  have HO2 := Lib.hid (txof_any p W.heap.size v (L ++ M.map inc) ((k : Int) + 1) w14 HTW5.out.t (by have := HN.out; have := HN2.out; have := HQ.out; omega))
                  rw [ofX_in hrk] at HO1
                  rw [ofX_in hrt] at HO2
                  simp only at HO1 HO2
                  clear hc hgl hrk hrt
                  go_wp2_with fail
                  refine HO1.out.mono ?_
                  rintro e w15 ⟨rfl, rfl⟩
                  clear HO1
                  go_wp2_with fail
                  refine HO2.out.mono ?_
                  rintro e w16 ⟨rfl, rfl⟩
                  clear HO2
                  by_cases hkn : k < n
                  · have d3 : decide ((k : Int) < (n : Int)) = true := decide_eq_true (by omega)
                    have d4 : decide ((n : Int) ≤ (k : Int)) = false := decide_eq_false (by omega)
                    have d5 : decide (k < n) = true := decide_eq_true hkn
                    have d6 : decide (n ≤ k) = false := decide_eq_false (by omega)
                    obtain rfl : y = z := (HYZ.out.1 hkn).symm
                    clear HYZ hkn
                    go_wp2
                    go_roundw
                    case rel => exact ⟨k + 1, by omega, by go_num, trivial⟩
                    case measure => simp [intOf]; omega
                  · have d3 : decide ((k : Int) < (n : Int)) = false := decide_eq_false (by omega)
                    have d4 : decide ((n : Int) ≤ (k : Int)) = true := decide_eq_true (by omega)
                    have d5 : decide (k < n) = false := decide_eq_false hkn
                    have d6 : decide (n ≤ k) = true := decide_eq_true (by omega)
                    have hz := HYZ.out.2 (by omega)
                    subst hz
                    clear HYZ hkn
                    go_wp2
                    go_roundw
                    case rel => exact ⟨k + 1, by omega, by go_num, trivial⟩
                    case measure => simp [intOf]; omega
                · obtain rfl : q = k := by omega
                  have d2 : decide ((q : Int) < (q : Int)) = false := decide_eq_false (by omega)
                  have HO1 := Lib.hid (txof_any p W.heap.size v (L ++ M.map inc) x w14 HTW5.out.t HXI.out)
                  by_cases hx1 : 1 ≤ x
                  · have d3 : decide (1 ≤ x) = true := decide_eq_true hx1
                    by_cases hx2 : x ≤ (q : Int)
                    · have d4 : decide (x ≤ (q : Int)) = true := decide_eq_true hx2
                      have hof : ofX (L ++ M.map inc) x = ((L ++ M.map inc).getD (x - 1).toNat 0, true) := by unfold ofX; rw [if_pos ⟨hx1, by rw [HLT.out]; exact hx2⟩]
                      rw [hof] at HO1
                      simp only at HO1
                      generalize (L ++ M.map inc).getD (x - 1).toNat 0 = z at HO1
                      clear hof hx1 hx2
                      go_wp2_with fail
                      refine HO1.out.mono ?_
                      rintro e w15 ⟨rfl, rfl⟩
                      clear HO1
                      go_wp2
                      go_ret
                      exact ⟨rfl, HB5.out⟩
                    · have d4 : decide (x ≤ (q : Int)) = false := decide_eq_false hx2
                      have hof : ofX (L ++ M.map inc) x = (0, false) := by unfold ofX; rw [if_neg (fun h => hx2 (by have h2 := h.2; rw [HLT.out] at h2; exact h2))]
                      rw [hof] at HO1
                      simp only at HO1
                      clear hof hx1 hx2
                      go_wp2_with fail
                      refine HO1.out.mono ?_
                      rintro e w15 ⟨rfl, rfl⟩
                      clear HO1
                      go_wp2
                      go_ret
                      exact ⟨rfl, HB5.out⟩
                  · have d3 : decide (1 ≤ x) = false := decide_eq_false hx1
                    have hof : ofX (L ++ M.map inc) x = (0, false) := by unfold ofX; rw [if_neg (fun h => hx1 h.1)]
                    rw [hof] at HO1
                    simp only at HO1
                    clear hof hx1
                    go_wp2_with fail
                    refine HO1.out.mono ?_
                    rintro e w15 ⟨rfl, rfl⟩
                    clear HO1
                    go_wp2
                    go_ret
                    exact ⟨rfl, HB5.out⟩
end Go.Proofs.YtkgdmdcnhbaidaaDoor
