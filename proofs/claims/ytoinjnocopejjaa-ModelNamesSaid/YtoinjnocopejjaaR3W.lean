/- The walk of ModelNames. -/
import Derived.Test.YtoinjnocopejjaaN3
import Derived.Test.YtoinjnocopejjaaNX
import Derived.StillTailTactics
import Derived.Deep.QuietTactic
import Derived.BigQuiet
import Derived.Great.BuildSlice
namespace Go.Proofs.Ytoinjnocopejjaa.modelNames
open Go.ChangeShapes Go.WideShapes Go.ChangeAt Go.RowKit Go.Maps
set_option linter.unusedVariables false
set_option linter.unusedSimpArgs false
set_option maxRecDepth 100000 in
set_option maxHeartbeats 16000000 in
theorem walk (w : World) : Calls Try.prog 3 #[] w fun e w' => e = .returned (.bool true) ∧ Below w.heap.size w w' := by
  have HB : Hid (Below w.heap.size w w) := Lib.hid (Below.refl _ _)
  have hfl := fld1
  go_enter Try.func3, Try.ntmps3
  go_wp2_with fail
  refine (tx_none 0 1 _).mono ?_
  rintro e w0 ⟨rfl, rfl⟩
  go_wp2_with fail
  refine (intent_none { data := #[97] } _).mono ?_
  rintro e w1 ⟨rfl, hb⟩
  replace HB := Lib.hid (stepB HB.out hb)
  clear hb
  replace HB : Hid (Below w.heap.size w (w1.alloc (.cells #[.int .i64 0, .int .i64 0, .bool false, .string { data := #[] }] 26))) := Lib.hid (HB.out.alloc HB.out.size _)
  go_upto_region 4 with (fail)
  generalize w1.alloc (.cells #[.int .i64 0, .int .i64 0, .bool false, .string { data := #[] }] 26) = w2 at *
  go_wp2_with fail
  refine (works_any _).mono ?_
  rintro e w3 ⟨rfl, hb⟩
  replace HB := Lib.hid (stepB HB.out hb)
  clear hb
  go_wp2_with fail
  refine (do_none _).mono ?_
  rintro e w4 ⟨rfl, hb⟩
  replace HB := Lib.hid (stepB HB.out hb)
  clear hb
  go_wp2_with fail
  refine (refused_none _).mono ?_
  rintro e w5 ⟨rfl, hb⟩
  replace HB := Lib.hid (stepB HB.out hb)
  clear hb
  go_wp2_with fail
  refine (versions_none { data := #[97] } _).mono ?_
  rintro e w_ ⟨rfl, rfl⟩
  go_wp2_with fail
  refine (keys_none _).mono ?_
  rintro e w_ ⟨rfl, rfl⟩
  go_wp2_with fail
  refine (retained_none _).mono ?_
  rintro e w_ ⟨rfl, rfl⟩
  go_wp2_with fail
  refine (active_none _).mono ?_
  rintro e w_ ⟨rfl, rfl⟩
  go_wp2_with fail
  refine (clock_none _).mono ?_
  rintro e w_ ⟨rfl, rfl⟩
  go_wp2_with fail
  refine (floor_none _).mono ?_
  rintro e w_ ⟨rfl, rfl⟩
  go_wp2_with fail
  refine (copy_none _).mono ?_
  rintro e w_ ⟨rfl, rfl⟩
  go_wp2_with fail
  refine (small_any _).mono ?_
  rintro e w6 ⟨rfl, hb⟩
  replace HB := Lib.hid (stepB HB.out hb)
  clear hb
  unfold Conf.val
  have HPO : Hid (w.heap.size ≤ w6.heap.size) := Lib.hid HB.out.size
  replace HB : Hid (Below w.heap.size w (w6.alloc (.cells #[.int .i64 cfS.ta, .int .i64 cfS.ac, .int .i64 cfS.ke, .int .i64 cfS.de, .int .i64 cfS.ts, .int .i64 cfS.kl, .int .i64 cfS.vl, .int .i64 cfS.fa] 45))) := Lib.hid (HB.out.alloc HB.out.size _)
  have KO : Hid (Blk (w6.alloc (.cells #[.int .i64 cfS.ta, .int .i64 cfS.ac, .int .i64 cfS.ke, .int .i64 cfS.de, .int .i64 cfS.ts, .int .i64 cfS.kl, .int .i64 cfS.vl, .int .i64 cfS.fa] 45)) w6.heap.size #[.int .i64 2, .int .i64 2, .int .i64 2, .int .i64 2, .int .i64 2, .int .i64 2, .int .i64 2, .int .i64 3] 45) := Lib.hid (Blk.new w6 _ 45)
  go_upto_region 7 with (fail)
  clear hfl
  generalize w6.alloc (.cells #[.int .i64 cfS.ta, .int .i64 cfS.ac, .int .i64 cfS.ke, .int .i64 cfS.de, .int .i64 cfS.ts, .int .i64 cfS.kl, .int .i64 cfS.vl, .int .i64 cfS.fa] 45) = w7 at *
  generalize w6.heap.size = po at *
  have z3 := KO.out.cell 3
  have f3 := KO.out.frozen 3
  simp only [List.getElem?_toArray, List.getElem?_cons_zero, List.getElem?_cons_succ] at z3
  go_upto_region 8 with (fail)
  have KO8 : Hid (Blk (w7.setCell ⟨po, 3, none⟩ (.int .i64 1)) po #[.int .i64 2, .int .i64 2, .int .i64 2, .int .i64 1, .int .i64 2, .int .i64 2, .int .i64 2, .int .i64 3] 45) := Lib.hid (KO.out.set (j := 3) _)
  have HB8 := Lib.hid (HB.out.setCell (p := ⟨po, 3, none⟩) HPO.out (.int .i64 1))
  clear z3 f3 KO HB HPO
  generalize w7.setCell ⟨po, 3, none⟩ (.int .i64 1) = w8 at *
  have z0 := KO8.out.cell 0
  have z1 := KO8.out.cell 1
  have z2 := KO8.out.cell 2
  have z3 := KO8.out.cell 3
  have z4 := KO8.out.cell 4
  have z5 := KO8.out.cell 5
  have z6 := KO8.out.cell 6
  have z7 := KO8.out.cell 7
  simp only [List.getElem?_toArray, List.getElem?_cons_zero, List.getElem?_cons_succ] at z0 z1 z2 z3 z4 z5 z6 z7
  go_wp2_with fail
  refine (new_any ⟨2, 2, 2, 1, 2, 2, 2, 3⟩ _).mono ?_
  rintro e w9 ⟨hb, hnew⟩
  rcases hnew with ⟨hmay, _⟩ | ⟨_, rfl⟩
  · exact absurd hmay (by decide +kernel)
  have HB9 := Lib.hid (stepB HB8.out hb)
  clear hb HB8 KO8 z0 z1 z2 z3 z4 z5 z6 z7
  go_wp2_with fail
  refine (small_any _).mono ?_
  rintro e w10 ⟨rfl, hb⟩
  have HB10 := Lib.hid (stepB HB9.out hb)
  clear hb HB9
  unfold Conf.val
  go_wp2_with fail
  refine (new_any cfS _).mono ?_
  rintro e w11 ⟨hb, hnew⟩
  obtain ⟨p, S0, rfl, hm0⟩ := new_ok ⟨hb, hnew⟩ (show mayB cfS = true by kernel_rfl)
  have HQ : Hid (MQ_ w11 w.heap.size (ownT w10 (fun _ => 0) p) p ns0) := Lib.hid (MQ_.new hm0 HB10.out.size)
  have HB := Lib.hid (stepB HB10.out hb)
  clear hb hnew hm0 HB10
  go_wp2_with fail
  refine (on_c 1 1 rfl 0 { data := #[] } { data := #[] } _).mono ?_
  rintro e w21 ⟨rfl, hb⟩
  replace HB := Lib.hid (stepB HB.out hb)
  replace HQ := Lib.hid (HQ.out.later hb)
  clear hb
  have hdo := mq_do' HQ.out 0 0 0 { data := #[] } { data := #[] } { data := #[] } 1 0 1 0 rfl rfl nl0 (cok_of (x := (1, 0, { data := #[] }, { data := #[] }, { data := #[] }, 0, 0)) (by decide) (by decide) (by decide) (by decide) (by decide) (by decide) (by decide))
  rw [show doM ns0 0 (1, 0, { data := #[] }, { data := #[] }, { data := #[] }, 0, 0) = _ from nd0] at hdo
  go_wp2_with fail
  refine hdo.mono ?_
  clear hdo
  rintro e w22 ⟨A0, c0, rfl, hro, hm, hoth, hkp, hbl⟩
  replace HB := Lib.hid (hbl _ _ HB.out (Nat.le_refl _))
  replace HQ := Lib.hid hm
  clear hro hm hoth hkp hbl
  go_wp2_with fail
  refine (on_c 7 7 rfl 1 { data := #[] } { data := #[] } _).mono ?_
  rintro e w23 ⟨rfl, hb⟩
  replace HB := Lib.hid (stepB HB.out hb)
  replace HQ := Lib.hid (HQ.out.later hb)
  clear hb
  have hdo := mq_do' HQ.out 0 1 0 { data := #[] } { data := #[] } { data := #[] } 7 0 7 0 rfl rfl nl1 (cok_of (x := (7, 1, { data := #[] }, { data := #[] }, { data := #[] }, 0, 0)) (by decide) (by decide) (by decide) (by decide) (by decide) (by decide) (by decide))
  rw [show doM ns1 0 (7, 1, { data := #[] }, { data := #[] }, { data := #[] }, 0, 0) = _ from nd1] at hdo
  go_wp2_with fail
  refine hdo.mono ?_
  clear hdo
  rintro e w24 ⟨A1, c1, rfl, hro, hm, hoth, hkp, hbl⟩
  replace HB := Lib.hid (hbl _ _ HB.out (Nat.le_refl _))
  replace HQ := Lib.hid hm
  clear hro hm hoth hkp hbl
  go_wp2_with fail
  refine (on_c 1 1 rfl 0 { data := #[] } { data := #[] } _).mono ?_
  rintro e w25 ⟨rfl, hb⟩
  replace HB := Lib.hid (stepB HB.out hb)
  replace HQ := Lib.hid (HQ.out.later hb)
  clear hb
  have hdo := mq_do' HQ.out 0 0 0 { data := #[] } { data := #[] } { data := #[] } 1 0 1 0 rfl rfl nl2 (cok_of (x := (1, 0, { data := #[] }, { data := #[] }, { data := #[] }, 0, 0)) (by decide) (by decide) (by decide) (by decide) (by decide) (by decide) (by decide))
  rw [show doM ns2 0 (1, 0, { data := #[] }, { data := #[] }, { data := #[] }, 0, 0) = _ from nd2] at hdo
  go_wp2_with fail
  refine hdo.mono ?_
  clear hdo
  rintro e w26 ⟨A2, c2, rfl, hro, hm, hoth, hkp, hbl⟩
  replace HB := Lib.hid (hbl _ _ HB.out (Nat.le_refl _))
  replace HQ := Lib.hid hm
  clear hro hm hoth hkp hbl
  obtain ⟨own, hown⟩ : ∃ own, ownT w25 (ownT w23 (ownT w21 (ownT w10 (fun _ => 0) p) p) p) p = own := ⟨_, rfl⟩
  rw [hown] at HQ
  clear hown
  have mk := mk3 w26
  have cv := cv3 (Blk.new w26 #[.int .u8 0, .int .u8 0, .int .u8 0] 5)
  have hb : Below w26.heap.size w26 (w26.alloc (.cells #[.int .u8 0, .int .u8 0, .int .u8 0] 5)) := (Below.refl _ _).alloc (Nat.le_refl _) _
  replace HB := Lib.hid (stepB HB.out hb)
  replace HQ := Lib.hid (HQ.out.later hb)
  clear hb
  go_upto_region 16 with (fail)
  clear mk cv
  generalize w26.alloc (.cells #[.int .u8 0, .int .u8 0, .int .u8 0] 5) = w27 at *
  go_wp2_with fail
  refine (on_c 1 1 rfl 0 { data := #[] } { data := #[] } _).mono ?_
  rintro e w31 ⟨rfl, hb⟩
  replace HB := Lib.hid (stepB HB.out hb)
  replace HQ := Lib.hid (HQ.out.later hb)
  clear hb
  go_wp2_with fail
  refine (on_c 1 1 rfl 0 { data := #[] } { data := #[] } _).mono ?_
  rintro e w32 ⟨rfl, hb⟩
  replace HB := Lib.hid (stepB HB.out hb)
  replace HQ := Lib.hid (HQ.out.later hb)
  clear hb
  go_wp2_with fail
  refine (on_c 2 2 rfl 0 { data := #[97] } { data := #[] } _).mono ?_
  rintro e w33 ⟨rfl, hb⟩
  replace HB := Lib.hid (stepB HB.out hb)
  replace HQ := Lib.hid (HQ.out.later hb)
  clear hb
  go_wp2_with fail
  refine (on_c 2 2 rfl 3 { data := #[97] } { data := #[] } _).mono ?_
  rintro e w34 ⟨rfl, hb⟩
  replace HB := Lib.hid (stepB HB.out hb)
  replace HQ := Lib.hid (HQ.out.later hb)
  clear hb
  go_wp2_with fail
  refine (on_c 2 2 rfl 2 { data := #[97] } { data := #[] } _).mono ?_
  rintro e w35 ⟨rfl, hb⟩
  replace HB := Lib.hid (stepB HB.out hb)
  replace HQ := Lib.hid (HQ.out.later hb)
  clear hb
  go_wp2_with fail
  refine (on_c 2 2 rfl (-1) { data := #[0, 0, 0] } { data := #[] } _).mono ?_
  rintro e w36 ⟨rfl, hb⟩
  replace HB := Lib.hid (stepB HB.out hb)
  replace HQ := Lib.hid (HQ.out.later hb)
  clear hb
  go_wp2_with fail
  refine (on_c 2 2 rfl 1 { data := #[0, 0, 0] } { data := #[] } _).mono ?_
  rintro e w37 ⟨rfl, hb⟩
  replace HB := Lib.hid (stepB HB.out hb)
  replace HQ := Lib.hid (HQ.out.later hb)
  clear hb
  go_wp2_with fail
  refine (on_c 6 6 rfl 1 { data := #[] } { data := #[] } _).mono ?_
  rintro e w38 ⟨rfl, hb⟩
  replace HB := Lib.hid (stepB HB.out hb)
  replace HQ := Lib.hid (HQ.out.later hb)
  clear hb
  go_wp2_with fail
  refine (on_c 2 2 rfl 2 { data := #[] } { data := #[] } _).mono ?_
  rintro e w39 ⟨rfl, hb⟩
  replace HB := Lib.hid (stepB HB.out hb)
  replace HQ := Lib.hid (HQ.out.later hb)
  clear hb
  go_wp2_with fail
  refine (on_c 2 2 rfl 2 { data := #[0, 0, 0] } { data := #[] } _).mono ?_
  rintro e w40 ⟨rfl, hb⟩
  replace HB := Lib.hid (stepB HB.out hb)
  replace HQ := Lib.hid (HQ.out.later hb)
  clear hb
  go_wp2_with fail
  refine (on_c 3 3 rfl 2 { data := #[] } { data := #[97] } _).mono ?_
  rintro e w41 ⟨rfl, hb⟩
  replace HB := Lib.hid (stepB HB.out hb)
  replace HQ := Lib.hid (HQ.out.later hb)
  clear hb
  go_wp2_with fail
  refine (on_c 3 3 rfl 2 { data := #[97] } { data := #[0, 0, 0] } _).mono ?_
  rintro e w42 ⟨rfl, hb⟩
  replace HB := Lib.hid (stepB HB.out hb)
  replace HQ := Lib.hid (HQ.out.later hb)
  clear hb
  go_wp2_with fail
  refine (on_c 4 4 rfl 2 { data := #[0, 0, 0] } { data := #[] } _).mono ?_
  rintro e w43 ⟨rfl, hb⟩
  replace HB := Lib.hid (stepB HB.out hb)
  replace HQ := Lib.hid (HQ.out.later hb)
  clear hb
  go_wp2_with fail
  refine (on_c 4 4 rfl 2 { data := #[97] } { data := #[0, 0, 0] } _).mono ?_
  rintro e w44 ⟨rfl, hb⟩
  replace HB := Lib.hid (stepB HB.out hb)
  replace HQ := Lib.hid (HQ.out.later hb)
  clear hb
  have hb : Below w44.heap.size w44 (w44.alloc (.cells (rv rqE rwL).toArray 51)) := (Below.refl _ _).alloc (Nat.le_refl _) _
  have KR : Hid (Blk (w44.alloc (.cells (rv rqE rwL).toArray 51)) w44.heap.size (rv rqE rwL).toArray 51) := Lib.hid (Blk.new w44 _ 51)
  replace HB := Lib.hid (stepB HB.out hb)
  replace HQ := Lib.hid (HQ.out.later hb)
  clear hb
  go_wp2
  obtain ⟨ie, hie, hz, hsz⟩ := info51
  refine wp_buildSlice 52 51 24 _ rfl (rv rqE rwL).toArray ie _ Try.underlying52 hie hz (by rw [hsz]; decide) (by rw [hsz]; decide) ?_ ?_
  · rw [hsz, Array.toList_map]
    exact fill24
  rename_i hKK
  refine hKK _ _ ?_
  clear hKK hie hz hsz
  generalize w44.alloc (.cells (rv rqE rwL).toArray 51) = wt at *
  generalize w44.heap.size = pr at *
  go_wp2
  have HN3 : Hid (ns3.txns.length ≤ 100000) := Lib.hid (Nat.le_of_ble_eq_true (by kernel_rfl))
  go_loopw [185] (fun s185 W' => ∃ (k : Nat) (own : Nat → Nat), k ≤ 24 ∧ s185 = .int .i64 k ∧ MQ_ W' w.heap.size own p ns3 ∧ Blk W' pr (rv rqE rwL).toArray 51 ∧ Below w.heap.size w W') (fun s185 _ => 24 - (intOf s185).toNat)
  case atStart => exact ⟨0, own, by decide, rfl, HQ.out, KR.out, HB.out⟩
  case round =>
    obtain ⟨k, own, hk, rfl, hq, hr, hb⟩ := hrel
    have HQ := Lib.hid hq
    have KR := Lib.hid hr
    have HB := Lib.hid hb
    clear hq hr hb
    by_cases hlt : k < 24
    · have d2 : decide ((k : Int) < (24 : Int)) = true := decide_eq_true (by omega)
      have d2' : decide (k < 24) = true := decide_eq_true hlt
      have wk : IntKind.i64.wrap ((k : Int) + 1) = (k : Int) + 1 := IntWalk.i64_in _ (by omega)
      have wk2 : wrap64 ((k : Int) + 1) = (k : Int) + 1 := by unfold wrap64; omega
      have hrl : rwL.length = 24 := rfl
      have hrd : rwL[k]? = some (rwL[k]'(by rw [hrl]; exact hlt)) := List.getElem?_eq_getElem _
      generalize rwL[k]'(by rw [hrl]; exact hlt) = r at *
      have hok := rq_all r (List.mem_of_getElem? hrd)
      obtain ⟨g, off, hg, _, hcl⟩ := (rs_of rqE_len KR.out).2 (by rw [hrl]; decide)
      cases hg
      have hcl := hcl k r hrd
      obtain ⟨t, ⟨kn, tx, ke, en, va, li, eg⟩, er⟩ := r
      have HOK := Lib.hid hok
      unfold RqOk at HOK
      simp only at HOK
      have y0 : wr.cell? ⟨pr, k * 9 , none⟩ = some (.int .i64 t) := by have := hcl 0 (by decide); rwa [Nat.zero_add] at this
      have y1 : wr.cell? ⟨pr, k * 9 + 1, none⟩ = some (.int .u8 (kn : Int)) := by have := hcl 1 (by decide); rwa [Nat.zero_add] at this
      have y2 : wr.cell? ⟨pr, k * 9 + 1 + 1, none⟩ = some (.int .i64 tx) := by have := hcl 2 (by decide); rwa [Nat.zero_add] at this
      have y3 : wr.cell? ⟨pr, k * 9 + 1 + 2, none⟩ = some (.string ke) := by have := hcl 3 (by decide); rwa [Nat.zero_add] at this
      have y4 : wr.cell? ⟨pr, k * 9 + 1 + 3, none⟩ = some (.string en) := by have := hcl 4 (by decide); rwa [Nat.zero_add] at this
      have y5 : wr.cell? ⟨pr, k * 9 + 1 + 4, none⟩ = some (.string va) := by have := hcl 5 (by decide); rwa [Nat.zero_add] at this
      have y6 : wr.cell? ⟨pr, k * 9 + 1 + 5, none⟩ = some (.int .i64 li) := by have := hcl 6 (by decide); rwa [Nat.zero_add] at this
      have y7 : wr.cell? ⟨pr, k * 9 + 1 + 6, none⟩ = some (.int .u8 (eg : Int)) := by have := hcl 7 (by decide); rwa [Nat.zero_add] at this
      have y8 : wr.cell? ⟨pr, k * 9 + 8, none⟩ = some (.int .i64 er) := by have := hcl 8 (by decide); rwa [Nat.zero_add] at this
      have i0 : ∀ W, (Instr.indexAt 52 (.slice (some ⟨pr, 0, none⟩) 24 24) (.int .i64 (k : Int))).run Try.prog W = .ok (.pointer (some ⟨pr, k * 9, none⟩)) W := fun W => by
        have := idx52 pr 0 24 24 k (k : Int) rfl hlt W
        rwa [Nat.zero_add] at this
      have hb5 : Below wr.heap.size wr (wr.alloc (.cells #[.int .i64 t, .int .u8 (kn : Int), .int .i64 tx, .string ke, .string en, .string va, .int .i64 li, .int .u8 (eg : Int), .int .i64 er] 51)) := (Below.refl _ _).alloc (Nat.le_refl _) _
      have KB : Hid (Blk (wr.alloc (.cells #[.int .i64 t, .int .u8 (kn : Int), .int .i64 tx, .string ke, .string en, .string va, .int .i64 li, .int .u8 (eg : Int), .int .i64 er] 51)) wr.heap.size #[.int .i64 t, .int .u8 (kn : Int), .int .i64 tx, .string ke, .string en, .string va, .int .i64 li, .int .u8 (eg : Int), .int .i64 er] 51) := Lib.hid (Blk.new wr _ 51)
      replace HB := Lib.hid (stepB HB.out hb5)
      replace HQ := Lib.hid (HQ.out.later hb5)
      replace KR := Lib.hid (KR.out.later hb5)
      have HLT := Lib.hid hlt
      have ee : (er != er) = false := by simp
      clear hb5 hcl hrd hrl hok hlt
      go_upto_region 19 with (fail)
      clear y0 y1 y2 y3 y4 y5 y6 y7 y8 i0
      generalize wr.alloc (.cells #[.int .i64 t, .int .u8 (kn : Int), .int .i64 tx, .string ke, .string en, .string va, .int .i64 li, .int .u8 (eg : Int), .int .i64 er] 51) = w5 at *
      generalize wr.heap.size = bq at *
      refine wp_region_noPanic ?_
      have hbd : Below w5.heap.size w5 (World.drew w5) := Below.drew (Below.refl _ _)
      refine wp_region_held_drew (S := fun W => (∃ own, MQ_ W w.heap.size own p ns3) ∧ Blk W bq #[.int .i64 t, .int .u8 (kn : Int), .int .i64 tx, .string ke, .string en, .string va, .int .i64 li, .int .u8 (eg : Int), .int .i64 er] 51 ∧ Blk W pr (rv rqE rwL).toArray 51 ∧ Below w.heap.size w W) (by kernel_rfl) (⟨⟨_, HQ.out.later hbd⟩, KB.out.later hbd, KR.out.later hbd, stepB HB.out hbd⟩) (fun hHeld => ?_)
      clear hbd HQ KB KR HB
      obtain ⟨Wd, hWd⟩ : ∃ z, World.drew w5 = z := ⟨_, rfl⟩
      rw [hWd] at hHeld ⊢
      clear hWd
      refine tkM 0 ?_ rfl rfl ?_ (fun _ _ _ h => h) (by assumption) (by kernel_rfl) ?_
      rotate_left
      · intro W hSw
        clear hSw
        go_simp
        try with_reducible rfl
      simp only [puM]
      refine tkM 1 ?_ rfl rfl ?_ (fun _ _ _ h => h) (by assumption) (by kernel_rfl) ?_
      rotate_left
      · intro W hSw
        clear hSw
        go_simp
        try with_reducible rfl
      simp only [puM]
      refine tkM 2 ?_ rfl rfl ?_ (fun _ _ _ h => h) (by assumption) (by kernel_rfl) ?_
      rotate_left
      · intro W hSw
        obtain ⟨_, hkb, _, _⟩ := hSw
        have z0 := hkb.cell 0
        have z1 := hkb.cell 1
        have z2 := hkb.cell 2
        have z3 := hkb.cell 3
        have z4 := hkb.cell 4
        have z5 := hkb.cell 5
        have z6 := hkb.cell 6
        have z7 := hkb.cell 7
        have z8 := hkb.cell 8
        simp only [List.getElem?_toArray, List.getElem?_cons_zero, List.getElem?_cons_succ] at z0 z1 z2 z3 z4 z5 z6 z7 z8
        clear hkb
        go_simp
        try with_reducible rfl
      simp only [puM]
      refine tkM 3 ?_ rfl rfl ?_ (fun _ _ _ h => h) (by assumption) (by kernel_rfl) ?_
      rotate_left
      · intro W hSw
        clear hSw
        go_simp
        try with_reducible rfl
      simp only [puM]
      refine tkM 4 ?_ rfl rfl ?_ (fun _ _ _ h => h) (by assumption) (by kernel_rfl) ?_
      rotate_left
      · intro W hSw
        obtain ⟨_, hkb, _, _⟩ := hSw
        have z0 := hkb.cell 0
        have z1 := hkb.cell 1
        have z2 := hkb.cell 2
        have z3 := hkb.cell 3
        have z4 := hkb.cell 4
        have z5 := hkb.cell 5
        have z6 := hkb.cell 6
        have z7 := hkb.cell 7
        have z8 := hkb.cell 8
        simp only [List.getElem?_toArray, List.getElem?_cons_zero, List.getElem?_cons_succ] at z0 z1 z2 z3 z4 z5 z6 z7 z8
        clear hkb
        go_simp
        try with_reducible rfl
      simp only [puM]
      refine tkM 6 ?_ rfl rfl ?_ (fun _ _ _ h => h) (by assumption) (by kernel_rfl) ?_
      rotate_left
      · intro W hSw
        clear hSw
        go_simp
        try with_reducible rfl
      simp only [puM]
      refine tkM 7 ?_ rfl rfl ?_ (fun _ _ _ h => h) (by assumption) (by kernel_rfl) ?_
      rotate_left
      · intro W hSw
        obtain ⟨_, hkb, _, _⟩ := hSw
        have z0 := hkb.cell 0
        have z1 := hkb.cell 1
        have z2 := hkb.cell 2
        have z3 := hkb.cell 3
        have z4 := hkb.cell 4
        have z5 := hkb.cell 5
        have z6 := hkb.cell 6
        have z7 := hkb.cell 7
        have z8 := hkb.cell 8
        simp only [List.getElem?_toArray, List.getElem?_cons_zero, List.getElem?_cons_succ] at z0 z1 z2 z3 z4 z5 z6 z7 z8
        clear hkb
        go_simp
        try with_reducible rfl
      simp only [puM]
      refine wpAnyH_ready (rs := [5]) (by kernel_rfl) (by simp) (AllReadyH.cons (o := { dst := some 194, op := Op.call { callee := Callee.value (Operand.func 19), args := #[Operand.tmp 189, Operand.tmp 191, Operand.tmp 193], argTypes := #[22, 3, 36] }, type := 30, pos := "outright.go:76", after := #[{ on := 0, ground := Ground.data }, { on := 2, ground := Ground.data }, { on := 4, ground := Ground.data }], guard := none }) rfl (fun K hK => ?_) AllReadyH.nil)
      obtain ⟨⟨ow, hq⟩, hkb, hkr, hbb⟩ := hHeld
      have HCL := Lib.hid (mq_refused hq t tx li ke en va kn eg HN3.out HOK.out.2.2)
      rw [HOK.out.1] at HCL
      go_simp
      refine HCL.out.mono ?_
      rintro e Wq1 ⟨rfl, hb⟩
      clear HCL
      refine hK.out _ _ (⟨⟨ow, hq.later hb⟩, hkb.later hb, hkr.later hb, stepB hbb hb⟩) (fun hHeld => ?_)
      clear hK K hq hkb hkr hbb hb
      refine tkM 8 ?_ rfl rfl ?_ (fun _ _ _ h => h) (by assumption) (by kernel_rfl) ?_
      rotate_left
      · intro W hSw
        clear hSw
        go_simp
        try with_reducible rfl
      simp only [puM]
      refine tkM 9 ?_ rfl rfl ?_ (fun _ _ _ h => h) (by assumption) (by kernel_rfl) ?_
      rotate_left
      · intro W hSw
        clear hSw
        go_simp
        try with_reducible rfl
      simp only [puM]
      refine tkM 10 ?_ rfl rfl ?_ (fun _ _ _ h => h) (by assumption) (by kernel_rfl) ?_
      rotate_left
      · intro W hSw
        clear hSw
        go_simp
        try with_reducible rfl
      simp only [puM]
      refine tkM 11 ?_ rfl rfl ?_ (fun _ _ _ h => h) (by assumption) (by kernel_rfl) ?_
      rotate_left
      · intro W hSw
        clear hSw
        go_simp
        try with_reducible rfl
      simp only [puM]
      refine tkM 12 ?_ rfl rfl ?_ (fun _ _ _ h => h) (by assumption) (by kernel_rfl) ?_
      rotate_left
      · intro W hSw
        obtain ⟨_, hkb, _, _⟩ := hSw
        have z0 := hkb.cell 0
        have z1 := hkb.cell 1
        have z2 := hkb.cell 2
        have z3 := hkb.cell 3
        have z4 := hkb.cell 4
        have z5 := hkb.cell 5
        have z6 := hkb.cell 6
        have z7 := hkb.cell 7
        have z8 := hkb.cell 8
        simp only [List.getElem?_toArray, List.getElem?_cons_zero, List.getElem?_cons_succ] at z0 z1 z2 z3 z4 z5 z6 z7 z8
        clear hkb
        go_simp
        try with_reducible rfl
      simp only [puM]
      refine tkM 13 ?_ rfl rfl ?_ (fun _ _ _ h => h) (by assumption) (by kernel_rfl) ?_
      rotate_left
      · intro W hSw
        clear hSw
        go_simp
        try with_reducible rfl
      simp only [puM]
      refine tkM 14 ?_ rfl rfl ?_ (fun _ _ _ h => h) (by assumption) (by kernel_rfl) ?_
      rotate_left
      · intro W hSw
        obtain ⟨_, hkb, _, _⟩ := hSw
        have z0 := hkb.cell 0
        have z1 := hkb.cell 1
        have z2 := hkb.cell 2
        have z3 := hkb.cell 3
        have z4 := hkb.cell 4
        have z5 := hkb.cell 5
        have z6 := hkb.cell 6
        have z7 := hkb.cell 7
        have z8 := hkb.cell 8
        simp only [List.getElem?_toArray, List.getElem?_cons_zero, List.getElem?_cons_succ] at z0 z1 z2 z3 z4 z5 z6 z7 z8
        clear hkb
        go_simp
        try with_reducible rfl
      simp only [puM]
      refine tkM 15 ?_ rfl rfl ?_ (fun _ _ _ h => h) (by assumption) (by kernel_rfl) ?_
      rotate_left
      · intro W hSw
        clear hSw
        go_simp
        try with_reducible rfl
      simp only [puM]
      refine tkM 16 ?_ rfl rfl ?_ (fun _ _ _ h => h) (by assumption) (by kernel_rfl) ?_
      rotate_left
      · intro W hSw
        obtain ⟨_, hkb, _, _⟩ := hSw
        have z0 := hkb.cell 0
        have z1 := hkb.cell 1
        have z2 := hkb.cell 2
        have z3 := hkb.cell 3
        have z4 := hkb.cell 4
        have z5 := hkb.cell 5
        have z6 := hkb.cell 6
        have z7 := hkb.cell 7
        have z8 := hkb.cell 8
        simp only [List.getElem?_toArray, List.getElem?_cons_zero, List.getElem?_cons_succ] at z0 z1 z2 z3 z4 z5 z6 z7 z8
        clear hkb
        go_simp
        try with_reducible rfl
      simp only [puM]
      refine wpAnyH_ready (rs := [17]) (by kernel_rfl) (by simp) (AllReadyH.cons (o := { dst := some 206, op := Op.call { callee := Callee.value (Operand.func 30), args := #[Operand.tmp 199, Operand.tmp 201, Operand.tmp 203, Operand.tmp 205, Operand.const (Value.bool false), Operand.const (Value.string { data := #[] })], argTypes := #[22, 3, 36, 30, 4, 9] }, type := 4, pos := "outright.go:76", after := #[{ on := 10, ground := Ground.data }, { on := 12, ground := Ground.data }, { on := 14, ground := Ground.data }, { on := 16, ground := Ground.data }, { on := 9, ground := Ground.chain }, { on := 9, ground := Ground.guard }], guard := some (9, false) }) rfl (fun K hK => ?_) AllReadyH.nil)
      obtain ⟨⟨ow, hq⟩, hkb, hkr, hbb⟩ := hHeld
      have HCL := Lib.hid (mq_is hq HN3.out t tx li ke en va kn eg kn eg rfl rfl HOK.out.2.2 er false { data := #[] } HOK.out.2.1)
      go_simp
      refine HCL.out.mono ?_
      rintro e Wq2 ⟨rfl, hm, hkp, hbl⟩
      clear HCL
      refine hK.out _ _ (⟨⟨_, hm⟩, hkp.blk _ _ _ hkb (by decide) (by decide) (by decide) (by decide), hkp.blk _ _ _ hkr (by decide) (by decide) (by decide) (by decide), hbl _ _ hbb (Nat.le_refl _)⟩) (fun hHeld => ?_)
      clear hK K hq hkb hkr hbb hm hkp hbl
      refine tkM 18 ?_ rfl rfl ?_ (fun _ _ _ h => h) (by assumption) (by kernel_rfl) ?_
      rotate_left
      · intro W hSw
        clear hSw
        go_simp
        try with_reducible rfl
      simp only [puM]
      refine tkM 19 ?_ rfl rfl ?_ (fun _ _ _ h => h) (by assumption) (by kernel_rfl) ?_
      rotate_left
      · intro W hSw
        clear hSw
        go_simp
        try with_reducible rfl
      simp only [puM]
      refine wpAnyH_done (by kernel_rfl) (NoPanic.normal ?_) _
      obtain ⟨⟨ow, hq⟩, _, hkr, hbb⟩ := hHeld
      have HQ6 := Lib.hid hq
      have KR6 := Lib.hid hkr
      have HB6 := Lib.hid hbb
      clear hq hkr hbb
      go_wp2
      refine ⟨⟨k + 1, ow, by have := HLT.out; omega, by go_num, HQ6.out, KR6.out, HB6.out⟩, ?_⟩
      simp [intOf]
      have := HLT.out
      omega
    · obtain rfl : k = 24 := by omega
      have HB7 := Lib.hid HB.out
      clear hlt hk
      go_wp2_with fail
      refine (fulls_any HB.out HQ.out).mono ?_
      rintro e w9 ⟨rfl, hb⟩
      go_wp2
      go_ret
      exact ⟨rfl, hb⟩
end Go.Proofs.Ytoinjnocopejjaa.modelNames
