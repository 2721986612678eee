/- The walk of RoomRests. -/
import Derived.Test.YtoinjnocopejjaaPW
import Derived.StillTailTactics
namespace Go.Proofs.Ytoinjnocopejjaa.roomRests
open Go.ChangeShapes Go.WideShapes Go.ChangeAt Go.RowKit Go.Maps
set_option linter.unusedVariables false
set_option linter.unusedSimpArgs false
set_option maxRecDepth 100000 in
set_option maxHeartbeats 4000000 in
theorem walk (c : Conf) (A : Option Addr) (n cc : Nat) (LP : List PH) (A2 : Option Addr) (n2 c2 : Nat) (L : List EH) (w : World) (hP : RSl prE 1 w A n LP) (hQ : ∀ r ∈ LP, PrQ w r) (hn : n ≤ maxLen) (hE : RSl evE 7 w A2 n2 L) (hV : ∀ r ∈ L, EvQ w r) (hn2 : n2 ≤ maxLen) (hk2 : n2 ≤ c2) (ho2 : A2 = none → n2 = 0 ∧ c2 = 0) : Calls Try.prog 12 #[c.val, .slice A n cc, .slice A2 n2 c2] w fun e w' => e = .returned (.bool true) ∧ Below w.heap.size w w' := by
  have HPO : Hid (PsOk w w A n LP) := Lib.hid (progs_ok hP hQ)
  have HEO : Hid ((∀ r ∈ L, r.1.2.2.2.2.2.2.length ≤ 8000) → EvOk w w A2 n2 L) := Lib.hid (fun h => evs_ok hE hV (fun r hr => by have := h r hr; omega))
  have HLO : Hid (∀ W, Below w.heap.size w W → Calls Try.prog 48 #[.slice A n cc, .slice A2 n2 c2] W (LongEnd L W)) := Lib.hid (fun W hb => long30 A n cc LP A2 n2 c2 L (hP.later hb) (fun r hr => ⟨(hQ r hr).1.later hb, (hQ r hr).2⟩) (hE.later hb) hn hn2 (fun r hr => (hQ r hr).2.2))
  have HNM := Lib.hid hn
  have HLM : Hid (L.length = n2) := Lib.hid hE.1
  have HK2 := Lib.hid hk2
  have HO2 := Lib.hid ho2
  have HB : Hid (Below w.heap.size w (w.alloc (.cells #[.int .i64 c.ta, .int .i64 c.ac, .int .i64 c.ke, .int .i64 c.de, .int .i64 c.ts, .int .i64 c.kl, .int .i64 c.vl, .int .i64 c.fa] 45))) := Lib.hid ((Below.refl _ _).alloc (Nat.le_refl _) _)
  have KC : Hid (Blk (w.alloc (.cells #[.int .i64 c.ta, .int .i64 c.ac, .int .i64 c.ke, .int .i64 c.de, .int .i64 c.ts, .int .i64 c.kl, .int .i64 c.vl, .int .i64 c.fa] 45)) w.heap.size #[.int .i64 c.ta, .int .i64 c.ac, .int .i64 c.ke, .int .i64 c.de, .int .i64 c.ts, .int .i64 c.kl, .int .i64 c.vl, .int .i64 c.fa] 45) := Lib.hid (Blk.new w _ 45)
  clear hP hQ hn hE hV hn2 hk2 ho2
  show Calls Try.prog 12 _ w _
  unfold Conf.val
  go_enter Try.func12, Try.ntmps12
  go_upto_region 1 with (fail)
  generalize (w.alloc (.cells #[.int .i64 c.ta, .int .i64 c.ac, .int .i64 c.ke, .int .i64 c.de, .int .i64 c.ts, .int .i64 c.kl, .int .i64 c.vl, .int .i64 c.fa] 45)) = w1 at *
  obtain ⟨bx, hbx⟩ : ∃ bx, w.heap.size = bx := ⟨_, rfl⟩
  rw [hbx] at KC ⊢
  have HBX := Lib.hid hbx
  clear hbx
  go_wp2_with fail
  refine (works30 _).mono ?_
  rintro e w2 ⟨rfl, hb⟩
  replace HB := Lib.hid (stepB HB.out hb)
  replace KC := Lib.hid (KC.out.later hb)
  clear hb
  go_wp2_with fail
  refine (HLO.out _ HB.out).mono ?_
  rintro e w3 ⟨bq, rfl, hb, hlg⟩
  replace HB := Lib.hid (stepB HB.out hb)
  replace KC := Lib.hid (KC.out.later hb)
  clear hb HLO
  have HLG0 := Lib.hid hlg
  clear hlg
  cases bq with
  | true =>
    go_wp2_with fail
    refine (works30 _).mono ?_
    rintro e w4 ⟨rfl, hb⟩
    replace HB := Lib.hid (stepB HB.out hb)
    replace KC := Lib.hid (KC.out.later hb)
    clear hb
    go_wp2
    go_ret
    exact ⟨rfl, HB.out⟩
  | false =>
  have HLG := Lib.hid (HLG0.out rfl).1
  have HES : Hid (EvOk w w A2 n2 L) := Lib.hid (HEO.out (HLG0.out rfl).2)
  clear HLG0 HEO
  have z0 := KC.out.cell 0
  have z1 := KC.out.cell 1
  have z2 := KC.out.cell 2
  have z3 := KC.out.cell 3
  have z4 := KC.out.cell 4
  have z5 := KC.out.cell 5
  have z6 := KC.out.cell 6
  have z7 := KC.out.cell 7
  simp only [List.getElem?_toArray, List.getElem?_cons_zero, List.getElem?_cons_succ] at z0 z1 z2 z3 z4 z5 z6 z7
  go_wp2_with fail
  refine (answers_p c A n cc LP A2 n2 c2 L (Below.refl _ w3) (HPO.out.at_ HB.out) (HES.out.at_ HB.out) HNM.out (by have := HLG.out; omega)).mono ?_
  rintro e w5 ⟨hf, v, D, rfl, hd, hds⟩
  have hb := hf.bel
  obtain ⟨Av, cv, rfl, _, _⟩ := hd.1.sl
  have HD := Lib.hid hd
  have HDS := Lib.hid hds
  have hcs := now_cases c (psV LP) (evV L)
  have HDN : Hid (D.length ≤ 5000) := Lib.hid (by
    have hl : (D.map (·.1)).length = D.length := by simp
    rw [HDS.out] at hl
    rcases hcs with ⟨_, h⟩ | ⟨_, h, h2⟩ | ⟨p, h, h2, hok, _⟩
    · rw [if_neg (by rw [h]; decide)] at hl
      rw [← hl]; exact Nat.zero_le _
    · rw [if_pos h, h2] at hl
      rw [← hl]; exact Nat.zero_le _
    · rw [if_pos h, h2] at hl
      have hl : p.done.length = D.length := hl
      have h1 := hok.tk
      have h3 := play_len h2
      have h4 : (evV L).length ≤ 300 := by unfold evV; rw [List.length_map]; exact HLG.out
      have h5 : (newP c (psV LP)).taken = 0 := rfl
      omega)
  clear hcs
  replace HB := Lib.hid (stepB HB.out hb)
  replace KC := Lib.hid (KC.out.later hb)
  clear hb hf hd hds z0 z1 z2 z3 z4 z5 z6 z7
  obtain ⟨N, hN⟩ : ∃ N, D.length = N := ⟨_, rfl⟩
  have HN := Lib.hid hN
  rw [hN] at HDN ⊢
  clear hN
  go_wp2
  go_loopw [8] (fun s8 W' => ∃ k : Nat, k ≤ N ∧ s8 = .int .i64 k ∧ (∀ d ∈ D.take k, 0 ≤ d.1.back) ∧ DnAt w3 W' (.slice Av N cv) D ∧ Blk W' bx #[.int .i64 c.ta, .int .i64 c.ac, .int .i64 c.ke, .int .i64 c.de, .int .i64 c.ts, .int .i64 c.kl, .int .i64 c.vl, .int .i64 c.fa] 45 ∧ Below w.heap.size w W') (fun s8 _ => N - (intOf s8).toNat)
  case atStart => exact ⟨0, Nat.zero_le _, rfl, (fun d hd => by cases hd), by rw [← HN.out]; exact HD.out, KC.out, HB.out⟩
  case round =>
    obtain ⟨k, hk, rfl, hal, hd, hc, hb⟩ := hrel
    have HAL := Lib.hid hal
    have HD := Lib.hid hd
    have KC := Lib.hid hc
    have HB := Lib.hid hb
    clear hal hd hc hb
    by_cases hlt : k < N
    · have d2 : decide ((k : Int) < (N : Int)) = true := decide_eq_true (by omega)
      have d2' : decide (k < N) = true := decide_eq_true hlt
      have wk : IntKind.i64.wrap ((k : Int) + 1) = (k : Int) + 1 := IntWalk.i64_in _ (by have := HDN.out; omega)
      have wk2 : wrap64 ((k : Int) + 1) = (k : Int) + 1 := w64 (by have := HDN.out; omega)
      have hrd : D[k]? = some (D[k]'(by rw [HN.out]; exact hlt)) := List.getElem?_eq_getElem _
      generalize D[k]'(by rw [HN.out]; exact hlt) = r at *
      have hD := HD.out.1
      rw [HN.out] at hD
      obtain ⟨g, off, hav, hg, hcl⟩ := (hD.rsl dnE_len).2 (by omega)
      have y7 : wr.cell? ⟨g, off + k * 8 + 7, none⟩ = some (.int .i64 r.1.back) := hcl k _ hrd 7 (by decide)
      have i0 : ∀ W, (Instr.indexAt 99 (.slice Av N cv) (.int .i64 (k : Int))).run Try.prog W = .ok (.pointer (some ⟨g, off + k * 8, none⟩)) W := fun W => by rw [hav]; exact idx99 g off N cv k (k : Int) rfl hlt W
      have HLT := Lib.hid hlt
      have HRD := Lib.hid hrd
      obtain ⟨bk, hbk⟩ : ∃ bk, r.1.back = bk := ⟨_, rfl⟩
      rw [hbk] at y7
      have HBK := Lib.hid hbk
      clear hcl hg hD hrd hav hlt hbk
      by_cases hs : bk < 0
      · have d3 : decide (bk < 0) = true := decide_eq_true hs
        clear hs
        go_wp2
        go_ret
        exact ⟨rfl, HB.out⟩
      · have d3 : decide (bk < 0) = false := decide_eq_false hs
        have HS := Lib.hid hs
        clear hs
        go_wp2
        refine ⟨⟨k + 1, by have := HLT.out; omega, by go_num, ?_, HD.out, KC.out, HB.out⟩, ?_⟩
        · intro d hd
          rw [List.take_add_one, HRD.out] at hd
          rcases List.mem_append.1 hd with h | h
          · exact HAL.out d h
          · simp at h
            subst h
            have := HS.out
            rw [HBK.out]; omega
        · simp [intOf]
          have := HLT.out
          omega
    · obtain rfl : k = N := by omega
      have d2 : decide ((k : Int) < (k : Int)) = false := decide_eq_false (by omega)
      have d2' : decide (k < k) = false := decide_eq_false (by omega)
      have HBK : Hid (∀ d ∈ D, 0 ≤ d.1.back) := Lib.hid (by
        have := HAL.out
        rwa [← HN.out, List.take_length] at this)
      clear hlt hk HAL HD HDN
      have z0 := KC.out.cell 0
      have z1 := KC.out.cell 1
      have z2 := KC.out.cell 2
      have z3 := KC.out.cell 3
      have z4 := KC.out.cell 4
      have z5 := KC.out.cell 5
      have z6 := KC.out.cell 6
      have z7 := KC.out.cell 7
      simp only [List.getElem?_toArray, List.getElem?_cons_zero, List.getElem?_cons_succ] at z0 z1 z2 z3 z4 z5 z6 z7
      go_wp2_with fail
      refine (model_p c A n cc LP A2 n2 c2 L (Below.refl _ _) (HPO.out.at_ HB.out) (HES.out.at_ HB.out) HNM.out (by have := HLG.out; omega)).mono ?_
      rintro e w6 ⟨hf, hh⟩
      have hb := hf.bel
      replace HB := Lib.hid (stepB HB.out hb)
      replace KC := Lib.hid (KC.out.later hb)
      clear hb hf z0 z1 z2 z3 z4 z5 z6 z7 d2 d2'
      rcases hh with ⟨hm, rfl⟩ | ⟨hm, hpl, rfl⟩ | ⟨p, mp, own, hm, hpl, rfl, hq⟩
      · have hm2 := hm
        have HX : Hid (nowP c (psV LP) (evV L) = (0, 0, 1)) := Lib.hid (by unfold nowP; rw [if_pos hm])
        clear hm hm2
        have HNW := Lib.hid (now_any c A n cc LP A2 n2 c2 L (HPO.out.at_ HB.out) (HES.out.at_ HB.out) HNM.out (by have := HLG.out; omega))
        rw [HX.out] at HNW
        have z0 := KC.out.cell 0
        have z1 := KC.out.cell 1
        have z2 := KC.out.cell 2
        have z3 := KC.out.cell 3
        have z4 := KC.out.cell 4
        have z5 := KC.out.cell 5
        have z6 := KC.out.cell 6
        have z7 := KC.out.cell 7
        simp only [List.getElem?_toArray, List.getElem?_cons_zero, List.getElem?_cons_succ] at z0 z1 z2 z3 z4 z5 z6 z7
        go_wp2_with fail
        refine HNW.out.mono ?_
        rintro e w7 ⟨rfl, hb⟩
        replace HB := Lib.hid (stepB HB.out hb)
        replace KC := Lib.hid (KC.out.later hb)
        clear hb HNW z0 z1 z2 z3 z4 z5 z6 z7
        go_wp2
        go_ret
        exact ⟨rfl, HB.out⟩
      · have hm2 := hm
        have HX : Hid (nowP c (psV LP) (evV L) = (0, 0, 4)) := Lib.hid (by unfold nowP; rw [if_neg (by rw [hm]; decide), hpl])
        clear hm hpl hm2
        have HNW := Lib.hid (now_any c A n cc LP A2 n2 c2 L (HPO.out.at_ HB.out) (HES.out.at_ HB.out) HNM.out (by have := HLG.out; omega))
        rw [HX.out] at HNW
        have z0 := KC.out.cell 0
        have z1 := KC.out.cell 1
        have z2 := KC.out.cell 2
        have z3 := KC.out.cell 3
        have z4 := KC.out.cell 4
        have z5 := KC.out.cell 5
        have z6 := KC.out.cell 6
        have z7 := KC.out.cell 7
        simp only [List.getElem?_toArray, List.getElem?_cons_zero, List.getElem?_cons_succ] at z0 z1 z2 z3 z4 z5 z6 z7
        go_wp2_with fail
        refine HNW.out.mono ?_
        rintro e w7 ⟨rfl, hb⟩
        replace HB := Lib.hid (stepB HB.out hb)
        replace KC := Lib.hid (KC.out.later hb)
        clear hb HNW z0 z1 z2 z3 z4 z5 z6 z7
        go_wp2
        go_ret
        exact ⟨rfl, HB.out⟩
      · have hm2 := hm
        have HQ := Lib.hid hq
        have hds : D.map (·.1) = p.done := by rw [HDS.out, if_pos hm, hpl]; rfl
        have hcl : ∀ d ∈ p.done, 0 ≤ d.back := by
          rw [← hds]
          intro d hd
          obtain ⟨y, hy, rfl⟩ := List.mem_map.1 hd
          exact HBK.out y hy
        obtain ⟨sa, hsa⟩ : ∃ sa, sumK retR p.m.rows = sa := ⟨_, rfl⟩
        obtain ⟨sl, hsl⟩ : ∃ sl, p.m.rows.length = sl := ⟨_, rfl⟩
        have HSA := Lib.hid hsa
        have HSL := Lib.hid hsl
        have HX : Hid (nowP c (psV LP) (evV L) = ((sa : Int), (sl : Int), 0)) := Lib.hid (by
          have e0 : sumR c (psV LP) (newM c) p.done = (0, 0) := sumR_closed hcl
          unfold nowP sumP rN
          rw [if_neg (by rw [hm]; decide), hpl]
          simp only [e0, hsa, hsl, Int.zero_add])
        clear hm hpl hm2 hq hds hcl hsa hsl
        have HNW := Lib.hid (now_any c A n cc LP A2 n2 c2 L (HPO.out.at_ HB.out) (HES.out.at_ HB.out) HNM.out (by have := HLG.out; omega))
        rw [HX.out] at HNW
        have z0 := KC.out.cell 0
        have z1 := KC.out.cell 1
        have z2 := KC.out.cell 2
        have z3 := KC.out.cell 3
        have z4 := KC.out.cell 4
        have z5 := KC.out.cell 5
        have z6 := KC.out.cell 6
        have z7 := KC.out.cell 7
        simp only [List.getElem?_toArray, List.getElem?_cons_zero, List.getElem?_cons_succ] at z0 z1 z2 z3 z4 z5 z6 z7
        go_wp2_with fail
        refine HNW.out.mono ?_
        rintro e w7 ⟨rfl, hb⟩
        have HQ7 := Lib.hid (HQ.out.later hb)
        replace HB := Lib.hid (stepB HB.out hb)
        replace KC := Lib.hid (KC.out.later hb)
        clear hb HNW z0 z1 z2 z3 z4 z5 z6 z7
        go_wp2_with fail
        refine (mq_retained HQ7.out).mono ?_
        rw [HSA.out]
        rintro e w8 ⟨rfl, hb⟩
        have HB8 := Lib.hid (stepB HB.out hb)
        have HQ8 := Lib.hid (HQ7.out.later hb)
        clear hb HB HQ7 HQ
        go_wp2_with fail
        refine (mq_keys HQ8.out).mono ?_
        rintro e w9 ⟨vv, rfl, ho, hb⟩
        rw [List.length_map, HSL.out] at ho
        obtain ⟨Ak, ck, rfl, _⟩ := ho.sl
        have HB9 := Lib.hid (stepB HB8.out hb)
        clear ho hb HB8 HQ8
        go_wp2
        go_ret
        exact ⟨rfl, HB9.out⟩
end Go.Proofs.Ytoinjnocopejjaa.roomRests
