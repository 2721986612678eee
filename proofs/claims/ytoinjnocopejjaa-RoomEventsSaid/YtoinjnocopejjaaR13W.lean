/- The walk of RoomEvents. -/
import Derived.Test.YtoinjnocopejjaaPW
import Derived.StillTailTactics
namespace Go.Proofs.Ytoinjnocopejjaa.roomEvents
open Go.ChangeShapes Go.WideShapes Go.ChangeAt Go.RowKit Go.Maps
set_option linter.unusedVariables false
set_option linter.unusedSimpArgs false
theorem ev_nil {w0 W : World} : EvOk w0 W none 0 [] := ⟨fun _ _ => ⟨rfl, fun h => absurd h (by decide)⟩, (fun x h => by cases h), (fun x h => by cases h)⟩
theorem ev_take {w0 W : World} {A : Option Addr} {n : Nat} {L : List EH} (h : EvOk w0 W A n L) {m : Nat} (hm : m ≤ n) : EvOk w0 W A m (L.take m) :=
  ⟨fun W' k => rsl_pre (h.row W' k) hm, (fun x hx => h.prs x (List.mem_of_mem_take hx)), (fun x hx => h.rng x (List.mem_of_mem_take hx))⟩
set_option maxRecDepth 100000 in
set_option maxHeartbeats 4000000 in
theorem walk (c : Conf) (A : Option Addr) (n cc : Nat) (LP : List PH) (A2 : Option Addr) (n2 c2 : Nat) (L : List EH) (w : World) (hP : RSl prE 1 w A n LP) (hQ : ∀ r ∈ LP, PrQ w r) (hn : n ≤ maxLen) (hE : RSl evE 7 w A2 n2 L) (hV : ∀ r ∈ L, EvQ w r) (hn2 : n2 ≤ maxLen) (hk2 : n2 ≤ c2) (ho2 : A2 = none → n2 = 0 ∧ c2 = 0) : Calls Try.prog 13 #[c.val, .slice A n cc, .slice A2 n2 c2] w fun e w' => e = .returned (.bool true) ∧ Below w.heap.size w w' := by
  have HPO : Hid (PsOk w w A n LP) := Lib.hid (progs_ok hP hQ)
  have HEO : Hid ((∀ r ∈ L, r.1.2.2.2.2.2.2.length ≤ 8000) → EvOk w w A2 n2 L) := Lib.hid (fun h => evs_ok hE hV (fun r hr => by have := h r hr; omega))
  have HLO : Hid (∀ W, Below w.heap.size w W → Calls Try.prog 48 #[.slice A n cc, .slice A2 n2 c2] W (LongEnd L W)) := Lib.hid (fun W hb => long30 A n cc LP A2 n2 c2 L (hP.later hb) (fun r hr => ⟨(hQ r hr).1.later hb, (hQ r hr).2⟩) (hE.later hb) hn hn2 (fun r hr => (hQ r hr).2.2))
  have HNM := Lib.hid hn
  have HLM : Hid (L.length = n2) := Lib.hid hE.1
  have HK2 := Lib.hid hk2
  have HO2 := Lib.hid ho2
  have HB : Hid (Below w.heap.size w (w.alloc (.cells #[.int .i64 c.ta, .int .i64 c.ac, .int .i64 c.ke, .int .i64 c.de, .int .i64 c.ts, .int .i64 c.kl, .int .i64 c.vl, .int .i64 c.fa] 45))) := Lib.hid ((Below.refl _ _).alloc (Nat.le_refl _) _)
  have KC : Hid (Blk (w.alloc (.cells #[.int .i64 c.ta, .int .i64 c.ac, .int .i64 c.ke, .int .i64 c.de, .int .i64 c.ts, .int .i64 c.kl, .int .i64 c.vl, .int .i64 c.fa] 45)) w.heap.size #[.int .i64 c.ta, .int .i64 c.ac, .int .i64 c.ke, .int .i64 c.de, .int .i64 c.ts, .int .i64 c.kl, .int .i64 c.vl, .int .i64 c.fa] 45) := Lib.hid (Blk.new w _ 45)
  clear hP hQ hn hE hV hn2 hk2 ho2
  show Calls Try.prog 13 _ w _
  unfold Conf.val
  go_enter Try.func13, Try.ntmps13
  go_upto_region 1 with (fail)
  generalize (w.alloc (.cells #[.int .i64 c.ta, .int .i64 c.ac, .int .i64 c.ke, .int .i64 c.de, .int .i64 c.ts, .int .i64 c.kl, .int .i64 c.vl, .int .i64 c.fa] 45)) = w1 at *
  obtain ⟨bx, hbx⟩ : ∃ bx, w.heap.size = bx := ⟨_, rfl⟩
  rw [hbx] at KC ⊢
  have HBX := Lib.hid hbx
  clear hbx
  go_wp2_with fail
  refine (works30 _).mono ?_
  rintro e w2 ⟨rfl, hb⟩
  replace HB := Lib.hid (stepB HB.out hb)
  replace KC := Lib.hid (KC.out.later hb)
  clear hb
  go_wp2_with fail
  refine (HLO.out _ HB.out).mono ?_
  rintro e w3 ⟨bq, rfl, hb, hlg⟩
  replace HB := Lib.hid (stepB HB.out hb)
  replace KC := Lib.hid (KC.out.later hb)
  clear hb HLO
  have HLG0 := Lib.hid hlg
  clear hlg
  cases bq with
  | true =>
    go_wp2_with fail
    refine (works30 _).mono ?_
    rintro e w4 ⟨rfl, hb⟩
    replace HB := Lib.hid (stepB HB.out hb)
    replace KC := Lib.hid (KC.out.later hb)
    clear hb
    go_wp2
    go_ret
    exact ⟨rfl, HB.out⟩
  | false =>
  have HLG := Lib.hid (HLG0.out rfl).1
  have HES : Hid (EvOk w w A2 n2 L) := Lib.hid (HEO.out (HLG0.out rfl).2)
  clear HLG0 HEO
  by_cases h120 : 120 < n2
  · have g1 : decide ((n2 : Int) > 120) = true := decide_eq_true (by omega)
    have g1a : decide ((120 : Int) < (n2 : Int)) = true := decide_eq_true (by omega)
    have g1b : decide (120 < n2) = true := decide_eq_true h120
    clear h120
    go_wp2_with fail
    refine (works30 _).mono ?_
    rintro e w4 ⟨rfl, hb⟩
    replace HB := Lib.hid (stepB HB.out hb)
    replace KC := Lib.hid (KC.out.later hb)
    clear hb
    go_wp2
    go_ret
    exact ⟨rfl, HB.out⟩
  have g1 : decide ((n2 : Int) > 120) = false := decide_eq_false (by omega)
  have g1a : decide ((120 : Int) < (n2 : Int)) = false := decide_eq_false (by omega)
  have g1b : decide (120 < n2) = false := decide_eq_false h120
  have HN2 := Lib.hid h120
  clear h120
  have z0 := KC.out.cell 0
  have z1 := KC.out.cell 1
  have z2 := KC.out.cell 2
  have z3 := KC.out.cell 3
  have z4 := KC.out.cell 4
  have z5 := KC.out.cell 5
  have z6 := KC.out.cell 6
  have z7 := KC.out.cell 7
  simp only [List.getElem?_toArray, List.getElem?_cons_zero, List.getElem?_cons_succ] at z0 z1 z2 z3 z4 z5 z6 z7
  have HNW := Lib.hid (now_any c A n cc LP A2 n2 c2 L (HPO.out.at_ HB.out) (HES.out.at_ HB.out) HNM.out (by have := HLG.out; omega))
  have hcs := now_cases c (psV LP) (evV L)
  obtain ⟨R, hR⟩ : ∃ R, nowP c (psV LP) (evV L) = R := ⟨_, rfl⟩
  rw [hR] at HNW hcs
  have HCS := Lib.hid hcs
  clear hR hcs
  obtain ⟨rs, ra, re⟩ := R
  go_wp2_with fail
  refine HNW.out.mono ?_
  rintro e w5 ⟨rfl, hb⟩
  replace HB := Lib.hid (stepB HB.out hb)
  replace KC := Lib.hid (KC.out.later hb)
  clear hb HNW z0 z1 z2 z3 z4 z5 z6 z7 g1 g1a g1b
  rcases HCS.out with ⟨h, _⟩ | ⟨h, _, _⟩ | ⟨p, hm, hpl, hok, h⟩
  · simp only [Prod.mk.injEq] at h
    obtain ⟨rfl, rfl, rfl⟩ := h
    go_wp2
    go_ret
    exact ⟨rfl, HB.out⟩
  · simp only [Prod.mk.injEq] at h
    obtain ⟨rfl, rfl, rfl⟩ := h
    go_wp2
    go_ret
    exact ⟨rfl, HB.out⟩
  simp only [Prod.mk.injEq] at h
  obtain ⟨_, _, rfl⟩ := h
  have HM := Lib.hid hm
  have HPL := Lib.hid hpl
  clear hm hpl hok HCS
  have z0 := KC.out.cell 0
  have z1 := KC.out.cell 1
  have z2 := KC.out.cell 2
  have z3 := KC.out.cell 3
  have z4 := KC.out.cell 4
  have z5 := KC.out.cell 5
  have z6 := KC.out.cell 6
  have z7 := KC.out.cell 7
  simp only [List.getElem?_toArray, List.getElem?_cons_zero, List.getElem?_cons_succ] at z0 z1 z2 z3 z4 z5 z6 z7
  have hx0 : nowP c (psV LP) (evV []) = ((sumP c (psV LP) (newP c (psV LP))).1, (sumP c (psV LP) (newP c (psV LP))).2, 0) := by
    unfold nowP
    rw [if_neg (by rw [HM.out]; decide)]
    rfl
  have HNW := Lib.hid (now_any c A n cc LP none 0 0 [] (HPO.out.at_ HB.out) ev_nil HNM.out (by decide))
  rw [hx0] at HNW
  clear hx0
  go_wp2_with fail
  refine HNW.out.mono ?_
  rintro e w6 ⟨rfl, hb⟩
  replace HB := Lib.hid (stepB HB.out hb)
  replace KC := Lib.hid (KC.out.later hb)
  clear hb HNW z0 z1 z2 z3 z4 z5 z6 z7
  go_wp2
  go_loopw [10, 11, 13] (fun s10 s11 s13 W' => ∃ (k : Nat) (q : Pl), k ≤ n2 ∧ s13 = .int .i64 ((k : Int) + 1) ∧ playP (newP c (psV LP)) ((evV L).take k) = some q ∧ s10 = .int .i64 (sumP c (psV LP) q).1 ∧ s11 = .int .i64 (sumP c (psV LP) q).2 ∧ Blk W' bx #[.int .i64 c.ta, .int .i64 c.ac, .int .i64 c.ke, .int .i64 c.de, .int .i64 c.ts, .int .i64 c.kl, .int .i64 c.vl, .int .i64 c.fa] 45 ∧ Below w.heap.size w W') (fun _ _ s13 _ => n2 + 1 - (intOf s13).toNat)
  case atStart => exact ⟨0, newP c (psV LP), Nat.zero_le _, by simp, rfl, rfl, rfl, KC.out, HB.out⟩
  case round =>
    obtain ⟨k, q, hk, rfl, hq, rfl, rfl, hc, hb⟩ := hrel
    have KC := Lib.hid hc
    have HB := Lib.hid hb
    have HQ := Lib.hid hq
    clear hc hb hq
    by_cases hlt : k < n2
    · have d2 : decide ((k : Int) + 1 ≤ (n2 : Int)) = true := decide_eq_true (by omega)
      have d2' : decide ((k : Int) < (n2 : Int)) = true := decide_eq_true (by omega)
      have d2'' : decide (k < n2) = true := decide_eq_true hlt
      have d2c : decide (k + 1 ≤ n2) = true := decide_eq_true hlt
      have hrk : L[k]? = some (L[k]'(by rw [HLM.out]; exact hlt)) := List.getElem?_eq_getElem _
      generalize L[k]'(by rw [HLM.out]; exact hlt) = r at *
      have hek : (evV L)[k]? = some r.1 := by unfold evV; rw [List.getElem?_map, hrk]; rfl
      obtain ⟨q', hq'⟩ := play_some HPL.out (k + 1)
      have ht := play_take (p := newP c (psV LP)) hek
      rw [HQ.out, hq'] at ht
      simp only [Option.bind_some] at ht
      have h4 : (takeP q r.1).2 ≠ 4 := fun h => by rw [if_pos h] at ht; cases ht
      rw [if_neg h4] at ht
      have e1 : q' = (takeP q r.1).1 := by injection ht
      have hok : POk c (psV LP) q := (POk.new (mayP_of HM.out).1 _).play HQ.out
      have hsp := sumP_take hok r.1 h4
      rw [← e1] at hsp
      have hnw : nowP c (psV LP) (evV (L.take (k + 1))) = ((sumP c (psV LP) q').1, (sumP c (psV LP) q').2, 0) := by
        unfold nowP
        rw [if_neg (by rw [HM.out]; decide)]
        have e2 : evV (L.take (k + 1)) = (evV L).take (k + 1) := by unfold evV; rw [List.map_take]
        rw [e2, hq']
      obtain ⟨⟨wh, ta, ca, er, fo, va, pr⟩, hA, ce⟩ := r
      simp only at hsp
      obtain ⟨T1, hT1⟩ : ∃ T, sumP c (psV LP) q = T := ⟨_, rfl⟩
      obtain ⟨T2, hT2⟩ : ∃ T, sumP c (psV LP) q' = T := ⟨_, rfl⟩
      rw [hT1] at hsp ⊢
      rw [hT2] at hsp hnw
      have HT2 := Lib.hid hT2
      obtain ⟨a1, a2⟩ := T1
      obtain ⟨b1, b2⟩ := T2
      have HSP := Lib.hid hsp
      have HNW : Hid (∀ W, Below w.heap.size w W → Calls Try.prog 45 #[.agg #[.int .i64 c.ta, .int .i64 c.ac, .int .i64 c.ke, .int .i64 c.de, .int .i64 c.ts, .int .i64 c.kl, .int .i64 c.vl, .int .i64 c.fa], .slice A n cc, .slice A2 (k + 1) c2] W (NwEnd (b1, b2, 0) W)) := Lib.hid (fun W hb => by
        have := now_any c A n cc LP A2 (k + 1) c2 (L.take (k + 1)) (HPO.out.at_ hb) (ev_take (HES.out.at_ hb) hlt) HNM.out (by have := HLG.out; rw [List.length_take]; omega)
        rw [hnw] at this
        exact this)
      obtain ⟨g, off, hA2, hg, hcl⟩ := ((HES.out.at_ HB.out).row _ (Fw.refl (Below.refl _ _))).2 (by omega)
      have HY : Hid (∀ W, Below wr.heap.size wr W → W.cell? ⟨g, off + k * 7, none⟩ = some (.int .u8 wh)) := Lib.hid (fun W hb => by
        obtain ⟨g', off', hA2', _, hcl'⟩ := ((HES.out.at_ (stepB HB.out hb)).row _ (Fw.refl (Below.refl _ _))).2 (by omega)
        rw [hA2] at hA2'
        cases hA2'
        exact hcl' k _ hrk 0 (by decide))
      have i0 : ∀ W, (Instr.indexAt 90 (.slice A2 n2 c2) (.int .i64 (k : Int))).run Try.prog W = .ok (.pointer (some ⟨g, off + k * 7, none⟩)) W := fun W => by rw [hA2]; exact idx90 g off n2 c2 k (k : Int) rfl hlt W
      have sl : ∀ W, (Instr.slice 90 (.slice A2 n2 c2) .none (some (.int .i64 ((k : Int) + 1))) .none).run Try.prog W = .ok (.slice A2 (k + 1) c2) W := fun W => by rw [hA2]; exact sl90 g off n2 c2 (k + 1) hlt HK2.out ((k : Int) + 1) (by simp) W
      have HQ' := Lib.hid hq'
      have HLT := Lib.hid hlt
      clear hcl hg hA2 hT1 hT2 hsp hnw hq' hlt ht h4 hok hek hrk e1 HQ
      go_upto_region 10 with (fail)
      refine wp_region_noPanic ?_
      obtain ⟨W0, rfl⟩ : ∃ W0 : World, W0 = wr := ⟨_, rfl⟩
      refine wp_region_held_drew (S := fun W => Below W0.heap.size W0 W) (by kernel_rfl) (Below.drew (Below.refl _ _)) (fun hHeld => ?_)
      obtain ⟨Wd, hWd⟩ : ∃ z, World.drew W0 = z := ⟨_, rfl⟩
      rw [hWd] at hHeld ⊢
      clear hWd
      refine tkL 0 ?_ rfl rfl ?_ (fun _ _ _ h => h) (by assumption) (by kernel_rfl) ?_
      rotate_left
      · intro W hSw
        have hk := (KC.out.later hSw).cell
        have z0 := hk 0
        have z1 := hk 1
        have z2 := hk 2
        have z3 := hk 3
        have z4 := hk 4
        have z5 := hk 5
        have z6 := hk 6
        have z7 := hk 7
        simp only [List.getElem?_toArray, List.getElem?_cons_zero, List.getElem?_cons_succ] at z0 z1 z2 z3 z4 z5 z6 z7
        clear hSw hk
        go_simp
        try with_reducible rfl
      simp only [pu_]
      refine tkL 1 ?_ rfl rfl ?_ (fun _ _ _ h => h) (by assumption) (by kernel_rfl) ?_
      rotate_left
      · intro W hSw
        clear hSw
        go_simp
        try with_reducible rfl
      simp only [pu_]
      refine tkL 2 ?_ rfl rfl ?_ (fun _ _ _ h => h) (by assumption) (by kernel_rfl) ?_
      rotate_left
      · intro W hSw
        clear hSw
        go_simp
        try with_reducible rfl
      simp only [pu_]
      refine tkL 3 ?_ rfl rfl ?_ (fun _ _ _ h => h) (by assumption) (by kernel_rfl) ?_
      rotate_left
      · intro W hSw
        clear hSw
        go_simp
        try with_reducible rfl
      simp only [pu_]
      refine tkL 4 ?_ rfl rfl ?_ (fun _ _ _ h => h) (by assumption) (by kernel_rfl) ?_
      rotate_left
      · intro W hSw
        clear hSw
        go_simp
        try with_reducible rfl
      simp only [pu_]
      refine wpAnyH_ready (rs := [5]) (by kernel_rfl) (by simp) (AllReadyH.cons (o := { dst := some 59, op := Op.call { callee := Callee.value (Operand.func 45), args := #[Operand.tmp 54, Operand.tmp 55, Operand.tmp 58], argTypes := #[45, 93, 90] }, type := 86, pos := "outright.go:121", after := #[{ on := 0, ground := Ground.data }, { on := 1, ground := Ground.data }, { on := 4, ground := Ground.data }], guard := none }) rfl (fun K hK => ?_) AllReadyH.nil)
      have HCL2 := Lib.hid (HNW.out _ (stepB HB.out hHeld))
      go_simp
      refine HCL2.out.mono ?_
      rintro e Wq ⟨rfl, hb⟩
      have hb2 := stepB hHeld hb
      clear hb hHeld HCL2
      refine hK.out _ _ (hb2) (fun hHeld => ?_)
      clear hK K
      clear hb2
      refine tkL 6 ?_ rfl rfl ?_ (fun _ _ _ h => h) (by assumption) (by kernel_rfl) ?_
      rotate_left
      · intro W hSw
        clear hSw
        go_simp
        try with_reducible rfl
      simp only [pu_]
      refine tkL 7 ?_ rfl rfl ?_ (fun _ _ _ h => h) (by assumption) (by kernel_rfl) ?_
      rotate_left
      · intro W hSw
        clear hSw
        go_simp
        try with_reducible rfl
      simp only [pu_]
      refine tkL 8 ?_ rfl rfl ?_ (fun _ _ _ h => h) (by assumption) (by kernel_rfl) ?_
      rotate_left
      · intro W hSw
        clear hSw
        go_simp
        try with_reducible rfl
      simp only [pu_]
      refine tkL 9 ?_ rfl rfl ?_ (fun _ _ _ h => h) (by assumption) (by kernel_rfl) ?_
      rotate_left
      · intro W hSw
        clear hSw
        go_simp
        try with_reducible rfl
      simp only [pu_]
      refine tkL 10 ?_ rfl rfl ?_ (fun _ _ _ h => h) (by assumption) (by kernel_rfl) ?_
      rotate_left
      · intro W hSw
        clear hSw
        go_simp
        try with_reducible rfl
      simp only [pu_]
      refine tkL 11 ?_ rfl rfl ?_ (fun _ _ _ h => h) (by assumption) (by kernel_rfl) ?_
      rotate_left
      · intro W hSw
        clear hSw
        go_simp
        try with_reducible rfl
      simp only [pu_]
      refine tkL 12 ?_ rfl rfl ?_ (fun _ _ _ h => h) (by assumption) (by kernel_rfl) ?_
      rotate_left
      · intro W hSw
        clear hSw
        go_simp
        try with_reducible rfl
      simp only [pu_]
      refine wpAnyH_done (by kernel_rfl) (NoPanic.normal ?_) _
      have HB6 := Lib.hid (stepB HB.out hHeld)
      have KC6 := Lib.hid (KC.out.later hHeld)
      have HY6 := Lib.hid (HY.out _ hHeld)
      clear hHeld HB KC HY HNW sl
      have ws : IntKind.i64.wrap ((k : Int) + 1 - 1) = (k : Int) := by
        rw [show (k : Int) + 1 - 1 = (k : Int) by omega]; exact i64w (by have := HLT.out; have := HN2.out; omega)
      have ws2 : IntKind.i64.wrap (k : Int) = (k : Int) := i64w (by have := HLT.out; have := HN2.out; omega)
      have wk : IntKind.i64.wrap ((k : Int) + 1 + 1) = (k : Int) + 1 + 1 := i64w (by have := HLT.out; have := HN2.out; omega)
      have wk2 : wrap64 ((k : Int) + 1 + 1) = (k : Int) + 1 + 1 := w64 (by have := HLT.out; have := HN2.out; omega)
      have y0 := HY6.out
      have HR1 : Hid ((∃ k' : Nat, ∃ q2 : Pl, (k' = k + 1 ∧ k' ≤ n2) ∧ playP (newP c (psV LP)) ((evV L).take k') = some q2 ∧ sumP c (psV LP) q2 = (b1, b2))) := Lib.hid ⟨k + 1, q', ⟨rfl, HLT.out⟩, HQ'.out, HT2.out⟩
      by_cases h1 : wh = 1
      · subst h1
        have h := HSP.out.1 rfl
        simp only [Prod.mk.injEq] at h
        obtain ⟨rfl, rfl⟩ := h
        go_wp2
        refine ⟨⟨k + 1, q', HLT.out, by go_num, HQ'.out, by rw [HT2.out], by rw [HT2.out], KC6.out, HB6.out⟩, ?_⟩
        simp [intOf]
        have := HLT.out
        omega
      · have f1 : (wh == 1) = false := by rw [beq_eq_false_iff_ne]; exact h1
        clear h1
        by_cases h3 : wh = 3
        · subst h3
          have h := HSP.out.2 rfl
          have p1 : decide (b1 > a1) = false := decide_eq_false (by have := h.1; simp only at this; omega)
          have p1' : decide (a1 < b1) = false := decide_eq_false (by have := h.1; simp only at this; omega)
          have p2 : decide (b2 > a2) = false := decide_eq_false (by have := h.2; simp only at this; omega)
          have p2' : decide (a2 < b2) = false := decide_eq_false (by have := h.2; simp only at this; omega)
          clear h
          go_wp2
          refine ⟨⟨k + 1, q', HLT.out, by go_num, HQ'.out, by rw [HT2.out], by rw [HT2.out], KC6.out, HB6.out⟩, ?_⟩
          simp [intOf]
          have := HLT.out
          omega
        · have f3 : (wh == 3) = false := by rw [beq_eq_false_iff_ne]; exact h3
          clear h3
          go_wp2
          refine ⟨⟨k + 1, q', HLT.out, by go_num, HQ'.out, by rw [HT2.out], by rw [HT2.out], KC6.out, HB6.out⟩, ?_⟩
          simp [intOf]
          have := HLT.out
          omega
    · obtain rfl : k = n2 := by omega
      have d2 : decide ((k : Int) + 1 ≤ (k : Int)) = false := decide_eq_false (by omega)
      have d2' : decide ((k : Int) < (k : Int)) = false := decide_eq_false (by omega)
      have d2'' : decide (k < k) = false := decide_eq_false (by omega)
      have d2c : decide (k + 1 ≤ k) = false := decide_eq_false (by omega)
      go_wp2
      go_ret
      exact ⟨rfl, HB.out⟩
end Go.Proofs.Ytoinjnocopejjaa.roomEvents
