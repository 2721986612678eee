/- The walk of ModelMany. -/
import Derived.Test.YtoinjnocopejjaaLG
import Derived.Test.YtoinjnocopejjaaWO
import Derived.Test.YtoinjnocopejjaaOC
import Derived.Test.YtoinjnocopejjaaSA
import Derived.Test.YtoinjnocopejjaaMO2
import Derived.Test.YtoinjnocopejjaaNZ
import Derived.Test.YtoinjnocopejjaaSM
import Derived.Test.YtoinjnocopejjaaAR
import Derived.StillTailTactics
namespace Go.Proofs.Ytoinjnocopejjaa.modelMany
open Go.ChangeShapes Go.WideShapes Go.ChangeAt Go.RowKit Go.Maps
set_option linter.unusedVariables false
set_option linter.unusedSimpArgs false
theorem wq_l (q n : Nat) (h : q < n) (hn : n ≤ 1000) : IntKind.i64.wrap ((q : Int) + 1) = (q : Int) + 1 ∧ wrap64 ((q : Int) + 1) = (q : Int) + 1 := ⟨IntWalk.i64_in _ (by omega), by unfold wrap64; omega⟩
theorem ws_l (a b : Nat) (h : a + b ≤ 512) : IntKind.i64.wrap ((a : Int) + (b : Int)) = (a : Int) + (b : Int) ∧ wrap64 ((a : Int) + (b : Int)) = (a : Int) + (b : Int) := ⟨IntWalk.i64_in _ (by omega), by unfold wrap64; omega⟩
theorem ms_l (q n : Nat) (h : q < n + 1) : n + 1 - (intOf (.int .i64 ((q : Int) + 1))).toNat < n + 1 - (intOf (.int .i64 (q : Int))).toNat := by simp [intOf]; omega
theorem ms_0 (q n : Nat) (h : q < n) : n - (intOf (.int .i64 ((q : Int) + 1))).toNat < n - (intOf (.int .i64 (q : Int))).toNat := by simp [intOf]; omega
theorem many_end {s : MS} {nk : Nat} {c : Conf} (h : OkM s) (hn : s.rows.length = nk) (hc : s.cf = c) : decide ((nk : Int) > c.ke) = false ∧ decide (c.ke < (nk : Int)) = false ∧ (((sumK retR s.rows : Nat) : Int) != ((sumK retR s.rows : Nat) : Int)) = false ∧ decide (((actN s.txns : Nat) : Int) > c.ac) = false ∧ decide (c.ac < ((actN s.txns : Nat) : Int)) = false ∧ decide (s.clock > c.ts) = false ∧ decide (c.ts < s.clock) = false ∧ decide (s.floor > s.clock) = false ∧ decide (s.clock < s.floor) = false := by
  have h1 := h.keys
  have h2 := h.act
  have h3 := h.clk
  have h4 := h.flo
  rw [hc] at h1 h2 h3
  rw [hn] at h1
  exact ⟨decide_eq_false (by omega), decide_eq_false (by omega), bne_self_eq_false _, decide_eq_false (by omega), decide_eq_false (by omega), decide_eq_false (by omega), decide_eq_false (by omega), decide_eq_false (by omega), decide_eq_false (by omega)⟩
theorem wm_l (q q0 n : Nat) (h : q < n) (hn : n ≤ 1000) (e : q = q0 + 1) : IntKind.i64.wrap ((q : Int) - 1) = (q0 : Int) ∧ wrap64 ((q : Int) - 1) = (q0 : Int) := ⟨by rw [IntWalk.i64_in _ (by omega)]; omega, by unfold wrap64; omega⟩
theorem dec_at {l : List Ver} (h : l.Pairwise fun a b => b.ts < a.ts) {q q0 : Nat} (hq : q < l.length) (e : q = q0 + 1) : (l.getD q ver0).ts < (l.getD q0 ver0).ts := by
  have h0 : q0 < l.length := by omega
  have := List.pairwise_iff_getElem.1 h q0 q h0 hq (by omega)
  simp only [List.getD_eq_getElem?_getD, List.getElem?_eq_getElem hq, List.getElem?_eq_getElem h0]
  exact this
theorem blk_neT {W : World} {p q : Nat} {c c2 : Array Value} {t t2 : TypeId} (h : Blk W p c t) (h2 : Blk W q c2 t2) (hne : t ≠ t2) : p ≠ q := fun e => by
  subst e
  have h1 : W.heap[p]? = some (.cells c t (0, 0)) := h
  rw [show W.heap[p]? = some (.cells c2 t2 (0, 0)) from h2] at h1
  simp only [Option.some.injEq, Obj.cells.injEq] at h1
  exact hne h1.2.1.symm
theorem sumK_take (g : Rw → Nat) (l : List (ByteArray × Rw)) (j : Nat) (q : ByteArray × Rw) (h : l[j]? = some q) : sumK g (l.take (j + 1)) = sumK g (l.take j) + g q.2 := by
  unfold sumK
  rw [List.take_add_one, h]
  simp
theorem sumK_take_le (g : Rw → Nat) (l : List (ByteArray × Rw)) (j : Nat) : sumK g (l.take j) ≤ sumK g l := by
  have h : sumK g l = sumK g (l.take j) + sumK g (l.drop j) := by
    unfold sumK
    rw [← List.sum_append, ← List.map_append, List.take_append_drop]
  omega
set_option maxRecDepth 100000 in
set_option maxHeartbeats 1600000 in
theorem walk (c : Conf) (A : Option Addr) (n cc : Nat) (L : List Tn) (w : World) (hS : RSl tnE 8 w A n L) (hz : ∀ r ∈ L, TnOk r) : Calls Try.prog 7 #[c.val, .slice A n cc] w fun e w' => e = .returned (.bool true) ∧ Below w.heap.size w w' := by
  have HS : Hid (∀ W, Below w.heap.size w W → RSl tnE 8 W A n L) := Lib.hid (fun W hb => hS.later hb)
  have HZ := Lib.hid hz
  have HLN : Hid (L.length = n) := Lib.hid hS.1
  have HB : Hid (Below w.heap.size w (w.alloc (.cells #[.int .i64 c.ta, .int .i64 c.ac, .int .i64 c.ke, .int .i64 c.de, .int .i64 c.ts, .int .i64 c.kl, .int .i64 c.vl, .int .i64 c.fa] 45))) := Lib.hid ((Below.refl _ _).alloc (Nat.le_refl _) _)
  have KC : Hid (Blk (w.alloc (.cells #[.int .i64 c.ta, .int .i64 c.ac, .int .i64 c.ke, .int .i64 c.de, .int .i64 c.ts, .int .i64 c.kl, .int .i64 c.vl, .int .i64 c.fa] 45)) w.heap.size #[.int .i64 c.ta, .int .i64 c.ac, .int .i64 c.ke, .int .i64 c.de, .int .i64 c.ts, .int .i64 c.kl, .int .i64 c.vl, .int .i64 c.fa] 45) := Lib.hid (Blk.new w _ 45)
  clear hS hz
  show Calls Try.prog 7 _ w _
  unfold Conf.val
  go_enter Try.func7, Try.ntmps7
  go_upto_region 1 with (fail)
  generalize (w.alloc (.cells #[.int .i64 c.ta, .int .i64 c.ac, .int .i64 c.ke, .int .i64 c.de, .int .i64 c.ts, .int .i64 c.kl, .int .i64 c.vl, .int .i64 c.fa] 45)) = w1 at *
  go_wp2_with fail
  refine (works_any _).mono ?_
  rintro e w2 ⟨rfl, hb⟩
  replace HB := Lib.hid (stepB HB.out hb)
  replace KC := Lib.hid (KC.out.later hb)
  clear hb
  go_wp2_with fail
  refine (large_any A n cc L _ (HS.out _ HB.out)).mono ?_
  rintro e w3 ⟨rfl, hb⟩
  replace HB := Lib.hid (stepB HB.out hb)
  replace KC := Lib.hid (KC.out.later hb)
  clear hb
  obtain ⟨b, hlg⟩ : ∃ b, decide (12000 ≤ lgT L) = b := ⟨_, rfl⟩
  rw [hlg]
  cases b with
  | true =>
    go_wp2_with fail
    refine (works_any _).mono ?_
    rintro e w4 ⟨rfl, hb⟩
    replace HB := Lib.hid (stepB HB.out hb)
    replace KC := Lib.hid (KC.out.later hb)
    clear hb
    go_wp2
    go_ret
    exact ⟨rfl, HB.out⟩
  | false =>
    have HLG : Hid (L.length < 200) := Lib.hid (lg_len (by have := of_decide_eq_false hlg; omega))
    clear hlg
    have z0 := KC.out.cell 0
    have z1 := KC.out.cell 1
    have z2 := KC.out.cell 2
    have z3 := KC.out.cell 3
    have z4 := KC.out.cell 4
    have z5 := KC.out.cell 5
    have z6 := KC.out.cell 6
    have z7 := KC.out.cell 7
    simp only [List.getElem?_toArray, List.getElem?_cons_zero, List.getElem?_cons_succ] at z0 z1 z2 z3 z4 z5 z6 z7
    go_wp2_with fail
    refine (new_any c _).mono ?_
    rintro e w4 ⟨hb, hnew⟩
    have HBP := Lib.hid HB.out.size
    replace HB := Lib.hid (stepB HB.out hb)
    replace KC := Lib.hid (KC.out.later hb)
    have hnew2 := hnew.symm
    clear hnew z0 z1 z2 z3 z4 z5 z6 z7
    rcases hnew2 with ⟨hmay, rfl⟩ | ⟨hmay, p1, S1, rfl, hm1⟩
    · clear hb hmay
      go_wp2
      go_ret
      exact ⟨rfl, HB.out⟩
    have HQ1 : Hid (MQ_ w4 w.heap.size (ownT w3 (fun _ => 0) p1) p1 (newM c)) := Lib.hid (MQ_.new hm1 HBP.out)
    have HB4 := Lib.hid HB.out
    have KC4 := Lib.hid KC.out
    clear hb hmay hm1 HBP KC HB
    obtain ⟨own, hown⟩ : ∃ o, ownT w3 (fun _ => 0) p1 = o := ⟨_, rfl⟩
    rw [hown] at HQ1
    clear hown
    go_wp2
    go_loopw [7] (fun i W => ∃ (k : Nat) (own : Nat → Nat), k ≤ n ∧ i = .int .i64 k ∧ MQ_ W w.heap.size own p1 (runM (newM c) (L.take k)) ∧ Blk W w.heap.size #[.int .i64 c.ta, .int .i64 c.ac, .int .i64 c.ke, .int .i64 c.de, .int .i64 c.ts, .int .i64 c.kl, .int .i64 c.vl, .int .i64 c.fa] 45 ∧ Below w.heap.size w W) (fun i _ => n - (intOf i).toNat)
    case atStart => exact ⟨0, own, Nat.zero_le _, rfl, HQ1.out, KC4.out, HB4.out⟩
    case round =>
      obtain ⟨k, own, hk, rfl, hq1, hkc, hb⟩ := hrel
      have HN2 : Hid (n < 200) := Lib.hid (by rw [← HLN.out]; exact HLG.out)
      clear HQ1 HB4 KC4
      have HQ1 := Lib.hid hq1
      have KCW := Lib.hid hkc
      have HBW := Lib.hid hb
      clear hq1 hb hkc
      have HT1 : Hid ((runM (newM c) (L.take k)).txns.length ≤ 1000) := Lib.hid (runM_tx c L k (by have := HLG.out; omega))
      by_cases hlt : k < n
      · have d2 : decide ((k : Int) < (n : Int)) = true := decide_eq_true (by omega)
        have wk : IntKind.i64.wrap ((k : Int) + 1) = (k : Int) + 1 := IntWalk.i64_in _ (by have := HN2.out; omega)
        have wk2 : wrap64 ((k : Int) + 1) = (k : Int) + 1 := by have := HN2.out; unfold wrap64; omega
        obtain ⟨g, off, rfl, hg, hc⟩ := (HS.out wr HBW.out).2 (by omega)
        have i1 := idx55 g off n cc k (k : Int) rfl hlt
        have hrk : L[k]? = some (L[k]'(by rw [HLN.out]; exact hlt)) := List.getElem?_eq_getElem _
        have hok := HZ.out _ (List.mem_of_getElem? hrk)
        generalize L[k]'(by rw [HLN.out]; exact hlt) = r at *
        obtain ⟨ta, kn, tx, ke, en, va, li, eg⟩ := r
        have HTK := Lib.hid (runM_take (newM c) L k _ hrk)
        have HRK := Lib.hid hrk
        have HCO := Lib.hid hok.2
        have hcell : ∀ W, Below w.heap.size w W → W.cell? ⟨g, off + k * 8, none⟩ = some (.int .i64 ta) ∧ W.cell? ⟨g, off + k * 8 + 1, none⟩ = some (.int .u8 kn) ∧ W.cell? ⟨g, off + k * 8 + 1 + 1, none⟩ = some (.int .i64 tx) ∧ W.cell? ⟨g, off + k * 8 + 1 + 2, none⟩ = some (.string ke) ∧ W.cell? ⟨g, off + k * 8 + 1 + 3, none⟩ = some (.string en) ∧ W.cell? ⟨g, off + k * 8 + 1 + 4, none⟩ = some (.string va) ∧ W.cell? ⟨g, off + k * 8 + 1 + 5, none⟩ = some (.int .i64 li) ∧ W.cell? ⟨g, off + k * 8 + 1 + 6, none⟩ = some (.int .u8 eg) := fun W hW => by
          obtain ⟨g2, off2, e, hg2, hc2⟩ := (HS.out W hW).2 (by omega)
          cases e
          exact ⟨hc2 k _ hrk 0 (by decide), hc2 k _ hrk 1 (by decide), hc2 k _ hrk 2 (by decide), hc2 k _ hrk 3 (by decide), hc2 k _ hrk 4 (by decide), hc2 k _ hrk 5 (by decide), hc2 k _ hrk 6 (by decide), hc2 k _ hrk 7 (by decide)⟩
        have HCE := Lib.hid hcell
        obtain ⟨y0, y1, y2, y3, y4, y5, y6, y7⟩ := hcell wr HBW.out
        clear hc hg hrk hok hcell
        obtain ⟨s1, hs1⟩ : ∃ s1, runM (newM c) (L.take k) = s1 := ⟨_, rfl⟩
        have HCF : Hid (s1.cf = c) := Lib.hid (by rw [← hs1]; exact runM_cf _ _)
        obtain ⟨R1, hR1⟩ : ∃ R, doM s1 ta (kn, tx, ke, en, va, li, eg) = R := ⟨_, rfl⟩
        obtain ⟨t1, er1, fo1, va1, pr1⟩ := R1
        have HTK2 : Hid (runM (newM c) (L.take (k + 1)) = t1) := Lib.hid (by rw [HTK.out, hs1]; unfold stp; rw [hR1])
        rw [hs1] at HQ1 HT1
        clear hs1 HTK
        have HC1 : Hid (∀ W own, MQ_ W w.heap.size own p1 s1 → Calls Try.prog 18 #[.pointer (some ⟨p1, 0, none⟩), .int .i64 ta, .agg #[.int .u8 (kn : Int), .int .i64 tx, .string ke, .string en, .string va, .int .i64 li, .int .u8 (eg : Int)]] W (DoE w.heap.size own p1 t1 (er1, fo1, va1, pr1) W)) := Lib.hid (fun W own h => by
          have := mq_do h ta tx li ke en va kn eg (by have := HT1.out; omega) HCO.out
          rw [hR1] at this; exact this)
        have HES : Hid (er1 ≠ 0 → er1 ≠ 35 → t1 = s1) := Lib.hid (fun h1 h2 => by
          have := err_same s1 ta (kn, tx, ke, en, va, li, eg) (by rw [hR1]; exact h1) (by rw [hR1]; exact h2)
          rw [hR1] at this; exact this)
        have HOK : Hid (OkM t1) := Lib.hid (by have := HQ1.out.ok.do_ ta (kn, tx, ke, en, va, li, eg); rw [hR1] at this; exact this)
        have HCT : Hid (t1.cf = c) := Lib.hid (by have := doM_cf s1 ta (kn, tx, ke, en, va, li, eg); rw [hR1] at this; rw [← HCF.out]; exact this)
        have HTT : Hid (t1.txns.length ≤ 1001) := Lib.hid (by have := doM_txns s1 ta (kn, tx, ke, en, va, li, eg); rw [hR1] at this; simp only at this; have := HT1.out; omega)
        have HLP : Hid (pr1.length ≤ 100000) := Lib.hid (by
          have := pairs_le s1 ta (kn, tx, ke, en, va, li, eg)
          rw [hR1] at this
          simp only at this; omega)
        have HLT := Lib.hid hlt
        clear hR1 hlt hk
        go_wp2_with fail
        refine (mq_copy HQ1.out (by have := HT1.out; omega)).mono ?_
        rintro e w7 ⟨pw, own', rfl, hqw, hall, hb⟩
        have HQW := Lib.hid hqw
        have HNW1 := Lib.hid (hall _ _ HQ1.out).2
        replace HQ1 := Lib.hid (hall _ _ HQ1.out).1
        replace KCW := Lib.hid (KCW.out.later hb)
        replace HBW := Lib.hid (stepB HBW.out hb)
        clear hqw hall hb y0 y1 y2 y3 y4 y5 y6 y7
        go_upto_region 10 with (fail)
        go_cut [9] (fun s9 W => ∃ (own : Nat → Nat) (pa : Nat) (A1 : Option Addr) (c1 : Nat), s9 = .pointer (some ⟨pa, 0, none⟩) ∧ Blk W pa #[.int .i64 er1, .bool fo1, .string va1, .slice A1 pr1.length c1] 33 ∧ ROwn pvc 2 W w.heap.size 129 (.slice A1 pr1.length c1) pr1.length pr1 ∧ MQ_ W w.heap.size own p1 t1 ∧ MQ_ W w.heap.size own pw s1 ∧ Blk W w.heap.size #[.int .i64 c.ta, .int .i64 c.ac, .int .i64 c.ke, .int .i64 c.de, .int .i64 c.ts, .int .i64 c.kl, .int .i64 c.vl, .int .i64 c.fa] 45 ∧ Below w.heap.size w W)
        case first =>
          refine wp_region_noPanic ?_
          obtain ⟨W0, rfl⟩ : ∃ W0 : World, W0 = w7 := ⟨_, rfl⟩
          refine wp_region_held_drew (S := fun W => Below w.heap.size w W) (by kernel_rfl) (Below.drew HBW.out) (fun hHeld => ?_)
          replace HBW : Hid (Below w.heap.size w (World.drew W0)) := Lib.hid (Below.drew HBW.out)
          replace HQ1 := Lib.hid (HQ1.out.later (Below.drew (Below.refl _ _)))
          replace HQW := Lib.hid (HQW.out.later (Below.drew (Below.refl _ _)))
          replace KCW := Lib.hid (KCW.out.later (Below.drew (Below.refl _ _)))
          generalize World.drew W0 = Wd at *
          refine wpAnyH_take (i := 0) (oi := { dst := some 40, op := Op.move (Operand.tmp 5), type := 22, pos := "outright.go:340", after := #[], guard := none }) (v := ?_) rfl (by kernel_rfl) (by kernel_rfl) (by kernel_rfl) (fun _ _ _ h => h) (Or.inl ⟨by rfl, ?_⟩) (by assumption) ?_
          rotate_left
          · intro W hSw
            clear hSw
            go_simp
            try with_reducible rfl
          simp only [Act.put, List.setIfInBounds_toArray, List.set_cons_zero, List.set_cons_succ]
          refine wpAnyH_take (i := 1) (oi := { dst := some 41, op := Op.move (Operand.tmp 1), type := 55, pos := "outright.go:340", after := #[], guard := none }) (v := ?_) rfl (by kernel_rfl) (by kernel_rfl) (by kernel_rfl) (fun _ _ _ h => h) (Or.inl ⟨by rfl, ?_⟩) (by assumption) ?_
          rotate_left
          · intro W hSw
            clear hSw
            go_simp
            try with_reducible rfl
          simp only [Act.put, List.setIfInBounds_toArray, List.set_cons_zero, List.set_cons_succ]
          refine wpAnyH_take (i := 2) (oi := { dst := some 42, op := Op.move (Operand.tmp 7), type := 3, pos := "outright.go:340", after := #[], guard := none }) (v := ?_) rfl (by kernel_rfl) (by kernel_rfl) (by kernel_rfl) (fun _ _ _ h => h) (Or.inl ⟨by rfl, ?_⟩) (by assumption) ?_
          rotate_left
          · intro W hSw
            clear hSw
            go_simp
            try with_reducible rfl
          simp only [Act.put, List.setIfInBounds_toArray, List.set_cons_zero, List.set_cons_succ]
          refine wpAnyH_take (i := 3) (oi := { dst := some 43, op := Op.indexAddr 55 (Operand.tmp 41) (Operand.tmp 42), type := 0, pos := "outright.go:340", after := #[{ on := 1, ground := Ground.data }, { on := 2, ground := Ground.data }], guard := none }) (v := ?_) rfl (by kernel_rfl) (by kernel_rfl) (by kernel_rfl) (fun _ _ _ h => h) (Or.inl ⟨by rfl, ?_⟩) (by assumption) ?_
          rotate_left
          · intro W hSw
            clear hSw
            go_simp
            try with_reducible rfl
          simp only [Act.put, List.setIfInBounds_toArray, List.set_cons_zero, List.set_cons_succ]
          refine wpAnyH_take (i := 4) (oi := { dst := some 44, op := Op.fieldAddr 63 (Operand.tmp 43) 0, type := 0, pos := "outright.go:340", after := #[{ on := 3, ground := Ground.data }], guard := none }) (v := ?_) rfl (by kernel_rfl) (by kernel_rfl) (by kernel_rfl) (fun _ _ _ h => h) (Or.inl ⟨by rfl, ?_⟩) (by assumption) ?_
          rotate_left
          · intro W hSw
            clear hSw
            go_simp
            try with_reducible rfl
          simp only [Act.put, List.setIfInBounds_toArray, List.set_cons_zero, List.set_cons_succ]
          refine wpAnyH_take (i := 5) (oi := { dst := some 45, op := Op.load 3 (Operand.tmp 44), type := 3, pos := "outright.go:340", after := #[{ on := 4, ground := Ground.data }], guard := none }) (v := ?_) rfl (by kernel_rfl) (by kernel_rfl) (by kernel_rfl) (fun _ _ _ h => h) (Or.inl ⟨by rfl, ?_⟩) (by assumption) ?_
          rotate_left
          · intro W hSw
            obtain ⟨y0, y1, y2, y3, y4, y5, y6, y7⟩ := HCE.out _ hSw
            clear hSw
            go_simp
            try with_reducible rfl
          simp only [Act.put, List.setIfInBounds_toArray, List.set_cons_zero, List.set_cons_succ]
          refine wpAnyH_take (i := 6) (oi := { dst := some 46, op := Op.move (Operand.tmp 1), type := 55, pos := "outright.go:340", after := #[], guard := none }) (v := ?_) rfl (by kernel_rfl) (by kernel_rfl) (by kernel_rfl) (fun _ _ _ h => h) (Or.inl ⟨by rfl, ?_⟩) (by assumption) ?_
          rotate_left
          · intro W hSw
            clear hSw
            go_simp
            try with_reducible rfl
          simp only [Act.put, List.setIfInBounds_toArray, List.set_cons_zero, List.set_cons_succ]
          refine wpAnyH_take (i := 7) (oi := { dst := some 47, op := Op.move (Operand.tmp 7), type := 3, pos := "outright.go:340", after := #[], guard := none }) (v := ?_) rfl (by kernel_rfl) (by kernel_rfl) (by kernel_rfl) (fun _ _ _ h => h) (Or.inl ⟨by rfl, ?_⟩) (by assumption) ?_
          rotate_left
          · intro W hSw
            clear hSw
            go_simp
            try with_reducible rfl
          simp only [Act.put, List.setIfInBounds_toArray, List.set_cons_zero, List.set_cons_succ]
          refine wpAnyH_take (i := 8) (oi := { dst := some 48, op := Op.indexAddr 55 (Operand.tmp 46) (Operand.tmp 47), type := 0, pos := "outright.go:340", after := #[{ on := 6, ground := Ground.data }, { on := 7, ground := Ground.data }], guard := none }) (v := ?_) rfl (by kernel_rfl) (by kernel_rfl) (by kernel_rfl) (fun _ _ _ h => h) (Or.inl ⟨by rfl, ?_⟩) (by assumption) ?_
          rotate_left
          · intro W hSw
            clear hSw
            go_simp
            try with_reducible rfl
          simp only [Act.put, List.setIfInBounds_toArray, List.set_cons_zero, List.set_cons_succ]
          refine wpAnyH_take (i := 9) (oi := { dst := some 49, op := Op.fieldAddr 63 (Operand.tmp 48) 1, type := 0, pos := "outright.go:340", after := #[{ on := 8, ground := Ground.data }], guard := none }) (v := ?_) rfl (by kernel_rfl) (by kernel_rfl) (by kernel_rfl) (fun _ _ _ h => h) (Or.inl ⟨by rfl, ?_⟩) (by assumption) ?_
          rotate_left
          · intro W hSw
            clear hSw
            go_simp
            try with_reducible rfl
          simp only [Act.put, List.setIfInBounds_toArray, List.set_cons_zero, List.set_cons_succ]
          refine wpAnyH_take (i := 10) (oi := { dst := some 50, op := Op.load 36 (Operand.tmp 49), type := 36, pos := "outright.go:340", after := #[{ on := 9, ground := Ground.data }], guard := none }) (v := ?_) rfl (by kernel_rfl) (by kernel_rfl) (by kernel_rfl) (fun _ _ _ h => h) (Or.inl ⟨by rfl, ?_⟩) (by assumption) ?_
          rotate_left
          · intro W hSw
            obtain ⟨y0, y1, y2, y3, y4, y5, y6, y7⟩ := HCE.out _ hSw
            clear hSw
            go_simp
            try with_reducible rfl
          simp only [Act.put, List.setIfInBounds_toArray, List.set_cons_zero, List.set_cons_succ]
          refine wpAnyH_ready (rs := [11, 12]) (by kernel_rfl) (by simp) (AllReadyH.cons (o := { dst := some 51, op := Op.call { callee := Callee.value (Operand.func 18), args := #[Operand.tmp 40, Operand.tmp 45, Operand.tmp 50], argTypes := #[22, 3, 36] }, type := 33, pos := "outright.go:340", after := #[{ on := 0, ground := Ground.data }, { on := 5, ground := Ground.data }, { on := 10, ground := Ground.data }], guard := none }) rfl (fun K hK => ?_) (AllReadyH.cons (o := { dst := some 9, op := Op.alloc 33, type := 0, pos := "outright.go:340", after := #[], guard := none }) rfl (fun K hK => ?_) AllReadyH.nil))
          · have HCL := Lib.hid (HC1.out Wd _ HQ1.out)
            go_simp
            refine HCL.out.mono ?_
            rintro e Wp1 ⟨A1, c1, rfl, hro, hm, hoth, hkp, hbl⟩
            have HROS := Lib.hid (hro.base HBW.out.size)
            replace HQ1 := Lib.hid hm
            replace HQW := Lib.hid (hoth _ _ HNW1.out.symm HQW.out)
            replace KCW := Lib.hid (hkp.blk _ _ _ KCW.out (by decide) (by decide) (by decide) (by decide))
            have RO1 := HROS
            replace HBW := Lib.hid (hbl _ _ HBW.out (Nat.le_refl _))
            clear hro hm hoth hkp hbl hHeld HCL HC1 HROS
            refine hK.out _ _ (HBW.out) (fun hHeld => ?_)
            clear hK K
            refine wpAnyH_ready (rs := [12]) (by kernel_rfl) (by simp) (AllReadyH.cons (o := { dst := some 9, op := Op.alloc 33, type := 0, pos := "outright.go:340", after := #[], guard := none }) rfl (fun K hK => ?_) AllReadyH.nil)
            go_simp
            have hb : Below Wp1.heap.size Wp1 (Wp1.alloc (.cells #[.int .i64 0, .bool false, .string ⟨#[]⟩, .slice none 0 0] 33)) := (Below.refl _ _).alloc (Nat.le_refl _) _
            replace HQ1 := Lib.hid (HQ1.out.later hb)
            replace RO1 := Lib.hid (RO1.out.later hb)
            replace HQW := Lib.hid (HQW.out.later hb)
            replace KCW := Lib.hid (KCW.out.later hb)
            have KA : Hid (Blk (Wp1.alloc (.cells #[.int .i64 0, .bool false, .string ⟨#[]⟩, .slice none 0 0] 33)) Wp1.heap.size #[.int .i64 0, .bool false, .string ⟨#[]⟩, .slice none 0 0] 33) := Lib.hid (Blk.new Wp1 _ 33)
            have HPKA : Hid (w.heap.size ≤ Wp1.heap.size) := Lib.hid HBW.out.size
            replace HBW := Lib.hid (stepB HBW.out hb)
            clear hb hHeld
            refine hK.out _ _ (HBW.out) (fun hHeld => ?_)
            clear hK K
            generalize Wp1.alloc (.cells #[.int .i64 0, .bool false, .string ⟨#[]⟩, .slice none 0 0] 33) = Wp2 at *
            obtain ⟨pa, hpp⟩ : ∃ x, Wp1.heap.size = x := ⟨_, rfl⟩
            rw [hpp] at KA HPKA ⊢
            clear hpp
            refine wpAnyH_ready (rs := [13]) (by kernel_rfl) (by simp) (AllReadyH.cons (o := { dst := none, op := Op.store 33 (Operand.tmp 9) (Operand.tmp 51), type := 0, pos := "outright.go:340", after := #[{ on := 12, ground := Ground.data }, { on := 11, ground := Ground.data }, { on := 11, ground := Ground.chain }, { on := 0, ground := Ground.phase }, { on := 1, ground := Ground.phase }, { on := 2, ground := Ground.phase }, { on := 3, ground := Ground.phase }, { on := 4, ground := Ground.phase }, { on := 5, ground := Ground.phase }, { on := 6, ground := Ground.phase }, { on := 7, ground := Ground.phase }, { on := 8, ground := Ground.phase }, { on := 9, ground := Ground.phase }, { on := 10, ground := Ground.phase }, { on := 11, ground := Ground.phase }, { on := 12, ground := Ground.phase }], guard := none }) rfl (fun K hK => ?_) AllReadyH.nil)
            refine wp_store_row 33 (.tmp 9) (.tmp 51) rfl pa #[.int .i64 er1, .bool fo1, .string va1, .slice A1 pr1.length c1] rfl rfl 33 #[.int .i64 0, .bool false, .string ⟨#[]⟩, .slice none 0 0] KA.out (by kernel_rfl) rfl (by first | rfl | (simp [Value.oneCell']; done)) ?_
            replace HQ1 : Hid (MQ_ (Wp2.setRow pa #[.int .i64 er1, .bool fo1, .string va1, .slice A1 pr1.length c1]) _ _ _ _) := Lib.hid (HQ1.out.setRow KA.out (by decide) (by decide) (by decide) (by decide) (by decide))
            replace RO1 := Lib.hid (ROwn.setRow (c2 := #[.int .i64 er1, .bool fo1, .string va1, .slice A1 pr1.length c1]) RO1.out KA.out (by decide))
            replace HQW : Hid (MQ_ (Wp2.setRow pa #[.int .i64 er1, .bool fo1, .string va1, .slice A1 pr1.length c1]) _ _ _ _) := Lib.hid (HQW.out.setRow KA.out (by decide) (by decide) (by decide) (by decide) (by decide))
            replace KCW : Hid (Blk (Wp2.setRow pa #[.int .i64 er1, .bool fo1, .string va1, .slice A1 pr1.length c1]) _ _ _) := Lib.hid (Blk.setRow KCW.out (blk_neT KCW.out KA.out (by decide)))
            replace HBW : Hid (Below w.heap.size w (Wp2.setRow pa #[.int .i64 er1, .bool fo1, .string va1, .slice A1 pr1.length c1])) := Lib.hid (below_setRow HBW.out HPKA.out _)
            replace KA : Hid (Blk (Wp2.setRow pa #[.int .i64 er1, .bool fo1, .string va1, .slice A1 pr1.length c1]) pa #[.int .i64 er1, .bool fo1, .string va1, .slice A1 pr1.length c1] 33) := Lib.hid (Blk.setRow_self KA.out)
            clear hHeld
            refine hK.out _ _ (HBW.out) (fun hHeld => ?_)
            clear hK K
            generalize Wp2.setRow pa #[.int .i64 er1, .bool fo1, .string va1, .slice A1 pr1.length c1] = Wp3 at *
            refine wpAnyH_done (by kernel_rfl) (NoPanic.normal ?_) _
            clear hHeld
            go_wp2
            go_meet
            exact ⟨_, _, _, _, rfl, KA.out, RO1.out, HQ1.out, HQW.out, KCW.out, HBW.out⟩
          · go_simp
            have hb : Below Wd.heap.size Wd (Wd.alloc (.cells #[.int .i64 0, .bool false, .string ⟨#[]⟩, .slice none 0 0] 33)) := (Below.refl _ _).alloc (Nat.le_refl _) _
            replace HQ1 := Lib.hid (HQ1.out.later hb)
            replace HQW := Lib.hid (HQW.out.later hb)
            replace KCW := Lib.hid (KCW.out.later hb)
            have KA : Hid (Blk (Wd.alloc (.cells #[.int .i64 0, .bool false, .string ⟨#[]⟩, .slice none 0 0] 33)) Wd.heap.size #[.int .i64 0, .bool false, .string ⟨#[]⟩, .slice none 0 0] 33) := Lib.hid (Blk.new Wd _ 33)
            have HPKA : Hid (w.heap.size ≤ Wd.heap.size) := Lib.hid HBW.out.size
            replace HBW := Lib.hid (stepB HBW.out hb)
            clear hb hHeld
            refine hK.out _ _ (HBW.out) (fun hHeld => ?_)
            clear hK K
            generalize Wd.alloc (.cells #[.int .i64 0, .bool false, .string ⟨#[]⟩, .slice none 0 0] 33) = Wp4 at *
            obtain ⟨pa, hpp⟩ : ∃ x, Wd.heap.size = x := ⟨_, rfl⟩
            rw [hpp] at KA HPKA ⊢
            clear hpp
            refine wpAnyH_ready (rs := [11]) (by kernel_rfl) (by simp) (AllReadyH.cons (o := { dst := some 51, op := Op.call { callee := Callee.value (Operand.func 18), args := #[Operand.tmp 40, Operand.tmp 45, Operand.tmp 50], argTypes := #[22, 3, 36] }, type := 33, pos := "outright.go:340", after := #[{ on := 0, ground := Ground.data }, { on := 5, ground := Ground.data }, { on := 10, ground := Ground.data }], guard := none }) rfl (fun K hK => ?_) AllReadyH.nil)
            have HCL := Lib.hid (HC1.out Wp4 _ HQ1.out)
            go_simp
            refine HCL.out.mono ?_
            rintro e Wp5 ⟨A1, c1, rfl, hro, hm, hoth, hkp, hbl⟩
            have HROS := Lib.hid (hro.base HBW.out.size)
            replace HQ1 := Lib.hid hm
            replace KA := Lib.hid (hkp.blk _ _ _ KA.out (by decide) (by decide) (by decide) (by decide))
            replace HQW := Lib.hid (hoth _ _ HNW1.out.symm HQW.out)
            replace KCW := Lib.hid (hkp.blk _ _ _ KCW.out (by decide) (by decide) (by decide) (by decide))
            have RO1 := HROS
            replace HBW := Lib.hid (hbl _ _ HBW.out (Nat.le_refl _))
            clear hro hm hoth hkp hbl hHeld HCL HC1 HROS
            refine hK.out _ _ (HBW.out) (fun hHeld => ?_)
            clear hK K
            refine wpAnyH_ready (rs := [13]) (by kernel_rfl) (by simp) (AllReadyH.cons (o := { dst := none, op := Op.store 33 (Operand.tmp 9) (Operand.tmp 51), type := 0, pos := "outright.go:340", after := #[{ on := 12, ground := Ground.data }, { on := 11, ground := Ground.data }, { on := 11, ground := Ground.chain }, { on := 0, ground := Ground.phase }, { on := 1, ground := Ground.phase }, { on := 2, ground := Ground.phase }, { on := 3, ground := Ground.phase }, { on := 4, ground := Ground.phase }, { on := 5, ground := Ground.phase }, { on := 6, ground := Ground.phase }, { on := 7, ground := Ground.phase }, { on := 8, ground := Ground.phase }, { on := 9, ground := Ground.phase }, { on := 10, ground := Ground.phase }, { on := 11, ground := Ground.phase }, { on := 12, ground := Ground.phase }], guard := none }) rfl (fun K hK => ?_) AllReadyH.nil)
            refine wp_store_row 33 (.tmp 9) (.tmp 51) rfl pa #[.int .i64 er1, .bool fo1, .string va1, .slice A1 pr1.length c1] rfl rfl 33 #[.int .i64 0, .bool false, .string ⟨#[]⟩, .slice none 0 0] KA.out (by kernel_rfl) rfl (by first | rfl | (simp [Value.oneCell']; done)) ?_
            replace HQ1 : Hid (MQ_ (Wp5.setRow pa #[.int .i64 er1, .bool fo1, .string va1, .slice A1 pr1.length c1]) _ _ _ _) := Lib.hid (HQ1.out.setRow KA.out (by decide) (by decide) (by decide) (by decide) (by decide))
            replace RO1 := Lib.hid (ROwn.setRow (c2 := #[.int .i64 er1, .bool fo1, .string va1, .slice A1 pr1.length c1]) RO1.out KA.out (by decide))
            replace HQW : Hid (MQ_ (Wp5.setRow pa #[.int .i64 er1, .bool fo1, .string va1, .slice A1 pr1.length c1]) _ _ _ _) := Lib.hid (HQW.out.setRow KA.out (by decide) (by decide) (by decide) (by decide) (by decide))
            replace KCW : Hid (Blk (Wp5.setRow pa #[.int .i64 er1, .bool fo1, .string va1, .slice A1 pr1.length c1]) _ _ _) := Lib.hid (Blk.setRow KCW.out (blk_neT KCW.out KA.out (by decide)))
            replace HBW : Hid (Below w.heap.size w (Wp5.setRow pa #[.int .i64 er1, .bool fo1, .string va1, .slice A1 pr1.length c1])) := Lib.hid (below_setRow HBW.out HPKA.out _)
            replace KA : Hid (Blk (Wp5.setRow pa #[.int .i64 er1, .bool fo1, .string va1, .slice A1 pr1.length c1]) pa #[.int .i64 er1, .bool fo1, .string va1, .slice A1 pr1.length c1] 33) := Lib.hid (Blk.setRow_self KA.out)
            clear hHeld
            refine hK.out _ _ (HBW.out) (fun hHeld => ?_)
            clear hK K
            generalize Wp5.setRow pa #[.int .i64 er1, .bool fo1, .string va1, .slice A1 pr1.length c1] = Wp6 at *
            refine wpAnyH_done (by kernel_rfl) (NoPanic.normal ?_) _
            clear hHeld
            go_wp2
            go_meet
            exact ⟨_, _, _, _, rfl, KA.out, RO1.out, HQ1.out, HQW.out, KCW.out, HBW.out⟩
        case rest =>
        obtain ⟨own9, pa, A1, c1, rfl, ka, ro1, hq1, hqw, kcw, hb⟩ := hcut
        clear HQ1 HQW HBW HC1 KCW
        have KA := Lib.hid ka
        have RO1 := Lib.hid ro1
        have HQ1 := Lib.hid hq1
        have HQW := Lib.hid hqw
        have HBW := Lib.hid hb
        have KCW := Lib.hid kcw
        clear ka ro1 hq1 hqw kcw hb
        have u0 := KA.out.cell 0
        simp only [List.getElem?_toArray, List.getElem?_cons_zero, List.getElem?_cons_succ] at u0
        obtain ⟨wa, rfl⟩ : ∃ wa : World, wa = wc := ⟨_, rfl⟩
        go_upto_region 11 with (fail)
        go_cut [65] (fun s65 W => s65 = .bool false ∧ Below wa.heap.size wa W)
        case first =>
          by_cases h0 : er1 = 0
          · have d0 : (er1 != 0) = false := by rw [h0]; rfl
            clear h0
            go_wp2
            go_meet
            exact ⟨rfl, Below.refl _ _⟩
          · have d0 : (er1 != 0) = true := by rw [bne_iff_ne]; exact h0
            by_cases h35 : er1 = 35
            · have d35 : (er1 != 35) = false := by rw [h35]; rfl
              clear h0 h35
              go_wp2
              go_meet
              exact ⟨rfl, Below.refl _ _⟩
            · have d35 : (er1 != 35) = true := by rw [bne_iff_ne]; exact h35
              have hqw := HQW.out
              rw [← HES.out h0 h35] at hqw
              replace HQW := Lib.hid hqw
              clear h0 h35 hqw
              go_wp2_with fail
              refine (same_models w.heap.size pw p1 own9 t1 t1 _ HQW.out HQ1.out rfl rfl rfl rfl (by have := HTT.out; omega) (by have := HTT.out; omega)).mono ?_
              rintro e w9 ⟨rfl, hb⟩
              have HBM := Lib.hid hb
              clear hb
              go_wp2
              go_meet
              exact ⟨rfl, HBM.out⟩
        case rest =>
        obtain ⟨rfl, hb⟩ := hcut
        replace KA := Lib.hid (KA.out.later hb)
        replace RO1 := Lib.hid (RO1.out.later hb)
        replace HQ1 := Lib.hid (HQ1.out.later hb)
        replace HBW := Lib.hid (stepB HBW.out hb)
        replace KCW := Lib.hid (KCW.out.later hb)
        clear hb HQW u0 HES
        go_wp2_with fail
        refine (mq_keys HQ1.out).mono ?_
        rintro e w13 ⟨vk, rfl, hk, hb⟩
        have HK := Lib.hid hk
        replace KA := Lib.hid (KA.out.later hb)
        replace RO1 := Lib.hid (RO1.out.later hb)
        replace HQ1 := Lib.hid (HQ1.out.later hb)
        replace HBW := Lib.hid (stepB HBW.out hb)
        replace KCW := Lib.hid (KCW.out.later hb)
        clear hk hb
        obtain ⟨nk, hnk⟩ : ∃ nk, (t1.rows.map (·.1)).length = nk := ⟨_, rfl⟩
        have HNK : Hid (t1.rows.length = nk) := Lib.hid (by rw [← hnk, List.length_map])
        rw [hnk] at HK
        clear hnk
        obtain ⟨Ak, ck, rfl, hsl⟩ := Ow.sl HK.out
        have HSL := Lib.hid hsl
        have HN64 : Hid (nk ≤ 64 ∧ (nk : Int) ≤ c.ke) := Lib.hid (by have h1 := HOK.out.keys; have h2 := may_lo HOK.out.may; rw [HCT.out] at h1 h2; rw [← HNK.out]; omega)
        clear hsl HK
        go_wp2
        go_loopw [11, 12] (fun s11 s12 W => ∃ j : Nat, j ≤ nk ∧ s12 = .int .i64 j ∧ s11 = .int .i64 ((sumK retR (t1.rows.take j) : Nat) : Int) ∧ Below w13.heap.size w13 W) (fun _ s12 _ => nk - (intOf s12).toNat)
        case atStart => exact ⟨0, Nat.zero_le _, rfl, rfl, Below.refl _ _⟩
        case round =>
          obtain ⟨j, hj, rfl, rfl, hbj⟩ := hrel
          have HBJ := Lib.hid hbj
          clear hbj
          by_cases hjl : j < nk
          · have d2 : decide ((j : Int) < (nk : Int)) = true := decide_eq_true (by omega)
            have wk : IntKind.i64.wrap ((j : Int) + 1) = (j : Int) + 1 := IntWalk.i64_in _ (by have := HN64.out; omega)
            have wk2 : wrap64 ((j : Int) + 1) = (j : Int) + 1 := by have := HN64.out; unfold wrap64; omega
            have hrl : j < t1.rows.length := by rw [HNK.out]; exact hjl
            have hrj : t1.rows[j]? = some t1.rows[j] := List.getElem?_eq_getElem hrl
            have hmem : t1.rows[j] ∈ t1.rows := List.getElem_mem hrl
            have hkk : (t1.rows.map (·.1))[j]? = some (t1.rows[j]).1 := by rw [List.getElem?_map, hrj]; rfl
            have hget : getR t1 (t1.rows[j]).1 = (t1.rows[j]).2 := get_of_mem HOK.out.up hmem
            have hks : (t1.rows[j]).1.size ≤ maxLen := Nat.le_trans (HOK.out.ksz _ hmem) (by decide)
            have hret := HOK.out.ret _ hmem
            have hdeep := HOK.out.deep _ hmem
            have hdec := HOK.out.dec _ hmem
            have hst := sumK_take retR t1.rows j _ hrj
            have htot := sumK_take_le retR t1.rows (j + 1)
            have h512 := HOK.out.sum_le
            rw [HCT.out] at hdeep
            generalize t1.rows[j] = row at *
            obtain ⟨kk, vL, vI⟩ := row
            simp only at hkk hget hks hret hdeep hdec hst
            obtain ⟨g2, off2, rfl, hg2, hc2⟩ := HSL.out.rd.2 (by omega)
            have yk := hc2 j _ hkk
            have i2 := idx40 g2 off2 nk ck j (j : Int) rfl hjl
            have YK := Lib.hid (And.intro hg2 yk)
            have hvc : ∀ W, Below w13.heap.size w13 W → Calls Try.prog 20 #[.pointer (some ⟨p1, 0, none⟩), .string kk] W (VsEnd vL W) := fun W h => by have := mq_versions (HQ1.out.later h) kk hks; rw [hget] at this; exact this
            have hic : ∀ W, Below w13.heap.size w13 W → Calls Try.prog 16 #[.pointer (some ⟨p1, 0, none⟩), .string kk] W (RdEnd vI (decide (vI.w > 0)) W) := fun W h => by have := mq_intent (HQ1.out.later h) kk hks; rw [hget] at this; exact this
            have HVC := Lib.hid hvc
            have HIC := Lib.hid hic
            have hrw : (decide (vI.w > 0) = true → retR (vL, vI) = vL.length + 1) ∧ (decide (vI.w > 0) = false → retR (vL, vI) = vL.length) := ⟨fun e => by unfold retR; rw [if_pos (of_decide_eq_true e)], fun e => by unfold retR; rw [if_neg (of_decide_eq_false e)]⟩
            obtain ⟨bi, hbi⟩ : ∃ bi, decide (vI.w > 0) = bi := ⟨_, rfl⟩
            rw [hbi] at HIC hrw
            obtain ⟨rt, hrt⟩ : ∃ rt, retR (vL, vI) = rt := ⟨_, rfl⟩
            rw [hrt] at hret hdeep hst hrw
            obtain ⟨sj, hsj⟩ : ∃ sj, sumK retR (t1.rows.take j) = sj := ⟨_, rfl⟩
            rw [hsj] at hst ⊢
            have HSJ := Lib.hid hst
            have HRW := Lib.hid hrw
            have HRD : Hid (1 ≤ rt ∧ (rt : Int) ≤ c.de ∧ rt ≤ 1000 ∧ sj + rt ≤ 512) := Lib.hid (by omega)
            have HDN := Lib.hid hdec.dn
            have HJL := Lib.hid hjl
            have HVL : Hid (vL.length ≤ 1000) := Lib.hid (by have h1 := hrw.1; have h2 := hrw.2; cases bi with | true => have := h1 rfl; omega | false => have := h2 rfl; omega)
            clear hrl hrj hmem hkk hget hks hret hdeep hdec hst htot h512 hg2 hc2 yk hvc hic hrw hbi hrt hsj hjl hj
            obtain ⟨vw, vts, vtm, vv⟩ := vI
            have y1 := (HBJ.out.cell (p := ⟨g2, off2 + j, none⟩) YK.out.1).trans YK.out.2
            unfold sE at y1
            go_wp2_with fail
            refine (HVC.out _ HBJ.out).mono ?_
            rintro e w14 ⟨vs, rfl, hro, hb⟩
            obtain ⟨Av, cv, rfl, _, hvr⟩ := own_vrow hro
            have HVR := Lib.hid (vrow_vers hvr)
            replace HBJ := Lib.hid (stepB HBJ.out hb)
            clear hro hvr hb y1 HVC
            have y1 := (HBJ.out.cell (p := ⟨g2, off2 + j, none⟩) YK.out.1).trans YK.out.2
            unfold sE at y1
            go_wp2_with fail
            refine (HIC.out _ HBJ.out).mono ?_
            rintro e w15 ⟨rfl, hb⟩
            unfold Ver.agg
            have hb8 : Below w14.heap.size w14 (w15.alloc (.cells #[.int .i64 vw, .int .i64 vts, .bool vtm, .string vv] 26)) := hb.alloc hb.size _
            have HBJ8 : Hid (Below w13.heap.size w13 (w15.alloc (.cells #[.int .i64 vw, .int .i64 vts, .bool vtm, .string vv] 26))) := Lib.hid (stepB HBJ.out hb8)
            have HVR8 := Lib.hid (vers_later HVR.out hb8)
            clear hb hb8 HBJ HVR HIC
            go_upto_region 21 with (fail)
            clear y1
            generalize w15.alloc (.cells #[.int .i64 vw, .int .i64 vts, .bool vtm, .string vv] 26) = w16 at *
            generalize w15.heap.size = b15 at *
            go_upto_if 91 with (fail)
            go_cut [14] (fun s14 W => s14 = .int .i64 (rt : Int) ∧ w16 = W)
            case first =>
              cases bi with
              | true =>
                have he := HRW.out.1 rfl
                have wv : IntKind.i64.wrap ((vL.length : Int) + 1) = (rt : Int) := by rw [IntWalk.i64_in _ (by have := HVL.out; omega)]; omega
                have wv2 : wrap64 ((vL.length : Int) + 1) = (rt : Int) := by have := HVL.out; unfold wrap64; omega
                clear he
                go_wp2
                go_meet
                exact ⟨rfl, rfl⟩
              | false =>
                have HE := Lib.hid (HRW.out.2 rfl)
                go_wp2
                go_meet
                exact ⟨by rw [HE.out], rfl⟩
            case rest =>
            obtain ⟨rfl, rfl⟩ := hcut
            have k3 := (KCW.out.later HBJ8.out).cell 3
            have u0 := (KA.out.later HBJ8.out).cell 0
            have u1 := (KA.out.later HBJ8.out).cell 1
            have u2 := (KA.out.later HBJ8.out).cell 2
            have u3 := (KA.out.later HBJ8.out).cell 3
            simp only [List.getElem?_toArray, List.getElem?_cons_zero, List.getElem?_cons_succ] at k3 u0 u1 u2 u3
            have d5 : decide ((rt : Int) < 1) = false := decide_eq_false (by have := HRD.out; omega)
            have d5' : decide (rt < 1) = false := decide_eq_false (by have := HRD.out; omega)
            have d6 : decide ((rt : Int) > c.de) = false := decide_eq_false (by have := HRD.out; omega)
            have d6' : decide (c.de < (rt : Int)) = false := decide_eq_false (by have := HRD.out; omega)
            have HSM : Hid (Calls Try.prog 39 #[.agg #[.int .i64 er1, .bool fo1, .string va1, .slice A1 pr1.length c1], .agg #[.int .i64 er1, .bool fo1, .string va1, .slice A1 pr1.length c1]] w16 fun e w' => e = .returned (.bool true) ∧ Below w16.heap.size w16 w') := Lib.hid (by
              have := same_any A1 A1 pr1.length c1 pr1.length c1 (er1, fo1, va1, pr1) (er1, fo1, va1, pr1) w16 HLP.out ((RO1.out.later HBJ8.out).rsl pvc_len) ((RO1.out.later HBJ8.out).rsl pvc_len)
              rw [decide_eq_true rfl] at this
              exact this)
            go_wp2_with fail
            refine HSM.out.mono ?_
            rintro e w17 ⟨rfl, hb⟩
            have HBJ : Hid (Below w13.heap.size w13 w17) := Lib.hid (stepB HBJ8.out hb)
            have HVR := Lib.hid (vers_later HVR8.out hb)
            clear hb HSM k3 u0 u1 u2 u3 d5 d5' d6 d6' HBJ8 HVR8
            go_wp2
            go_loopw [17] (fun s17 W => ∃ q : Nat, 1 ≤ q ∧ q ≤ vL.length + 1 ∧ s17 = .int .i64 q ∧ Below w17.heap.size w17 W) (fun s17 _ => vL.length + 1 - (intOf s17).toNat)
            case atStart => exact ⟨1, Nat.le_refl _, by omega, rfl, Below.refl _ _⟩
            case round =>
              obtain ⟨q, hq1', hq2', rfl, hbq⟩ := hrel
              have HBQ := Lib.hid hbq
              clear hbq
              by_cases hql : q < vL.length
              · have d3 : decide ((q : Int) < (vL.length : Int)) = true := decide_eq_true (Int.ofNat_lt.2 hql)
                have d3' : decide (q < vL.length) = true := decide_eq_true hql
                obtain ⟨wq, wq2⟩ := wq_l q vL.length hql HVL.out
                obtain ⟨q0, hq0⟩ : ∃ q0, q = q0 + 1 := ⟨q - 1, (Nat.sub_add_cancel hq1').symm⟩
                obtain ⟨wm, wm2⟩ := wm_l q q0 vL.length hql HVL.out hq0
                have hq00 : q0 < vL.length := Nat.lt_of_le_of_lt (by rw [hq0]; exact Nat.le_succ _) hql
                obtain ⟨gv, ov, hav, hgv, hcv⟩ := (vers_later HVR.out HBQ.out).2 (Nat.lt_of_le_of_lt (Nat.zero_le _) hql)
                have x1 := (hcv q hql).c1
                have x0 := (hcv q0 hq00).c1
                have j1 := index_run gv ov vL.length cv q (q : Int) rfl hql
                have j0 := index_run gv ov vL.length cv q0 (q0 : Int) rfl hq00
                have hlt2 := dec_at HDN.out hql hq0
                obtain ⟨ta1, hta1⟩ : ∃ z, (vL.getD q ver0).ts = z := ⟨_, rfl⟩
                obtain ⟨ta0, hta0⟩ : ∃ z, (vL.getD q0 ver0).ts = z := ⟨_, rfl⟩
                rw [hta1] at x1 hlt2
                rw [hta0] at x0 hlt2
                have d4 : decide (ta1 ≥ ta0) = false := decide_eq_false (Int.not_le.2 hlt2)
                have d4' : decide (ta0 ≤ ta1) = false := decide_eq_false (Int.not_le.2 hlt2)
                have HQL := Lib.hid hql
                clear hcv hgv hlt2 hql hq1' hq2' hta1 hta0 hq0 hq00
                subst hav
                go_wp2
                go_quiet (fail)
                go_wp2
                exact ⟨⟨q + 1, Nat.succ_le_succ (Nat.zero_le _), Nat.succ_le_succ (Nat.le_of_lt HQL.out), by go_num, below_drewN HBQ.out _⟩, ms_l q vL.length (Nat.lt_succ_of_lt HQL.out)⟩
              · have d3 : decide ((q : Int) < (vL.length : Int)) = false := decide_eq_false (fun h => hql (Int.ofNat_lt.1 h))
                have d3' : decide (q < vL.length) = false := decide_eq_false hql
                obtain ⟨ws, ws2⟩ := ws_l sj rt HRD.out.2.2.2
                clear hq1' hq2' hql
                go_wp2
                exact ⟨⟨j + 1, HJL.out, by go_num, by rw [HSJ.out, Int.natCast_add], stepB HBJ.out HBQ.out⟩, ms_0 j nk HJL.out⟩
          · obtain rfl : nk = j := by omega
            have hsum : sumK retR (t1.rows.take nk) = sumK retR t1.rows := by rw [← HNK.out, List.take_length]
            rw [hsum]
            have d2 : decide ((nk : Int) < (nk : Int)) = false := decide_eq_false (by omega)
            obtain ⟨sm, hsm⟩ : ∃ sm, sumK retR t1.rows = sm := ⟨_, rfl⟩
            rw [hsm]
            have HSM := Lib.hid hsm
            replace HQ1 := Lib.hid (HQ1.out.later HBJ.out)
            replace KCW := Lib.hid (KCW.out.later HBJ.out)
            replace HBW := Lib.hid (stepB HBW.out HBJ.out)
            have HEN := Lib.hid (many_end HOK.out HNK.out HCT.out)
            clear hsum hsm HBJ hjl
            go_upto_region 31 with (fail)
            clear d2
            refine wp_region_noPanic ?_
            obtain ⟨W0, rfl⟩ : ∃ W0 : World, W0 = wr := ⟨_, rfl⟩
            refine wp_region_held_drew (S := fun W => Blk W w.heap.size #[.int .i64 c.ta, .int .i64 c.ac, .int .i64 c.ke, .int .i64 c.de, .int .i64 c.ts, .int .i64 c.kl, .int .i64 c.vl, .int .i64 c.fa] 45) (by kernel_rfl) (KCW.out.later (Below.drew (Below.refl _ _))) (fun hHeld => ?_)
            replace HQ1 := Lib.hid (HQ1.out.later (Below.drew (Below.refl _ _)))
            replace KCW := Lib.hid (KCW.out.later (Below.drew (Below.refl _ _)))
            replace HBW : Hid (Below w.heap.size w (World.drew W0)) := Lib.hid (Below.drew HBW.out)
            generalize World.drew W0 = Wd at *
            obtain ⟨b1, b2, b3, b4, b5, b6, b7, b8, b9⟩ := HEN.out
            rw [HSM.out] at b3
            refine wpAnyH_take (i := 0) (oi := { dst := some 129, op := Op.move (Operand.tmp 10), type := 40, pos := "outright.go:363", after := #[], guard := none }) (v := ?_) rfl (by kernel_rfl) (by kernel_rfl) (by kernel_rfl) (fun _ _ _ h => h) (Or.inl ⟨by rfl, ?_⟩) (by assumption) ?_
            rotate_left
            · intro W hSw
              clear hSw
              go_simp
              try with_reducible rfl
            simp only [Act.put, List.setIfInBounds_toArray, List.set_cons_zero, List.set_cons_succ]
            refine wpAnyH_take (i := 1) (oi := { dst := some 130, op := Op.call { callee := Callee.builtin Builtin.len, args := #[Operand.tmp 129], argTypes := #[40] }, type := 3, pos := "outright.go:363", after := #[{ on := 0, ground := Ground.data }], guard := none }) (v := ?_) rfl (by kernel_rfl) (by kernel_rfl) (by kernel_rfl) (fun _ _ _ h => h) (Or.inl ⟨by rfl, ?_⟩) (by assumption) ?_
            rotate_left
            · intro W hSw
              clear hSw
              go_simp
              try with_reducible rfl
            simp only [Act.put, List.setIfInBounds_toArray, List.set_cons_zero, List.set_cons_succ]
            refine wpAnyH_take (i := 2) (oi := { dst := some 131, op := Op.fieldAddr 45 (Operand.tmp 2) 2, type := 0, pos := "outright.go:363", after := #[], guard := none }) (v := ?_) rfl (by kernel_rfl) (by kernel_rfl) (by kernel_rfl) (fun _ _ _ h => h) (Or.inl ⟨by rfl, ?_⟩) (by assumption) ?_
            rotate_left
            · intro W hSw
              clear hSw
              go_simp
              try with_reducible rfl
            simp only [Act.put, List.setIfInBounds_toArray, List.set_cons_zero, List.set_cons_succ]
            refine wpAnyH_take (i := 3) (oi := { dst := some 132, op := Op.load 3 (Operand.tmp 131), type := 3, pos := "outright.go:363", after := #[{ on := 2, ground := Ground.data }], guard := none }) (v := ?_) rfl (by kernel_rfl) (by kernel_rfl) (by kernel_rfl) (fun _ _ _ h => h) (Or.inl ⟨by rfl, ?_⟩) (by assumption) ?_
            rotate_left
            · intro W hSw
              have q2 := hSw.cell 2
              simp only [List.getElem?_toArray, List.getElem?_cons_zero, List.getElem?_cons_succ] at q2
              clear hSw
              go_simp
              try with_reducible rfl
            simp only [Act.put, List.setIfInBounds_toArray, List.set_cons_zero, List.set_cons_succ]
            refine wpAnyH_take (i := 4) (oi := { dst := some 133, op := Op.binOp BinOp.gtr 3 (Operand.tmp 130) (Operand.tmp 132) 3, type := 4, pos := "outright.go:363", after := #[{ on := 1, ground := Ground.data }, { on := 3, ground := Ground.data }], guard := none }) (v := ?_) rfl (by kernel_rfl) (by kernel_rfl) (by kernel_rfl) (fun _ _ _ h => h) (Or.inl ⟨by rfl, ?_⟩) (by assumption) ?_
            rotate_left
            · intro W hSw
              clear hSw
              go_simp
              try with_reducible rfl
            simp only [Act.put, List.setIfInBounds_toArray, List.set_cons_zero, List.set_cons_succ]
            refine wpAnyH_take (i := 5) (oi := { dst := some 134, op := Op.move (Operand.tmp 133), type := 4, pos := "outright.go:363", after := #[{ on := 4, ground := Ground.data }], guard := none }) (v := ?_) rfl (by kernel_rfl) (by kernel_rfl) (by kernel_rfl) (fun _ _ _ h => h) (Or.inl ⟨by rfl, ?_⟩) (by assumption) ?_
            rotate_left
            · intro W hSw
              clear hSw
              go_simp
              try with_reducible rfl
            simp only [Act.put, List.setIfInBounds_toArray, List.set_cons_zero, List.set_cons_succ]
            refine wpAnyH_take (i := 6) (oi := { dst := some 135, op := Op.move (Operand.tmp 11), type := 3, pos := "outright.go:363", after := #[{ on := 5, ground := Ground.guard }], guard := some (5, false) }) (v := ?_) rfl (by kernel_rfl) (by kernel_rfl) (by kernel_rfl) (fun _ _ _ h => h) (Or.inl ⟨by rfl, ?_⟩) (by assumption) ?_
            rotate_left
            · intro W hSw
              clear hSw
              go_simp
              try with_reducible rfl
            simp only [Act.put, List.setIfInBounds_toArray, List.set_cons_zero, List.set_cons_succ]
            refine wpAnyH_take (i := 7) (oi := { dst := some 136, op := Op.move (Operand.tmp 5), type := 22, pos := "outright.go:363", after := #[{ on := 5, ground := Ground.guard }], guard := some (5, false) }) (v := ?_) rfl (by kernel_rfl) (by kernel_rfl) (by kernel_rfl) (fun _ _ _ h => h) (Or.inl ⟨by rfl, ?_⟩) (by assumption) ?_
            rotate_left
            · intro W hSw
              clear hSw
              go_simp
              try with_reducible rfl
            simp only [Act.put, List.setIfInBounds_toArray, List.set_cons_zero, List.set_cons_succ]
            refine wpAnyH_ready (rs := [8]) (by kernel_rfl) (by simp) (AllReadyH.cons (o := { dst := some 137, op := Op.call { callee := Callee.value (Operand.func 22), args := #[Operand.tmp 136], argTypes := #[22] }, type := 3, pos := "outright.go:363", after := #[{ on := 7, ground := Ground.data }, { on := 5, ground := Ground.chain }, { on := 5, ground := Ground.guard }], guard := some (5, false) }) rfl (fun K hK => ?_) AllReadyH.nil)
            have HCL := Lib.hid (mq_retained HQ1.out)
            go_simp
            refine HCL.out.mono ?_
            rintro e We ⟨rfl, hb⟩
            replace HQ1 := Lib.hid (HQ1.out.later hb)
            replace KCW := Lib.hid (KCW.out.later hb)
            replace HBW := Lib.hid (stepB HBW.out hb)
            clear hb hHeld HCL
            refine hK.out _ _ (KCW.out) (fun hHeld => ?_)
            clear hK K
            rw [HSM.out]
            refine wpAnyH_take (i := 9) (oi := { dst := some 138, op := Op.binOp BinOp.neq 3 (Operand.tmp 135) (Operand.tmp 137) 3, type := 4, pos := "outright.go:363", after := #[{ on := 6, ground := Ground.data }, { on := 8, ground := Ground.data }, { on := 5, ground := Ground.guard }], guard := some (5, false) }) (v := ?_) rfl (by kernel_rfl) (by kernel_rfl) (by kernel_rfl) (fun _ _ _ h => h) (Or.inl ⟨by rfl, ?_⟩) (by assumption) ?_
            rotate_left
            · intro W hSw
              clear hSw
              go_simp
              try with_reducible rfl
            simp only [Act.put, List.setIfInBounds_toArray, List.set_cons_zero, List.set_cons_succ]
            refine wpAnyH_take (i := 10) (oi := { dst := some 139, op := Op.pick (Operand.tmp 134) (Operand.const (Value.bool true)) (Operand.tmp 138), type := 4, pos := "outright.go:363", after := #[{ on := 5, ground := Ground.data }, { on := 9, ground := Ground.data }], guard := none }) (v := ?_) rfl (by kernel_rfl) (by kernel_rfl) (by kernel_rfl) (fun _ _ _ h => h) (Or.inl ⟨by rfl, ?_⟩) (by assumption) ?_
            rotate_left
            · intro W hSw
              clear hSw
              go_simp
              try with_reducible rfl
            simp only [Act.put, List.setIfInBounds_toArray, List.set_cons_zero, List.set_cons_succ]
            refine wpAnyH_take (i := 11) (oi := { dst := some 140, op := Op.move (Operand.tmp 139), type := 4, pos := "outright.go:363", after := #[{ on := 10, ground := Ground.data }, { on := 8, ground := Ground.chain }], guard := none }) (v := ?_) rfl (by kernel_rfl) (by kernel_rfl) (by kernel_rfl) (fun _ _ _ h => h) (Or.inl ⟨by rfl, ?_⟩) (by assumption) ?_
            rotate_left
            · intro W hSw
              clear hSw
              go_simp
              try with_reducible rfl
            simp only [Act.put, List.setIfInBounds_toArray, List.set_cons_zero, List.set_cons_succ]
            refine wpAnyH_take (i := 12) (oi := { dst := some 141, op := Op.move (Operand.tmp 5), type := 22, pos := "outright.go:363", after := #[{ on := 11, ground := Ground.guard }], guard := some (11, false) }) (v := ?_) rfl (by kernel_rfl) (by kernel_rfl) (by kernel_rfl) (fun _ _ _ h => h) (Or.inl ⟨by rfl, ?_⟩) (by assumption) ?_
            rotate_left
            · intro W hSw
              clear hSw
              go_simp
              try with_reducible rfl
            simp only [Act.put, List.setIfInBounds_toArray, List.set_cons_zero, List.set_cons_succ]
            refine wpAnyH_take (i := 14) (oi := { dst := some 143, op := Op.fieldAddr 45 (Operand.tmp 2) 1, type := 0, pos := "outright.go:363", after := #[{ on := 11, ground := Ground.guard }], guard := some (11, false) }) (v := ?_) rfl (by kernel_rfl) (by kernel_rfl) (by kernel_rfl) (fun _ _ _ h => h) (Or.inl ⟨by rfl, ?_⟩) (by assumption) ?_
            rotate_left
            · intro W hSw
              clear hSw
              go_simp
              try with_reducible rfl
            simp only [Act.put, List.setIfInBounds_toArray, List.set_cons_zero, List.set_cons_succ]
            refine wpAnyH_take (i := 15) (oi := { dst := some 144, op := Op.load 3 (Operand.tmp 143), type := 3, pos := "outright.go:363", after := #[{ on := 14, ground := Ground.data }, { on := 11, ground := Ground.guard }], guard := some (11, false) }) (v := ?_) rfl (by kernel_rfl) (by kernel_rfl) (by kernel_rfl) (fun _ _ _ h => h) (Or.inl ⟨by rfl, ?_⟩) (by assumption) ?_
            rotate_left
            · intro W hSw
              have q1 := hSw.cell 1
              simp only [List.getElem?_toArray, List.getElem?_cons_zero, List.getElem?_cons_succ] at q1
              clear hSw
              go_simp
              try with_reducible rfl
            simp only [Act.put, List.setIfInBounds_toArray, List.set_cons_zero, List.set_cons_succ]
            refine wpAnyH_ready (rs := [13]) (by kernel_rfl) (by simp) (AllReadyH.cons (o := { dst := some 142, op := Op.call { callee := Callee.value (Operand.func 23), args := #[Operand.tmp 141], argTypes := #[22] }, type := 3, pos := "outright.go:363", after := #[{ on := 12, ground := Ground.data }, { on := 11, ground := Ground.chain }, { on := 11, ground := Ground.guard }], guard := some (11, false) }) rfl (fun K hK => ?_) AllReadyH.nil)
            have HCL := Lib.hid (mq_active HQ1.out (by have := HTT.out; omega))
            go_simp
            refine HCL.out.mono ?_
            rintro e Wf ⟨rfl, hb⟩
            replace HQ1 := Lib.hid (HQ1.out.later hb)
            replace KCW := Lib.hid (KCW.out.later hb)
            replace HBW := Lib.hid (stepB HBW.out hb)
            clear hb hHeld HCL
            refine hK.out _ _ (KCW.out) (fun hHeld => ?_)
            clear hK K
            refine wpAnyH_take (i := 16) (oi := { dst := some 145, op := Op.binOp BinOp.gtr 3 (Operand.tmp 142) (Operand.tmp 144) 3, type := 4, pos := "outright.go:363", after := #[{ on := 13, ground := Ground.data }, { on := 15, ground := Ground.data }, { on := 11, ground := Ground.guard }], guard := some (11, false) }) (v := ?_) rfl (by kernel_rfl) (by kernel_rfl) (by kernel_rfl) (fun _ _ _ h => h) (Or.inl ⟨by rfl, ?_⟩) (by assumption) ?_
            rotate_left
            · intro W hSw
              clear hSw
              go_simp
              try with_reducible rfl
            simp only [Act.put, List.setIfInBounds_toArray, List.set_cons_zero, List.set_cons_succ]
            refine wpAnyH_take (i := 17) (oi := { dst := some 146, op := Op.pick (Operand.tmp 140) (Operand.const (Value.bool true)) (Operand.tmp 145), type := 4, pos := "outright.go:363", after := #[{ on := 11, ground := Ground.data }, { on := 16, ground := Ground.data }], guard := none }) (v := ?_) rfl (by kernel_rfl) (by kernel_rfl) (by kernel_rfl) (fun _ _ _ h => h) (Or.inl ⟨by rfl, ?_⟩) (by assumption) ?_
            rotate_left
            · intro W hSw
              clear hSw
              go_simp
              try with_reducible rfl
            simp only [Act.put, List.setIfInBounds_toArray, List.set_cons_zero, List.set_cons_succ]
            refine wpAnyH_take (i := 18) (oi := { dst := some 147, op := Op.move (Operand.tmp 146), type := 4, pos := "outright.go:363", after := #[{ on := 17, ground := Ground.data }, { on := 13, ground := Ground.chain }], guard := none }) (v := ?_) rfl (by kernel_rfl) (by kernel_rfl) (by kernel_rfl) (fun _ _ _ h => h) (Or.inl ⟨by rfl, ?_⟩) (by assumption) ?_
            rotate_left
            · intro W hSw
              clear hSw
              go_simp
              try with_reducible rfl
            simp only [Act.put, List.setIfInBounds_toArray, List.set_cons_zero, List.set_cons_succ]
            refine wpAnyH_take (i := 19) (oi := { dst := some 148, op := Op.move (Operand.tmp 5), type := 22, pos := "outright.go:363", after := #[{ on := 18, ground := Ground.guard }], guard := some (18, false) }) (v := ?_) rfl (by kernel_rfl) (by kernel_rfl) (by kernel_rfl) (fun _ _ _ h => h) (Or.inl ⟨by rfl, ?_⟩) (by assumption) ?_
            rotate_left
            · intro W hSw
              clear hSw
              go_simp
              try with_reducible rfl
            simp only [Act.put, List.setIfInBounds_toArray, List.set_cons_zero, List.set_cons_succ]
            refine wpAnyH_take (i := 21) (oi := { dst := some 150, op := Op.fieldAddr 45 (Operand.tmp 2) 4, type := 0, pos := "outright.go:363", after := #[{ on := 18, ground := Ground.guard }], guard := some (18, false) }) (v := ?_) rfl (by kernel_rfl) (by kernel_rfl) (by kernel_rfl) (fun _ _ _ h => h) (Or.inl ⟨by rfl, ?_⟩) (by assumption) ?_
            rotate_left
            · intro W hSw
              clear hSw
              go_simp
              try with_reducible rfl
            simp only [Act.put, List.setIfInBounds_toArray, List.set_cons_zero, List.set_cons_succ]
            refine wpAnyH_take (i := 22) (oi := { dst := some 151, op := Op.load 3 (Operand.tmp 150), type := 3, pos := "outright.go:363", after := #[{ on := 21, ground := Ground.data }, { on := 18, ground := Ground.guard }], guard := some (18, false) }) (v := ?_) rfl (by kernel_rfl) (by kernel_rfl) (by kernel_rfl) (fun _ _ _ h => h) (Or.inl ⟨by rfl, ?_⟩) (by assumption) ?_
            rotate_left
            · intro W hSw
              have q4 := hSw.cell 4
              simp only [List.getElem?_toArray, List.getElem?_cons_zero, List.getElem?_cons_succ] at q4
              clear hSw
              go_simp
              try with_reducible rfl
            simp only [Act.put, List.setIfInBounds_toArray, List.set_cons_zero, List.set_cons_succ]
            refine wpAnyH_ready (rs := [20]) (by kernel_rfl) (by simp) (AllReadyH.cons (o := { dst := some 149, op := Op.call { callee := Callee.value (Operand.func 24), args := #[Operand.tmp 148], argTypes := #[22] }, type := 3, pos := "outright.go:363", after := #[{ on := 19, ground := Ground.data }, { on := 18, ground := Ground.chain }, { on := 18, ground := Ground.guard }], guard := some (18, false) }) rfl (fun K hK => ?_) AllReadyH.nil)
            have HCL := Lib.hid (mq_clock HQ1.out)
            go_simp
            refine HCL.out.mono ?_
            rintro e w9 ⟨rfl, rfl⟩
            clear hHeld HCL
            refine hK.out _ _ (KCW.out) (fun hHeld => ?_)
            clear hK K
            refine wpAnyH_take (i := 23) (oi := { dst := some 152, op := Op.binOp BinOp.gtr 3 (Operand.tmp 149) (Operand.tmp 151) 3, type := 4, pos := "outright.go:363", after := #[{ on := 20, ground := Ground.data }, { on := 22, ground := Ground.data }, { on := 18, ground := Ground.guard }], guard := some (18, false) }) (v := ?_) rfl (by kernel_rfl) (by kernel_rfl) (by kernel_rfl) (fun _ _ _ h => h) (Or.inl ⟨by rfl, ?_⟩) (by assumption) ?_
            rotate_left
            · intro W hSw
              clear hSw
              go_simp
              try with_reducible rfl
            simp only [Act.put, List.setIfInBounds_toArray, List.set_cons_zero, List.set_cons_succ]
            refine wpAnyH_take (i := 24) (oi := { dst := some 153, op := Op.pick (Operand.tmp 147) (Operand.const (Value.bool true)) (Operand.tmp 152), type := 4, pos := "outright.go:363", after := #[{ on := 18, ground := Ground.data }, { on := 23, ground := Ground.data }], guard := none }) (v := ?_) rfl (by kernel_rfl) (by kernel_rfl) (by kernel_rfl) (fun _ _ _ h => h) (Or.inl ⟨by rfl, ?_⟩) (by assumption) ?_
            rotate_left
            · intro W hSw
              clear hSw
              go_simp
              try with_reducible rfl
            simp only [Act.put, List.setIfInBounds_toArray, List.set_cons_zero, List.set_cons_succ]
            refine wpAnyH_take (i := 25) (oi := { dst := some 154, op := Op.move (Operand.tmp 153), type := 4, pos := "outright.go:363", after := #[{ on := 24, ground := Ground.data }, { on := 20, ground := Ground.chain }], guard := none }) (v := ?_) rfl (by kernel_rfl) (by kernel_rfl) (by kernel_rfl) (fun _ _ _ h => h) (Or.inl ⟨by rfl, ?_⟩) (by assumption) ?_
            rotate_left
            · intro W hSw
              clear hSw
              go_simp
              try with_reducible rfl
            simp only [Act.put, List.setIfInBounds_toArray, List.set_cons_zero, List.set_cons_succ]
            refine wpAnyH_take (i := 26) (oi := { dst := some 155, op := Op.move (Operand.tmp 5), type := 22, pos := "outright.go:363", after := #[{ on := 25, ground := Ground.guard }], guard := some (25, false) }) (v := ?_) rfl (by kernel_rfl) (by kernel_rfl) (by kernel_rfl) (fun _ _ _ h => h) (Or.inl ⟨by rfl, ?_⟩) (by assumption) ?_
            rotate_left
            · intro W hSw
              clear hSw
              go_simp
              try with_reducible rfl
            simp only [Act.put, List.setIfInBounds_toArray, List.set_cons_zero, List.set_cons_succ]
            refine wpAnyH_take (i := 28) (oi := { dst := some 157, op := Op.move (Operand.tmp 5), type := 22, pos := "outright.go:363", after := #[{ on := 25, ground := Ground.guard }], guard := some (25, false) }) (v := ?_) rfl (by kernel_rfl) (by kernel_rfl) (by kernel_rfl) (fun _ _ _ h => h) (Or.inl ⟨by rfl, ?_⟩) (by assumption) ?_
            rotate_left
            · intro W hSw
              clear hSw
              go_simp
              try with_reducible rfl
            simp only [Act.put, List.setIfInBounds_toArray, List.set_cons_zero, List.set_cons_succ]
            refine wpAnyH_ready (rs := [27]) (by kernel_rfl) (by simp) (AllReadyH.cons (o := { dst := some 156, op := Op.call { callee := Callee.value (Operand.func 25), args := #[Operand.tmp 155], argTypes := #[22] }, type := 3, pos := "outright.go:363", after := #[{ on := 26, ground := Ground.data }, { on := 25, ground := Ground.chain }, { on := 25, ground := Ground.guard }], guard := some (25, false) }) rfl (fun K hK => ?_) AllReadyH.nil)
            have HCL := Lib.hid (mq_floor HQ1.out)
            go_simp
            refine HCL.out.mono ?_
            rintro e w9 ⟨rfl, rfl⟩
            clear hHeld HCL
            refine hK.out _ _ (KCW.out) (fun hHeld => ?_)
            clear hK K
            refine wpAnyH_ready (rs := [29]) (by kernel_rfl) (by simp) (AllReadyH.cons (o := { dst := some 158, op := Op.call { callee := Callee.value (Operand.func 24), args := #[Operand.tmp 157], argTypes := #[22] }, type := 3, pos := "outright.go:363", after := #[{ on := 28, ground := Ground.data }, { on := 27, ground := Ground.chain }, { on := 25, ground := Ground.guard }], guard := some (25, false) }) rfl (fun K hK => ?_) AllReadyH.nil)
            have HCL := Lib.hid (mq_clock HQ1.out)
            go_simp
            refine HCL.out.mono ?_
            rintro e w9 ⟨rfl, rfl⟩
            clear hHeld HCL
            refine hK.out _ _ (KCW.out) (fun hHeld => ?_)
            clear hK K
            refine wpAnyH_take (i := 30) (oi := { dst := some 159, op := Op.binOp BinOp.gtr 3 (Operand.tmp 156) (Operand.tmp 158) 3, type := 4, pos := "outright.go:363", after := #[{ on := 27, ground := Ground.data }, { on := 29, ground := Ground.data }, { on := 25, ground := Ground.guard }], guard := some (25, false) }) (v := ?_) rfl (by kernel_rfl) (by kernel_rfl) (by kernel_rfl) (fun _ _ _ h => h) (Or.inl ⟨by rfl, ?_⟩) (by assumption) ?_
            rotate_left
            · intro W hSw
              clear hSw
              go_simp
              try with_reducible rfl
            simp only [Act.put, List.setIfInBounds_toArray, List.set_cons_zero, List.set_cons_succ]
            refine wpAnyH_take (i := 31) (oi := { dst := some 160, op := Op.pick (Operand.tmp 154) (Operand.const (Value.bool true)) (Operand.tmp 159), type := 4, pos := "outright.go:363", after := #[{ on := 25, ground := Ground.data }, { on := 30, ground := Ground.data }], guard := none }) (v := ?_) rfl (by kernel_rfl) (by kernel_rfl) (by kernel_rfl) (fun _ _ _ h => h) (Or.inl ⟨by rfl, ?_⟩) (by assumption) ?_
            rotate_left
            · intro W hSw
              clear hSw
              go_simp
              try with_reducible rfl
            simp only [Act.put, List.setIfInBounds_toArray, List.set_cons_zero, List.set_cons_succ]
            refine wpAnyH_done (by kernel_rfl) (NoPanic.normal ?_) _
            clear hHeld
            go_wp2
            have hlt := HLT.out
            refine ⟨⟨k + 1, own9, by omega, by go_num, by rw [HTK2.out]; exact HQ1.out, KCW.out, HBW.out⟩, ?_⟩
            simp [intOf]; omega
      · obtain rfl : n = k := by omega
        have d2 : decide ((n : Int) < (n : Int)) = false := decide_eq_false (by omega)
        go_wp2
        go_ret
        exact ⟨rfl, HBW.out⟩
end Go.Proofs.Ytoinjnocopejjaa.modelMany
